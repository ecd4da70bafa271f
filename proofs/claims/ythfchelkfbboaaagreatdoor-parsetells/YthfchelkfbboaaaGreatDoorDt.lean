/- The words of a line as the code's reader and as the document's take them: plain mathematics. Conditions: none. -/
import Derived.Test.YthfchelkfbboaaaGreatDoorDq
import Derived.Test.YthfchelkfbboaaaGreatDoorDp
namespace Go.Proofs.YthfchelkfbboaaaGreatDoor.Pr
open _root_.Go.Proofs.YthfchelkfbboaaaGreatDoor.Op

theorem take_at (l : Ln) (i : Nat) : takeR ⟨l.ws.drop i, l.en⟩ = (wordR l i).bind fun x => .ok (x, ⟨l.ws.drop (i + 1), l.en⟩) := by
  unfold takeR wordR
  rcases Nat.lt_or_ge i l.ws.length with h | h
  · rw [dif_pos h, List.drop_eq_getElem_cons h]; rfl
  · rw [dif_neg (by omega), List.drop_eq_nil_of_le h]; rfl
theorem num_at (l : Ln) (i : Nat) : numR ⟨l.ws.drop i, l.en⟩ = (numAt l i).bind fun v => .ok (v, ⟨l.ws.drop (i + 1), l.en⟩) := by
  unfold numR numAt
  rw [take_at]
  cases wordR l i with
  | no f => rfl
  | ok x =>
    simp only [R.bind]
    rw [numV_eq]
    cases (numD x.2 (-2147483648) 2147483647).2 <;> rfl
theorem reg_at (l : Ln) (i : Nat) : regR ⟨l.ws.drop i, l.en⟩ = (regAt l i).bind fun v => .ok (v.toNat, ⟨l.ws.drop (i + 1), l.en⟩) := by
  unfold regR regAt
  rw [take_at]
  cases wordR l i with
  | no f => rfl
  | ok x =>
    simp only [R.bind]
    have h := regV_eq x.2
    cases hb : (regD' x.2).2 with
    | true =>
      rw [hb, if_pos rfl] at h
      obtain ⟨n, h1, h2⟩ := Option.map_eq_some_iff.1 h
      rw [h1, ← h2]
      simp
    | false =>
      rw [hb, if_neg (by simp)] at h
      rw [Option.map_eq_none_iff.1 h]
      simp
theorem close_at (l : Ln) (i : Nat) : closeR ⟨l.ws.drop i, l.en⟩ = endsR l i := by
  unfold closeR endsR
  rcases Nat.lt_or_ge i l.ws.length with h | h
  · rw [dif_pos h, List.drop_eq_getElem_cons h]
  · rw [dif_neg (by omega), List.drop_eq_nil_of_le h]
/-- A register of the document's is a number. -/
theorem regAt_nat {l : Ln} {i : Nat} {v : Int} (h : regAt l i = .ok v) : ((v.toNat : Nat) : Int) = v := by
  unfold regAt at h
  obtain ⟨x, h1, h2⟩ := bind_is h
  have he := regV_eq x.2
  split at h2
  · rename_i hb
    injection h2 with h2
    rw [hb, if_pos rfl] at he
    obtain ⟨n, _, h4⟩ := Option.map_eq_some_iff.1 he
    rw [← h2, ← h4]; simp
  · cases h2
def regN (l : Ln) (i : Nat) : R Nat := (regAt l i).bind fun v => .ok v.toNat
theorem regAt_N (l : Ln) (i : Nat) : regAt l i = (regN l i).bind fun n => .ok (n : Int) := by
  unfold regN
  cases h : regAt l i with
  | no f => rfl
  | ok v => show R.ok v = R.ok ((v.toNat : Nat) : Int); rw [regAt_nat h]
theorem reg_N (l : Ln) (i : Nat) : regR ⟨l.ws.drop i, l.en⟩ = (regN l i).bind fun n => .ok (n, ⟨l.ws.drop (i + 1), l.en⟩) := by
  rw [reg_at]
  unfold regN
  cases regAt l i <;> rfl
theorem flags (D A B I : Bool) : let f := (if D then 1 else 0) + (if A then 2 else 0) + (if B then 4 else 0) + (if I then 8 else 0); tells f 1 = D ∧ tells f 2 = A ∧ tells f 4 = B ∧ tells f 8 = I := by
  cases D <;> cases A <;> cases B <;> cases I <;> decide
/-- An operation's words are taken alike. -/
theorem read_op (d : Nat) (k : K) (l : Ln) : readR d ((if k.D then 1 else 0) + (if k.A then 2 else 0) + (if k.B then 4 else 0) + (if k.I then 8 else 0)) ⟨l.ws.tail, l.en⟩ = opAt d k l := by
  obtain ⟨h1, h2, h4, h8⟩ := flags k.D k.A k.B k.I
  unfold readR opAt
  rw [h1, h2, h4, h8, show l.ws.tail = l.ws.drop 1 by simp]
  clear h1 h2 h4 h8
  obtain ⟨nm, cls, D, A, B, nn, I⟩ := k
  simp only
  cases D <;> cases A <;> cases B <;> cases I <;> simp only [regIf, numIf, Bool.false_eq_true, if_true, if_false, reg_N, num_at, close_at, regAt_N, bind_assoc, R.bind_ok] <;> rfl
theorem shape_full {s : List UInt8} {sh : Nat × Nat} (h : shapeOf s = some sh) : ∃ k, kindL[sh.1]? = some k ∧ sh.2 = (if k.D then 1 else 0) + (if k.A then 2 else 0) + (if k.B then 4 else 0) + (if k.I then 8 else 0) := by
  unfold shapeOf at h
  obtain ⟨y, hy, rfl⟩ := Option.map_eq_some_iff.1 h
  have hm := List.mem_of_find?_eq_some hy
  obtain ⟨j, hj, rfl⟩ := List.getElem_of_mem hm
  have hl : shapeL.length = 17 := rfl
  obtain ⟨k, h1, h2⟩ := shape_kind j (by omega)
  rw [List.getElem?_eq_getElem hj] at h2
  injection h2 with h2
  rw [h2]
  exact ⟨k, h1, rfl⟩
/-- Lines of operations are taken alike. -/
theorem ops_same (m : Nat) : ∀ (t : List Ln) (n : Nat), opsR m t = ((opsD t n).bind fun x => .ok (x.1, nextL m (t.drop (x.2 - n)), (t.drop (x.2 - n)).tail)) ∧ ∀ x, opsD t n = .ok x → n ≤ x.2 ∧ x.2 ≤ n + t.length
  | [], n => ⟨by simp [opsR, opsD, R.bind, nextL], fun x h => by cases h; simp⟩
  | l :: t, n => by
    obtain ⟨ih1, ih2⟩ := ops_same m t (n + 1)
    unfold opsR opsD
    cases hs : shapeOf (firstL l) with
    | none => exact ⟨by simp [R.bind, nextL], fun x h => by cases h; simp⟩
    | some sh =>
      obtain ⟨k, hk, hf⟩ := shape_full hs
      simp only [hk]
      rw [hf, read_op sh.1 k l]
      cases opAt sh.1 k l with
      | no f => exact ⟨rfl, fun x h => by cases h⟩
      | ok o =>
        simp only [R.bind]
        rw [ih1]
        cases hd : opsD t (n + 1) with
        | no f => exact ⟨rfl, fun x h => by cases h⟩
        | ok x =>
          obtain ⟨h1, h2⟩ := ih2 x hd
          refine ⟨?_, fun y hy => ?_⟩
          · simp only [R.bind]
            rw [show x.2 - n = (x.2 - (n + 1)) + 1 by omega, List.drop_succ_cons]
          · cases hy
            simp only [List.length_cons]
            omega
end Go.Proofs.YthfchelkfbboaaaGreatDoor.Pr
