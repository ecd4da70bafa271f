/- The document's registers, digits and kinds (register, Digits, kind): read off the program by the walk. Conditions: the words are short enough to lie in memory. -/
import Derived.Test.YthfchelkfbboaaaGreatDoorDn
namespace Go.Proofs.YthfchelkfbboaaaGreatDoor.Pr
open Go.ChangeShapes Go.WideShapes Go.ChangeAt Go.RowKit
open _root_.Go.Proofs.YthfchelkfbboaaaGreatDoor.Op
set_option maxRecDepth 20000

/-- The document's register: its number and whether it is one. -/
def regD' (s : List UInt8) : Int × Bool := if s.length < 2 ∨ s.head? ≠ some 114 ∨ s[1]? = some 45 then (0, false) else ((numD (s.drop 1) 0 31).1 % 256, (numD (s.drop 1) 0 31).2)
theorem byte114 (b : UInt8) : (b.toNat : Int) = 114 ↔ b = 114 := by
  rw [← UInt8.toNat_inj]; simp; omega
theorem second_get (S : ByteArray) (h : 1 < S.size) : S.data.toList[1]? = some S[1] := by
  rw [List.getElem?_eq_getElem (show 1 < S.data.toList.length from h)]; rfl
set_option maxHeartbeats 1000000 in
theorem register_doc (s : ByteArray) (w : World) (hs : s.size ≤ 65536) :
    Calls Tryz.prog 53 #[.string s] w fun e w' => e = .returned (.tuple #[.int .u8 (regD' s.data.toList).1, .bool (regD' s.data.toList).2]) ∧ w' = w := by
  have hl : s.data.toList.length = s.size := rfl
  by_cases h2 : s.size < 2
  · have e1 : regD' s.data.toList = (0, false) := by rw [regD', if_pos (.inl (by rw [hl]; exact h2))]
    rw [e1]
    have i2 : decide ((s.size : Int) < 2) = true := decide_eq_true (by omega)
    clear e1 hl
    go_enter Tryz.func53, Tryz.ntmps53
    go_wp2
    go_returns
    exact ⟨rfl, rfl⟩
  · have hp : 0 < s.size := by omega
    have hp1 : 1 < s.size := by omega
    have i2 : decide ((s.size : Int) < 2) = false := decide_eq_false (by omega)
    have hh := head_get s hp
    have hh1 := second_get s hp1
    by_cases h0 : s[0] = 114
    · have h0i : ((s[0].toNat : Int) != 114) = false := by simpa using (byte114 s[0]).2 h0
      by_cases h1 : s[1] = 45
      · have h1i : ((s[1].toNat : Int) == 45) = true := by simpa using (byte45 s[1]).2 h1
        have e1 : regD' s.data.toList = (0, false) := by rw [regD', if_pos (.inr (.inr (by rw [hh1, h1])))]
        rw [e1]
        clear e1 hl hh hh1 h0 h1
        go_enter Tryz.func53, Tryz.ntmps53
        go_wp2
        go_returns
        exact ⟨rfl, rfl⟩
      · have h1i : ((s[1].toNat : Int) == 45) = false := by simpa using fun h => h1 ((byte45 s[1]).1 h)
        have e1 : regD' s.data.toList = ((numD (s.data.toList.drop 1) 0 31).1 % 256, (numD (s.data.toList.drop 1) 0 31).2) := by
          rw [regD', if_neg]
          rintro (h | h | h)
          · rw [hl] at h; omega
          · rw [hh, h0] at h; exact h rfl
          · rw [hh1] at h; injection h with h; exact h1 h
        rw [e1]
        have he : (s.extract 1 s.size).data.toList = s.data.toList.drop 1 := Lib.extract_to_end s 1
        have HN : Hid (∀ W, Calls Tryz.prog 52 #[.string (s.extract 1 s.size), .int .i64 0, .int .i64 31] W fun e w' => e = .returned (.tuple #[.int .i64 (numD (s.data.toList.drop 1) 0 31).1, .bool (numD (s.data.toList.drop 1) 0 31).2]) ∧ w' = W) := fun W => by
          have h := number_doc (s.extract 1 s.size) 0 31 W (by simp; omega)
          rw [he] at h; exact h
        clear e1 hl hh hh1 h0 h1 he
        generalize numD (s.data.toList.drop 1) 0 31 = V at *
        obtain ⟨v, b⟩ := V
        go_enter Tryz.func53, Tryz.ntmps53
        go_wp2_with (first | (go_at_call 52; refine Calls.mono (HN.out _) ?_; rintro e w2 ⟨rfl, hw⟩; subst w2))
        go_returns
        exact ⟨rfl, rfl⟩
    · have h0i : ((s[0].toNat : Int) != 114) = true := by simpa using fun h => h0 ((byte114 s[0]).1 h)
      have e1 : regD' s.data.toList = (0, false) := by rw [regD', if_pos (.inr (.inl (by rw [hh]; simpa using h0)))]
      rw [e1]
      clear e1 hl hh hh1 h0
      go_enter Tryz.func53, Tryz.ntmps53
      go_wp2
      go_returns
      exact ⟨rfl, rfl⟩
theorem dec_len : ∀ (n u : Nat), u < 10 ^ (n + 1) → (Lib.decDigits u).length ≤ n + 1
  | 0, u, h => by rw [Lib.decDigits, dif_pos (by simpa using h)]; simp
  | n + 1, u, h => by
    rw [Lib.decDigits]
    split
    · simp
    · have := dec_len n (u / 10) (by rw [Nat.pow_succ] at h; omega)
      simp; omega
theorem cat_two (a b : ByteArray) (n m : Nat) (ha : a.size ≤ n) (hb : b.size ≤ m) (h : n + m ≤ 1000000) :
    ∃ c : ByteArray, c.data.toList = a.data.toList ++ b.data.toList ∧ c.size ≤ n + m ∧ ∀ (P : Program) (w : World), (Op.stringOp .add a b).run P w = .ok (.string c) w :=
  ⟨a ++ b, by rw [ByteArray.data_append, Array.toList_append], by rw [ByteArray.size_append]; omega, fun P w => run_string_add_sum (P := P) w a b (by omega)⟩
def itS (n : Int) : ByteArray := ⟨(Lib.itoa n).toArray⟩
def dg (m : Nat) : UInt8 := UInt8.ofNat (48 + m % 10)
theorem encode_dg (m : Nat) : Utf8.encode (48 + (m : Int) % 10) = ⟨#[dg m]⟩ := by
  have h : m % 10 < 10 := by omega
  have e : (48 + (m : Int) % 10) = ((48 + m % 10 : Nat) : Int) := by omega
  rw [e]
  unfold dg
  generalize m % 10 = r at *
  match r, h with
  | 0, _ => rfl
  | 1, _ => rfl
  | 2, _ => rfl
  | 3, _ => rfl
  | 4, _ => rfl
  | 5, _ => rfl
  | 6, _ => rfl
  | 7, _ => rfl
  | 8, _ => rfl
  | 9, _ => rfl
  | _ + 10, h => exact absurd h (by omega)
/-- the digits ahead of the last -/
def pre (m : Nat) : List UInt8 := if m < 10 then [] else Lib.decDigits (m / 10)
theorem dec_pre (m : Nat) : Lib.decDigits m = pre m ++ [dg m] := by
  unfold pre dg
  rw [Lib.decDigits]
  split
  · rename_i h; rw [Nat.mod_eq_of_lt h]; rfl
  · rfl
theorem pre_step {m : Nat} {L t : List UInt8} (h : pre m ++ t = L) (hm : 9 < m) : pre (m / 10) ++ (dg (m / 10) :: t) = L := by
  rw [← h]
  have : pre m = Lib.decDigits (m / 10) := by unfold pre; rw [if_neg (by omega)]
  rw [this, dec_pre (m / 10)]
  simp
theorem digits_nat (n : Nat) (w : World) (h1 : n ≤ 9223372036854775807) : Calls Tryz.prog 29 #[.int .i64 (n : Int)] w fun e w' => e = .returned (.string (itS n)) ∧ w' = w := by
  have HI : Hid (itS n = ⟨(Lib.decDigits n).toArray⟩) := by
    show _ = _
    unfold itS Lib.itoa
    rw [if_neg (by omega)]; rfl
  have HL : Hid ((Lib.decDigits n).length ≤ 19) := dec_len 18 n (by omega)
  have ht : (n : Int).tmod 10 = (n : Int) % 10 := Int.tmod_eq_emod_of_nonneg (by omega)
  have he := encode_dg n
  have n0 : ¬ ((n : Int) < 0) := by omega
  go_enter Tryz.func29, Tryz.ntmps29
  go_wp2
  go_loop [0, 3] (fun v s => ∃ (m : Nat) (t : ByteArray), m ≤ n ∧ v = .int .i64 m ∧ s = .string t ∧ Hid (pre m ++ t.data.toList = Lib.decDigits n)) (fun v _ => (intOf v).toNat)
  case atStart => exact ⟨n, ⟨#[dg n]⟩, by omega, rfl, rfl, (by rw [dec_pre n] : pre n ++ [dg n] = Lib.decDigits n)⟩
  case round =>
    obtain ⟨m, t, hm, rfl, rfl, HP⟩ := hrel
    by_cases hlt : 9 < m
    · have hq : (m : Int).tdiv 10 = ((m / 10 : Nat) : Int) := by rw [Int.tdiv_eq_ediv_of_nonneg (by omega)]; omega
      have hr : ((m / 10 : Nat) : Int).tmod 10 = ((m / 10 : Nat) : Int) % 10 := Int.tmod_eq_emod_of_nonneg (by omega)
      have he2 := encode_dg (m / 10)
      have i1 : (9 : Int) < (m : Int) := by omega
      have hts : t.size ≤ 19 := by
        have h := HP.out
        have hl := HL.out
        rw [← h, List.length_append] at hl
        show t.data.toList.length ≤ 19
        omega
      obtain ⟨c, hc, hz, hcr⟩ := cat_two ⟨#[dg (m / 10)]⟩ t 1 19 (Nat.le_refl _) hts (by omega)
      have HN : Hid (pre (m / 10) ++ c.data.toList = Lib.decDigits n) := by
        show _ = _
        rw [hc]
        exact pre_step HP.out hlt
      clear hc hz HP
      have hq0 : (0 : Int) ≤ ((m / 10 : Nat) : Int) := by omega
      have hq1 : ((m / 10 : Nat) : Int) ≤ 9223372036854775807 := by omega
      have hmm : m / 10 < m := by omega
      generalize hqn : m / 10 = q at *
      go_wp2
      go_round
      case rel => exact ⟨q, c, by omega, rfl, rfl, HN⟩
      case measure => simp [intOf]; omega
    · have i1 : ¬ ((9 : Int) < (m : Int)) := by omega
      have h := HP.out
      rw [show pre m = [] by unfold pre; rw [if_pos (by omega)], List.nil_append] at h
      have ht2 : t = itS n := by rw [HI.out]; exact ba_eq h
      clear HP h
      subst ht2
      go_wp2
      go_ret
      exact ⟨rfl, rfl⟩

/-- The document's kind of a name. -/
def kindD (s : List UInt8) : Int × Bool := match shapeOf s with | some x => (x.1, true) | none => (0, false)
theorem shape_kind : ∀ j, j < 17 → ∃ k, kindL[j + 1]? = some k ∧ shapeL[j]? = some (k.name, j + 1, (if k.D then 1 else 0) + (if k.A then 2 else 0) + (if k.B then 4 else 0) + (if k.I then 8 else 0)) := by
  intro j hj
  have h : ∀ j : Fin 17, shapeL[j.1]? = (kindL[j.1 + 1]?).map fun k => (k.name, j.1 + 1, (if k.D then 1 else 0) + (if k.A then 2 else 0) + (if k.B then 4 else 0) + (if k.I then 8 else 0)) := by decide +kernel
  have h2 := h ⟨j, hj⟩
  simp only at h2
  have hl : kindL.length = 24 := rfl
  exact ⟨kindL[j + 1]'(by omega), List.getElem?_eq_getElem _, by rw [h2, List.getElem?_eq_getElem (show j + 1 < kindL.length by omega)]; rfl⟩
theorem find_step {s : List UInt8} {j : Nat} {x : List UInt8 × Nat × Nat} (hx : shapeL[j]? = some x) : (shapeL.drop j).find? (fun y => y.1 == s) = if x.1 == s then some x else (shapeL.drop (j + 1)).find? (fun y => y.1 == s) := by
  obtain ⟨hj, rfl⟩ := List.getElem?_eq_some_iff.1 hx
  rw [List.drop_eq_getElem_cons hj, List.find?_cons]
  cases shapeL[j].1 == s <;> rfl
set_option maxHeartbeats 2000000 in
theorem kind_doc (s : List UInt8) (w : World) :
    Calls Tryz.prog 50 #[.string ⟨s.toArray⟩] w fun e w' => e = .returned (.tuple #[.int .i8 (kindD s).1, .bool (kindD s).2]) ∧ Below w.heap.size w w' := by
  generalize hV : kindD s = V
  have HV : Hid (kindD s = V) := hV
  clear hV
  go_enter Tryz.func50, Tryz.ntmps50
  go_wp2
  go_loopw [4] (fun iv wr => ∃ j : Nat, j ≤ 17 ∧ iv = .int .i8 ((j + 1 : Nat) : Int) ∧ Hid (shapeOf s = ((shapeL.drop j).find? fun y => y.1 == s).map (·.2)) ∧ Below w.heap.size w wr) (fun iv _ => 18 - (intOf iv).toNat)
  case atStart => exact ⟨0, by omega, rfl, (rfl : _ = _), Below.refl _ _⟩
  case round =>
    rename World => wr
    obtain ⟨j, hj, rfl, HS, hb⟩ := hrel
    by_cases hlt : j < 17
    · obtain ⟨k, hk, hsh⟩ := shape_kind j hlt
      have hko : kOf ((j + 1 : Nat) : Int) = some k := by
        unfold kOf
        rw [if_pos (by omega)]
        exact hk
      have HO : Hid (∀ W, Calls Tryz.prog 71 #[.int .i8 ((j + 1 : Nat) : Int)] W fun e w' => e = .returned (.tuple #[.agg #[.string ⟨k.name.toArray⟩, .int .i64 k.cls, .bool k.D, .bool k.A, .bool k.B, .bool k.N, .bool k.I], .bool true]) ∧ Below W.heap.size W w') := fun W => of_yes _ k W hko
      have HB : Hid _ := hb
      have hst := HS.out
      rw [find_step hsh] at hst
      simp only at hst
      clear hko hk hsh hb
      by_cases hn : k.name = s
      · rw [if_pos (by simpa using hn)] at hst
        have HR : Hid (V = (((j + 1 : Nat) : Int), true)) := by rw [← HV.out, kindD, hst]; rfl
        clear hst
        subst hn
        have i1 : ((j + 1 : Nat) : Int) ≤ 17 := by omega
        generalize hq : ((j + 1 : Nat) : Int) = q at *
        go_wp2_with (first | (go_at_call 71; refine Calls.mono (HO.out _) ?_; rintro e w2 ⟨rfl, hb⟩; have HC : Hid (Below w.heap.size w w2) := HB.out.trans (hb.mono HB.out.size); clear hb HB))
        go_returns
        rw [HR.out]
        exact ⟨rfl, HC.out.alloc HC.out.size _⟩
      · rw [if_neg (by simpa using hn)] at hst
        have HS2 : Hid _ := hst
        clear hst
        have hne : (k.name == s) = false := by simpa using hn
        have i1 : ((j + 1 : Nat) : Int) ≤ 17 := by omega
        go_wp2_with (first | (go_at_call 71; refine Calls.mono (HO.out _) ?_; rintro e w2 ⟨rfl, hb⟩; have HC : Hid (Below w.heap.size w w2) := HB.out.trans (hb.mono HB.out.size); clear hb HB))
        go_roundw
        case rel => exact ⟨j + 1, by omega, by go_num, HS2, HC.out.alloc HC.out.size _⟩
        case measure => simp [intOf]; omega
    · obtain rfl : j = 17 := by omega
      have HR : Hid (V = (0, false)) := by rw [← HV.out, kindD, HS.out]; rfl
      go_wp2
      go_returns
      rw [HR.out]
      exact ⟨rfl, hb⟩
end Go.Proofs.YthfchelkfbboaaaGreatDoor.Pr
