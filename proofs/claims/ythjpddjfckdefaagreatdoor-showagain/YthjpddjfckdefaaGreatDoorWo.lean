/- What package parse's wordsOf answers: a new slice that holds the words of a line with their places, up to a remark, read off the program by the walk. Conditions: the line has at most 200000 bytes. -/
import Derived.Test.YthjpddjfckdefaaGreatDoorNm
import Derived.Deep.AppendLies
namespace Go.Proofs.YthjpddjfckdefaaGreatDoor.Pr
open Go.ChangeShapes Go.WideShapes Go.ChangeAt Go.RowKit
open _root_.Go.Proofs.YthjpddjfckdefaaGreatDoor.Op
set_option maxRecDepth 20000

theorem info108 : (Tryz.prog.info? 108).map (fun i => (i.zero, i.size, i.bytes)) = some (some (.agg #[.int .i64 0, .string ⟨#[]⟩]), 2, 24) := by kernel_rfl

theorem isBlank_any (b : UInt8) (w : World) :
    Calls Tryz.prog 50 #[.int .u8 (b.toNat : Int)] w fun e w' => e = .returned (.bool (blankB b)) ∧ w' = w := by
  have e : blankB b = (decide ((b.toNat : Int) = 32) || decide ((b.toNat : Int) = 9)) := by
    rw [Bool.eq_iff_iff]; simp [blankB, ← UInt8.toNat_inj]; omega
  have hlt := b.toNat_lt
  rw [e]
  generalize (b.toNat : Int) = n at *
  by_cases h : n = 32
  · subst h
    go_enter Tryz.func50, Tryz.ntmps50
    go_wp2
    go_ret
    exact ⟨rfl, rfl⟩
  · have h1 : (n == 32) = false := by simpa using h
    go_enter Tryz.func50, Tryz.ntmps50
    go_wp2
    go_ret
    refine ⟨ret_bool ?_, rfl⟩
    simp only [h, decide_false, Bool.false_or]
    rw [Bool.eq_iff_iff]; simp

def wcells (ws : List Wd') : List Value := ws.flatMap fun x => [.int .i64 (x.1 : Int), .string ⟨x.2.toArray⟩]
theorem wcells_snoc (ws : List Wd') (x : Wd') : wcells (ws ++ [x]) = wcells ws ++ [.int .i64 (x.1 : Int), .string ⟨x.2.toArray⟩] := by simp [wcells]

theorem words_stop {L : List UInt8} {at0 k m : Nat} {acc W : List Wd'} (h : acc ++ wordsS (L.drop m) (at0 + m) (cutL L k m) = W) (he : L.length ≤ m ∨ ∃ hm : m < L.length, blankB L[m] = true) :
    acc ++ flush (at0 + m) (cutL L k m) ++ wordsS (L.drop (m + 1)) (at0 + (m + 1)) [] = W := by
  rw [← h]
  rcases he with he | ⟨hm, hb⟩
  · rw [wordsS_end L m _ _ he, wordsS_end L (m + 1) _ _ (by omega), flush_nil, List.append_nil]
  · rw [wordsS_blank L m _ _ hm hb, List.append_assoc, Nat.add_assoc]
theorem words_go {L : List UInt8} {at0 k m : Nat} {acc W : List Wd'} (h : acc ++ wordsS (L.drop m) (at0 + m) (cutL L k m) = W) (hkm : k ≤ m) (hm : m < L.length) (hb : blankB L[m] = false) (hh : ∀ hk : k < L.length, L[k] ≠ 35) :
    acc ++ wordsS (L.drop (m + 1)) (at0 + (m + 1)) (cutL L k (m + 1)) = W := by
  rw [← h, wordsS_step L m _ _ hm hb ?_, cutL_snoc L k m hkm hm, Nat.add_assoc]
  rcases Nat.lt_or_ge k m with h' | h'
  · right; exact cutL_ne L k m h' (by omega)
  · obtain rfl : k = m := by omega
    left; exact hh hm
theorem wordsS_ok : ∀ (s : List UInt8) (p : Nat) (cur : List UInt8), cur.length ≤ p → ∀ x ∈ wordsS s p cur, x.1 ≤ p + s.length ∧ x.2.length ≤ cur.length + s.length
  | [], p, cur, _, x, h => by
    simp only [wordsS, flush] at h
    split at h
    · simp at h
    · simp at h; subst h; simp
  | b :: r, p, cur, hc, x, h => by
    unfold wordsS at h
    split at h
    · rcases List.mem_append.1 h with h | h
      · simp only [flush] at h
        split at h
        · simp at h
        · simp at h; subst h; simp; omega
      · have := wordsS_ok r (p + 1) [] (by simp) x h
        simp at this ⊢; omega
    · split at h
      · simp at h
      · have := wordsS_ok r (p + 1) (cur ++ [b]) (by simp; omega) x h
        simp at this ⊢; omega
theorem wordsS_len : ∀ (s : List UInt8) (p : Nat) (cur : List UInt8), (wordsS s p cur).length ≤ s.length + 1
  | [], p, cur => by simp only [wordsS, flush]; split <;> simp
  | b :: r, p, cur => by
    unfold wordsS
    split
    · have h1 := wordsS_len r (p + 1) []
      have h2 : (flush p cur).length ≤ 1 := by unfold flush; split <;> simp
      simp; omega
    · split
      · simp
      · have := wordsS_len r (p + 1) (cur ++ [b])
        simp; omega

/-- What an append of one word leaves. -/
theorem words_put {w wr w1 : World} {v v1 : Value} {acc : List Wd'} {s : ByteArray} {at0 k m : Nat} {o : Obj} (hown : wr.ownsRow w.heap.size 108 2 v acc.length (wcells acc)) (hbw : Below w.heap.size w wr)
    (hown1 : w1.ownsRow w.heap.size 108 2 v1 (acc.length + 1) (wcells acc ++ [.int .i64 ((at0 : Int) + (k : Int)), .string (s.extract k m)])) (hg : (wr.alloc o).grownBy w1 v.ownBlock) :
    w1.ownsRow w.heap.size 108 2 v1 (acc ++ [(at0 + k, cutL s.data.toList k m)]).length (wcells (acc ++ [(at0 + k, cutL s.data.toList k m)])) ∧ Below w.heap.size w w1 := by
  refine ⟨?_, (hbw.alloc hbw.size _).grown hg (by have := hbw.size; simp; omega) (fun b hb => (hown.lt b hb).1)⟩
  rw [wcells_snoc, List.length_append, List.length_singleton, ← extract_eq]
  simpa using hown1
theorem byte35 (b : UInt8) : (b.toNat : Int) = 35 ↔ b = 35 := by
  rw [← UInt8.toNat_inj]; simp; omega

set_option maxHeartbeats 2000000 in
theorem wordsOf_any (s : ByteArray) (at0 : Nat) (w : World) (hs : s.size ≤ 200000) (ha : at0 ≤ 200000) :
    Calls Tryz.prog 40 #[.string s, .int .i64 at0] w fun e w' => ∃ v, e = .returned v ∧ w'.ownsRow w.heap.size 108 2 v (wordsS s.data.toList at0 []).length (wcells (wordsS s.data.toList at0 [])) ∧ Below w.heap.size w w' := by
  have hsl : s.data.toList.length = s.size := rfl
  have Hsl : Hid _ := hsl
  clear hsl
  obtain ⟨i0, hi, hi2⟩ := Option.map_eq_some_iff.1 info108
  simp only [Prod.mk.injEq] at hi2
  obtain ⟨hz0, hz1, hz2⟩ := hi2
  have HI : Hid (Tryz.prog.info? 108 = some i0 ∧ i0.zero = some (.agg #[.int .i64 0, .string ⟨#[]⟩]) ∧ i0.size = 2 ∧ i0.bytes = 24) := ⟨hi, hz0, hz1, hz2⟩
  clear hi hz0 hz1 hz2
  go_enter Tryz.func40, Tryz.ntmps40
  go_wp2
  go_loopw [5, 6] (fun v i wr => ∃ (k : Nat) (acc : List Wd'), k ≤ s.size + 1 ∧ acc.length ≤ k ∧ i = .int .i64 k ∧ Hid (acc ++ wordsS (s.data.toList.drop k) (at0 + k) [] = wordsS s.data.toList at0 []) ∧ wr.ownsRow w.heap.size 108 2 v acc.length (wcells acc) ∧ Below w.heap.size w wr) (fun _ i _ => s.size + 1 - (intOf i).toNat)
  case atStart => exact ⟨0, [], by omega, by simp, rfl, (rfl : _ = _), World.ownsRow_nil _ _ _ _, Below.refl _ _⟩
  case round =>
    rename_i wr
    obtain ⟨k, acc, hk, hac, rfl, Hacc, hown, hbw⟩ := hrel
    by_cases hlt : k < s.size
    · by_cases h35 : s[k] = 35
      · have h35i : ((s[k].toNat : Int) != 35) = false := by simpa using (byte35 s[k]).2 h35
        have HF : Hid (acc = wordsS s.data.toList at0 []) := by
          have h := Hacc.out
          rw [wordsS_hash _ _ _ (show k < s.data.toList.length from hlt) h35, List.append_nil] at h
          exact h
        clear h35
        go_wp2
        go_ret
        have h := HF.out
        subst h
        exact ⟨_, rfl, hown, hbw⟩
      · have h35i : ((s[k].toNat : Int) != 35) = true := by simpa using fun h => h35 ((byte35 s[k]).1 h)
        have H35 : Hid (∀ hk : k < s.data.toList.length, s.data.toList[k] ≠ 35) := fun _ => h35
        clear h35
        go_wp2
        go_loop [7] (fun j => ∃ m : Nat, k ≤ m ∧ m ≤ s.size ∧ j = .int .i64 m ∧ Hid (acc ++ wordsS (s.data.toList.drop m) (at0 + m) (cutL s.data.toList k m) = wordsS s.data.toList at0 [])) (fun j => s.size - (intOf j).toNat)
        case atStart => exact ⟨k, by omega, by omega, rfl, (by rw [cutL_same]; exact Hacc.out : _ = _)⟩
        case round =>
          obtain ⟨m, hkm, hm, rfl, Hm⟩ := hrel
          by_cases hgo : ∃ h : m < s.size, blankB s[m] = false
          · obtain ⟨hlt2, hbl⟩ := hgo
            go_wp2_with (first | (go_at_call 50; refine (isBlank_any _ _).mono ?_; rintro e w' ⟨rfl, hw⟩; subst w'))
            go_round
            case rel => exact ⟨m + 1, by omega, by omega, by go_num, (words_go Hm.out hkm hlt2 hbl H35.out : _ = _)⟩
            case measure => simp [intOf]; omega
          · have HX : Hid _ := words_stop Hm.out (by
              rcases Nat.lt_or_ge m s.size with h | h
              · right; refine ⟨h, ?_⟩
                cases hb : blankB s[m]
                · exact absurd ⟨h, hb⟩ hgo
                · exact hb
              · left; exact h)
            by_cases hkm2 : k = m
            · subst hkm2
              have HF : Hid (acc ++ wordsS (s.data.toList.drop (k + 1)) (at0 + (k + 1)) [] = wordsS s.data.toList at0 []) := by
                have h := HX.out
                rw [cutL_same, flush_nil, List.append_nil] at h
                exact h
              have hbl : blankB s[k] = true := by
                cases hb : blankB s[k]
                · exact absurd ⟨hlt, hb⟩ hgo
                · rfl
              clear hgo
              go_wp2_with (first | (go_at_call 50; refine (isBlank_any _ _).mono ?_; rintro e w' ⟨rfl, hw⟩; subst w'))
              go_roundw
              case rel => exact ⟨k + 1, acc, by omega, by omega, by go_num, HF, hown, hbw⟩
              case measure => simp [intOf]; omega
            · have hkl : k < m := by omega
              have HF : Hid (acc ++ [(at0 + k, cutL s.data.toList k m)] ++ wordsS (s.data.toList.drop (m + 1)) (at0 + (m + 1)) [] = wordsS s.data.toList at0 []) := by
                have h := HX.out
                rw [flush_cut s.data.toList k m at0 hkl hm] at h
                exact h
              by_cases hlt2 : m < s.size
              · have hbl : blankB s[m] = true := by
                  cases hb : blankB s[m]
                  · exact absurd ⟨hlt2, hb⟩ hgo
                  · rfl
                clear hgo
                go_wp2_with (first | (go_at_call 50; refine (isBlank_any _ _).mono ?_; rintro e w' ⟨rfl, hw⟩; subst w') | (at_builtin; refine wpList_append_lies _ rfl _ _ 92 rfl w.heap.size 108 i0 (.agg #[.int .i64 0, .string ⟨#[]⟩]) 2 24 Tryz.underlying92 HI.out.1 HI.out.2.1 HI.out.2.2.1 HI.out.2.2.2 rfl (by decide) _ _ _ rfl (hown.alloc _) ⟨wr.heap.size, 0, none⟩ 1 1 [.int .i64 ((at0 : Int) + (k : Int)), .string (s.extract k m)] rfl rfl (World.news_of_block (heap_alloc_new wr _)) (by simp [Value.oneCell']) (by decide) (by unfold maxLen; omega) (by omega) (by have := hbw.size; simp; omega) (wr.heap.size + 1) (by simp) ?_; intro g cap w1 hown1 hgrow hat hlt3))
                go_roundw
                case rel => exact ⟨m + 1, acc ++ [(at0 + k, cutL s.data.toList k m)], by omega, by simp; omega, by go_num, HF, words_put hown hbw hown1 hgrow⟩
                case measure => simp [intOf]; omega
              · obtain rfl : m = s.size := by omega
                clear hgo
                go_wp2_with (first | (go_at_call 50; refine (isBlank_any _ _).mono ?_; rintro e w' ⟨rfl, hw⟩; subst w') | (at_builtin; refine wpList_append_lies _ rfl _ _ 92 rfl w.heap.size 108 i0 (.agg #[.int .i64 0, .string ⟨#[]⟩]) 2 24 Tryz.underlying92 HI.out.1 HI.out.2.1 HI.out.2.2.1 HI.out.2.2.2 rfl (by decide) _ _ _ rfl (hown.alloc _) ⟨wr.heap.size, 0, none⟩ 1 1 [.int .i64 ((at0 : Int) + (k : Int)), .string (s.extract k s.size)] rfl rfl (World.news_of_block (heap_alloc_new wr _)) (by simp [Value.oneCell']) (by decide) (by unfold maxLen; omega) (by omega) (by have := hbw.size; simp; omega) (wr.heap.size + 1) (by simp) ?_; intro g cap w1 hown1 hgrow hat hlt3))
                go_roundw
                case rel => exact ⟨s.size + 1, acc ++ [(at0 + k, cutL s.data.toList k s.size)], by omega, by simp; omega, by go_num, HF, words_put hown hbw hown1 hgrow⟩
                case measure => simp [intOf]; omega
    · go_wp2
      go_ret
      have h := Hacc.out
      rw [wordsS_end _ _ _ _ (by rw [Hsl.out]; omega), flush_nil, List.append_nil] at h
      subst h
      exact ⟨_, rfl, hown, hbw⟩
theorem wcells_get (ws : List Wd') : ∀ (i : Nat) (h : i < ws.length), (wcells ws)[i * 2]? = some (.int .i64 (ws[i].1 : Int)) ∧ (wcells ws)[i * 2 + 1]? = some (.string ⟨ws[i].2.toArray⟩) := by
  induction ws with
  | nil => intro i h; simp at h
  | cons o r ih =>
    intro i h
    rw [show wcells (o :: r) = .int .i64 (o.1 : Int) :: .string ⟨o.2.toArray⟩ :: wcells r from rfl]
    cases i with
    | zero => exact ⟨rfl, rfl⟩
    | succ i =>
      have := ih i (by simpa using h)
      rw [show (i + 1) * 2 = i * 2 + 1 + 1 by omega]
      simpa using this
theorem addr_at (b f j : Nat) : (⟨b, f, none⟩ : Addr).add j = ⟨b, f + j, none⟩ := by simp [Addr.add]
/-- A row of words is words in memory. -/
theorem wsAt_row {w : World} {B q : Nat} {a : Option Addr} {n c : Nat} {ws : List Wd'} (h : w.ownsRow B 108 2 (.slice a n c) ws.length (wcells ws)) (hl : ws.length ≤ 100000) (hok : ∀ x ∈ ws, x.1 ≤ 65536 ∧ x.2.length ≤ 65536) (hq : w.heap.size ≤ q) : WsAt w q a ws := by
  refine ⟨hl, hok, fun h0 => ?_⟩
  rcases h.2 with ⟨_, h1⟩ | ⟨g, cap, cur, h1, h2, h3, h4⟩
  · omega
  · injection h1 with e1 e2 e3
    subst e1
    have hc := h.cells (g := g) rfl
    have hlt := (h.lt g rfl).2
    refine ⟨g, 0, rfl, hlt, by omega, ⟨cur, (0, 0), h3⟩, fun i hi => ?_⟩
    obtain ⟨g0, g1⟩ := wcells_get ws i hi
    have k : ∀ j u, (wcells ws)[j]? = some u → w.cell? ⟨g, 0 + j, none⟩ = some u := fun j u hj => by have := hc j u hj; rw [addr_at] at this; exact this
    exact ⟨k _ _ g0, k _ _ g1⟩
theorem wordsOf_list (l : List UInt8) (at0 : Nat) (w : World) (hl : at0 + l.length ≤ 65536) :
    Calls Tryz.prog 40 #[.string ⟨l.toArray⟩, .int .i64 at0] w fun e w' => ∃ a c, e = .returned (.slice a (wordsS l at0 []).length c) ∧ (wordsS l at0 []).length ≤ c ∧ (∀ q, w'.heap.size ≤ q → WsAt w' q a (wordsS l at0 [])) ∧ (∀ b f, a = some ⟨b, f, none⟩ → w.heap.size ≤ b) ∧ Below w.heap.size w w' := by
  have h := wordsOf_any ⟨l.toArray⟩ at0 w (by rw [size_list]; omega) (by omega)
  refine h.mono ?_
  rintro e w' ⟨v, rfl, h2, h3⟩
  change w'.ownsRow w.heap.size 108 2 v (wordsS l at0 []).length (wcells (wordsS l at0 [])) at h2
  have hlen := wordsS_len l at0 []
  have hok : ∀ x ∈ wordsS l at0 [], x.1 ≤ 65536 ∧ x.2.length ≤ 65536 := fun x hx => by
    have := wordsS_ok l at0 [] (by simp) x hx
    simp at this; omega
  have h2' := h2
  rcases h2.2 with ⟨rfl, h0⟩ | ⟨g, cap, cur, rfl, hB, _, hc, _⟩
  · rw [h0]
    refine ⟨none, 0, rfl, by omega, fun q hq => wsAt_row h2' (by omega) hok hq, fun b f e => (by cases e), h3⟩
  · exact ⟨_, _, rfl, hc, fun q hq => wsAt_row h2' (by omega) hok hq, fun b f e => (by injection e with e; injection e with e1; omega), h3⟩
end Go.Proofs.YthjpddjfckdefaaGreatDoor.Pr
