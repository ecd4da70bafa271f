/- What package alias answers (writes, writer and its closure, mayBeOne, isMemory, isPair), read off the program by the walk. Conditions: the list lies in memory. -/
import Derived.Test.YthdpgimdakmdgaaDoorAa
import Derived.Test.YthdpgimdakmdgaaDoorPm
import Derived.Deep.QuietTactic
import Derived.BigQuiet
import Derived.Deep.LoopGhost
namespace Go.Proofs.YthdpgimdakmdgaaDoor.Al
open Go.ChangeShapes Go.WideShapes Go.ChangeAt Go.RowKit
open _root_.Go.Proofs.YthdpgimdakmdgaaDoor.Op
set_option maxRecDepth 20000

theorem D_far : ∀ n : Nat, 15 < n → ∀ k, kindL[n]? = some k → k.D = false
  | 16, _, k, h | 17, _, k, h | 18, _, k, h | 19, _, k, h | 20, _, k, h | 21, _, k, h | 22, _, k, h | 23, _, k, h => by cases h; rfl
  | n + 24, _, k, h => by
    have : kindL[n + 24]? = none := List.getElem?_eq_none (show kindL.length ≤ n + 24 from Nat.le_add_left 24 n)
    rw [this] at h; cases h
theorem wr_far {o : O} (h : 15 < o.op) : wrB o = false := by
  unfold wrB
  cases e : kOf o.op with
  | none => rfl
  | some k =>
    show (okF k o && k.D) = false
    unfold kOf at e
    rw [if_pos (by omega)] at e
    rw [D_far o.op.toNat (by omega) k e]
    simp
theorem wt_far (r : Int) (o : O) : wt r o = (o.d == r && !(decide (15 < o.op)) && wrB o) := by
  unfold wt
  by_cases h : 15 < o.op
  · rw [wr_far h]; simp
  · have h2 : (o.op == 16) = false := by simp; omega
    rw [h2, show decide (15 < o.op) = false from decide_eq_false h]

theorem wt_any (r : Int) (o : O) (w : World) (ho : o.Ok) : Calls Tryd.prog 79 #[o.val, .int .u8 r] w fun e w' => e = .returned (.bool (wt r o)) ∧ Below w.heap.size w w' := by
  have HW : Hid _ := fun w => writes_any o w ho
  clear ho
  have hdef : wt r o = (o.d == r && !(decide (15 < o.op)) && wrB o) := wt_far r o
  rw [hdef]
  clear hdef
  cases h1 : o.d == r
  rotate_left
  · obtain rfl := beq_iff_eq.1 h1
    clear h1
    cases h2 : decide (15 < o.op)
    · have h2' : ¬ 15 < o.op := by simpa using h2
      go_enter Tryd.func79, Tryd.ntmps79
      go_wp2_with (first | (go_at_call 65; refine Calls.mono (HW.out _) ?_; rintro e w1 ⟨rfl, hb⟩; obtain ⟨-, hb0, hz⟩ := one_new w _ _ hb; have HB : Hid (Below w.heap.size w w1) := hb0; clear hb hb0))
      go_ret
      exact ⟨rfl, HB.out⟩
    · have h2' : 15 < o.op := by simpa using h2
      go_enter Tryd.func79, Tryd.ntmps79
      go_wp2
      go_ret
      exact ⟨rfl, by go_grown⟩
  · have h1' : ¬ o.d = r := by simpa using h1
    clear h1
    go_enter Tryd.func79, Tryd.ntmps79
    go_wp2
    go_ret
    exact ⟨rfl, by go_grown⟩

set_option maxHeartbeats 1000000 in
theorem written_any (ao : Option Addr) (cap c : Nat) (st : List O) (r : Int) (w : World) (h : OpsAt w ao st) (hc : w.cell? ⟨c, 0, none⟩ = some (.slice ao st.length cap)) :
    Calls Tryd.prog 78 #[.int .u8 r, .pointer (some ⟨c, 0, none⟩)] w fun e w' => e = .returned (.bool (wtL st r)) ∧ Below w.heap.size w w' := by
  have HA : Hid (OpsAt w ao st) := h
  have hlen := h.len
  clear h
  generalize hv : wtL st r = v
  have HV : Hid (wtL st r = v) := hv
  clear hv
  go_enter Tryd.func78, Tryd.ntmps78
  go_wp2_with fail
  go_loopw [8] (fun i wr => ∃ k : Nat, k ≤ st.length ∧ i = .int .i64 k ∧ Below w.heap.size w wr ∧ wtL (st.take k) r = false) (fun i _ => st.length - (intOf i).toNat)
  case atStart => exact ⟨0, by omega, rfl, Below.refl _ _, rfl⟩
  case round =>
    rename World => wr
    obtain ⟨k, hk, rfl, hbw, hno⟩ := hrel
    by_cases hlt : k < st.length
    · obtain ⟨b, f, rfl, hz, hx⟩ := HA.out.is (by omega)
      obtain ⟨c0, c1, c2, c3, c4⟩ := (hx k hlt).below hbw hz
      have hok := HA.out.ok _ (List.getElem_mem hlt)
      have hki : (k : Int) < st.length := by omega
      have HB : Hid (Below w.heap.size w wr) := hbw
      have HN : Hid (wtL (st.take (k + 1)) r = wt r st[k]) := by
        show wtL (st.take (k + 1)) r = wt r st[k]
        rw [List.take_succ_eq_append_getElem hlt]
        unfold wtL at hno ⊢
        rw [List.any_append, hno]
        simp
      have HT : Hid (wt r st[k] = true → wtL st r = true) := fun e => List.any_eq_true.2 ⟨_, List.getElem_mem hlt, e⟩
      clear hx hbw hno
      generalize st[k] = o at *
      have HC : Hid (∀ W, Calls Tryd.prog 79 #[o.val, .int .u8 r] W fun e w' => e = .returned (.bool (wt r o)) ∧ Below W.heap.size W w') := fun W => wt_any r o W hok
      clear hok
      cases hw : wt r o
      · rw [hw] at HC HN
        clear hw
        go_wp2_with (first | (go_at_call 79; refine Calls.mono (HC.out _) ?_; rintro e w1 ⟨rfl, hb⟩; obtain ⟨-, hb0, hz1⟩ := one_new wr _ _ hb; have HB1 : Hid (Below w.heap.size w w1) := HB.out.trans (hb0.mono HB.out.size); clear hb hb0))
        go_roundw
        case rel => exact ⟨k + 1, by omega, by go_num, HB1.out, HN.out⟩
        case measure => simp [intOf]; omega
      · have HT2 : Hid (wtL st r = true) := HT.out hw
        rw [hw] at HC
        clear hw HT
        go_wp2_with (first | (go_at_call 79; refine Calls.mono (HC.out _) ?_; rintro e w1 ⟨rfl, hb⟩; obtain ⟨-, hb0, hz1⟩ := one_new wr _ _ hb; have HB1 : Hid (Below w.heap.size w w1) := HB.out.trans (hb0.mono HB.out.size); clear hb hb0))
        go_ret
        exact ⟨by rw [← HV.out, HT2.out]; rfl, HB1.out⟩
    · obtain rfl : k = st.length := by omega
      rw [List.take_length] at hno
      have HN : Hid (wtL st r = false) := hno
      clear hno
      go_wp2_with fail
      go_ret
      exact ⟨by rw [← HV.out, HN.out]; rfl, hbw⟩

theorem writer_any (ao : Option Addr) (n c : Nat) (w : World) : Calls Tryd.prog 71 #[.slice ao n c] w fun e w' => e = .returned (.func (.func 78) #[] #[.pointer (some ⟨w.heap.size, 0, none⟩)]) ∧ w' = w.alloc (.cells #[.slice ao n c] 22) := by
  go_enter Tryd.func71, Tryd.ntmps71
  go_wp2_with fail
  go_ret
  exact ⟨rfl, rfl⟩

set_option maxHeartbeats 1000000 in
theorem mayBe_any (a b : O) (ao : Option Addr) (cap c : Nat) (st : List O) (w : World) (h : OpsAt w ao st) (hc : w.cell? ⟨c, 0, none⟩ = some (.slice ao st.length cap)) (hl : c < w.heap.size) :
    Calls Tryd.prog 70 #[a.val, b.val, .func (.func 78) #[] #[.pointer (some ⟨c, 0, none⟩)]] w fun e w' => e = .returned (.bool (may a b st)) ∧ Below w.heap.size w w' := by
  have HW : Hid (∀ W, Below w.heap.size w W → Calls Tryd.prog 78 #[.int .u8 a.a, .pointer (some ⟨c, 0, none⟩)] W fun e w' => e = .returned (.bool (wtL st a.a)) ∧ Below W.heap.size W w') := fun W hb => written_any ao cap c st a.a W (h.below hb) (by rw [(bcell hb).1 _ _ hl]; exact hc)
  clear h hc hl
  obtain ⟨p0, p1, x, p3, i1⟩ := a
  obtain ⟨q0, q1, y, q3, i2⟩ := b
  have hdef : may ⟨p0, p1, x, p3, i1⟩ ⟨q0, q1, y, q3, i2⟩ st = (!(x == y) || (i1 % 256 == i2 % 256) || wtL st x) := rfl
  rw [hdef]
  clear hdef
  by_cases h1 : x = y
  · subst h1
    by_cases h2 : i1 % 256 = i2 % 256
    · have e : (!(x == x) || (i1 % 256 == i2 % 256) || wtL st x) = true := by simp [h2]
      rw [e]
      clear e
      go_enter Tryd.func70, Tryd.ntmps70
      go_wp2_with fail
      go_ret
      exact ⟨rfl, by go_grown⟩
    · have e : (!(x == x) || (i1 % 256 == i2 % 256) || wtL st x) = wtL st x := by simp [h2]
      rw [e]
      clear e
      go_enter Tryd.func70, Tryd.ntmps70
      go_wp2_with (first | (go_at_call 78; refine Calls.mono (HW.out _ (by go_grown)) ?_; rintro e w1 ⟨rfl, hb⟩; obtain ⟨-, -, hb0, -, -⟩ := two_new w _ _ _ _ hb; have HB : Hid (Below w.heap.size w w1) := hb0; clear hb hb0))
      go_ret
      exact ⟨ret_bool (by simp [h2]), HB.out⟩
  · have e : (!(x == y) || (i1 % 256 == i2 % 256) || wtL st x) = true := by simp [h1]
    rw [e]
    clear e
    go_enter Tryd.func70, Tryd.ntmps70
    go_wp2_with fail
    go_ret
    exact ⟨rfl, by go_grown⟩
end Go.Proofs.YthdpgimdakmdgaaDoor.Al
