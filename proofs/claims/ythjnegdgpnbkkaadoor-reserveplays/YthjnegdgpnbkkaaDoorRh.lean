/- What the statements wake by (wakes), and the statement ReserveNil, read off the program by the walk. Conditions: the variables lie as the program lays them. -/
import Derived.Test.YthjnegdgpnbkkaaDoorRg
namespace Go.Proofs.YthjnegdgpnbkkaaDoor.Rv
open Go.ChangeShapes Go.WideShapes Go.ChangeAt Go.RowKit Go.Maps
open _root_.Go.Proofs.YthjnegdgpnbkkaaDoor.Op _root_.Go.Proofs.YthjnegdgpnbkkaaDoor.So
open _root_.Go.Proofs.YthjnegdgpnbkkaaDoor.Tb (Tab TabAt Bnds)
set_option maxRecDepth 20000

/-- The table that the statements wake by. -/
def wt13 : Tab := ⟨fun k => if k = 1 then 2 else 1, fun _ => 1, fun k => if k = 1 then 3 else 1, 0⟩
def wf0 : Int → Int → Int := fun _ _ => 0
def wf1 : Int → Int → Int := tkF wt13 none wf0 1 2
def wf2 : Int → Int → Int := tkF wt13 none wf1 1 3
theorem wt_ok : wt13.ok = true := by decide
theorem wt_ck : Tb.ckR wt13 = 0 := by decide
theorem few0 : Few wf0 := fun _ _ => ⟨Int.le_refl _, by unfold wf0; omega⟩
theorem few1 : Few wf1 := tk_few few0 wt_ok 1 2
theorem few2 : Few wf2 := tk_few few1 wt_ok 1 3
theorem wk1 : frB wt13 none wf0 1 2 = true := by decide +kernel
theorem wk2 : frB wt13 none wf1 1 3 = true := by decide +kernel
theorem wk3 : frB wt13 none wf2 1 4 = false := by decide +kernel
theorem wk4 : frB wt13 none wf2 1 5 = true := by decide +kernel
theorem wk5 : wf2 1 4 = 2 := by decide +kernel
set_option maxHeartbeats 4000000 in
theorem wakes_any (w : World) (hG : Bnds w) : Calls Tryd.prog 11 #[] w fun e w' => e = .returned (.bool true) ∧ Below w.heap.size w w' := by
  have HN : Hid (∀ W, Below w.heap.size w W → Calls Tryd.prog 7 #[.agg #[.int .i64 1, .int .i64 2, .int .i64 1, .int .i64 1, .int .i64 1, .int .i64 1, .int .i64 1, .int .i64 1, .int .i64 1, .int .i64 3, .int .i64 1, .int .i64 1, .int .i64 0]] W fun e w' => ∃ rb mb, e = .returned (.tuple #[.pointer (some ⟨rb, 0, none⟩), .int .i64 0]) ∧ RAt w' rb wt13 none mb 0 wf0 ∧ (W.heap.size ≤ rb ∧ W.heap.size ≤ mb) ∧ Below W.heap.size W w') := fun W hb => new_ok wt13 W (hG.below hb hG.big) wt_ck
  have HT1 : Hid (∀ W rb mb, RAt W rb wt13 none mb 0 wf0 → Calls Tryd.prog 12 #[.pointer (some ⟨rb, 0, none⟩), .int .i64 1, .int .i64 2] W fun e w' => e = .returned (.bool true) ∧ ∃ n', RAt w' rb wt13 none mb n' wf1 ∧ n' ≤ 4 ∧ Fr (One mb) W w') := fun W rb mb h => by
    have := take_any 1 2 W h trivial few0 wt_ok (by omega)
    rw [wk1] at this
    exact this
  have HT2 : Hid (∀ W rb mb n, n ≤ 4 → RAt W rb wt13 none mb n wf1 → Calls Tryd.prog 12 #[.pointer (some ⟨rb, 0, none⟩), .int .i64 1, .int .i64 3] W fun e w' => e = .returned (.bool true) ∧ ∃ n', RAt w' rb wt13 none mb n' wf2 ∧ n' ≤ n + 4 ∧ Fr (One mb) W w') := fun W rb mb n hn h => by
    have := take_any 1 3 W h trivial few1 wt_ok (by omega)
    rw [wk2] at this
    exact this
  have HF3 : Hid (∀ W rb mb n, RAt W rb wt13 none mb n wf2 → Calls Tryd.prog 14 #[.pointer (some ⟨rb, 0, none⟩), .int .i64 1, .int .i64 4] W fun e w' => e = .returned (.bool false) ∧ Below W.heap.size W w') := fun W rb mb n h => by
    have := free_any 1 4 W h trivial few2 wt_ok
    rw [wk3] at this
    exact this
  have HF4 : Hid (∀ W rb mb n, RAt W rb wt13 none mb n wf2 → Calls Tryd.prog 14 #[.pointer (some ⟨rb, 0, none⟩), .int .i64 1, .int .i64 5] W fun e w' => e = .returned (.bool true) ∧ Below W.heap.size W w') := fun W rb mb n h => by
    have := free_any 1 5 W h trivial few2 wt_ok
    rw [wk4] at this
    exact this
  have HU5 : Hid (∀ W rb mb n, RAt W rb wt13 none mb n wf2 → Calls Tryd.prog 16 #[.pointer (some ⟨rb, 0, none⟩), .int .i64 1, .int .i64 4] W fun e w' => e = .returned (.int .i64 2) ∧ Below W.heap.size W w') := fun W rb mb n h => by
    have := used_any 1 4 W h trivial (by unfold I64; omega) (by unfold I64; omega)
    have e : wf2 1 (tn none 4) = 2 := wk5
    rw [e] at this
    exact this
  clear hG
  go_enter Tryd.func11, Tryd.ntmps11
  go_wp2_with (first
    | (go_at_call 7; refine Calls.mono (HN.out _ (by go_grown)) ?_; rintro e w1 ⟨rb, mb, rfl, r1, q1, b1⟩; have HS : Hid (RAt w1 rb wt13 none mb 0 wf0 ∧ w.heap.size ≤ mb ∧ Below w.heap.size w w1) := ⟨r1, by have := q1.2; simp at this; omega, Below.trans (by go_grown) (b1.mono (by simp))⟩; clear r1 q1 b1 HN)
    | (go_at_call_of 12 (Value.int IntKind.i64 2); refine Calls.mono (HT1.out _ _ _ HS.out.1) ?_; rintro e w2 ⟨rfl, n2, r2, l2, f2⟩; have HS2 : Hid (RAt w2 rb wt13 none mb n2 wf1 ∧ n2 ≤ 4 ∧ Below w.heap.size w w2) := ⟨r2, l2, HS.out.2.2.trans (f2.below HS.out.2.2.size fun k hk e => by have e : k = mb := e; have := HS.out.2.1; omega)⟩; clear r2 l2 f2 HT1)
    | (go_at_call_of 12 (Value.int IntKind.i64 3); refine Calls.mono (HT2.out _ _ _ _ HS2.out.2.1 HS2.out.1) ?_; rintro e w3 ⟨rfl, n3, r3, -, f3⟩; have HS3 : Hid (RAt w3 rb wt13 none mb n3 wf2 ∧ Below w.heap.size w w3) := ⟨r3, HS2.out.2.2.trans (f3.below HS2.out.2.2.size fun k hk e => by have e : k = mb := e; have := HS.out.2.1; omega)⟩; clear r3 f3 HT2)
    | (go_at_call_of 14 (Value.int IntKind.i64 4); refine Calls.mono (HF3.out _ _ _ _ HS3.out.1) ?_; rintro e w4 ⟨rfl, b4⟩; have HS4 : Hid (RAt w4 rb wt13 none mb n3 wf2 ∧ Below w.heap.size w w4) := ⟨HS3.out.1.up b4, HS3.out.2.trans (b4.mono HS3.out.2.size)⟩; clear b4 HF3)
    | (go_at_call_of 14 (Value.int IntKind.i64 5); refine Calls.mono (HF4.out _ _ _ _ HS4.out.1) ?_; rintro e w5 ⟨rfl, b5⟩; have HS5 : Hid (RAt w5 rb wt13 none mb n3 wf2 ∧ Below w.heap.size w w5) := ⟨HS4.out.1.up b5, HS4.out.2.trans (b5.mono HS4.out.2.size)⟩; clear b5 HF4)
    | (go_at_call 16; refine Calls.mono (HU5.out _ _ _ _ HS5.out.1) ?_; rintro e w6 ⟨rfl, b6⟩; have HB : Hid (Below w.heap.size w w6) := HS5.out.2.trans (b6.mono HS5.out.2.size); clear b6 HU5))
  go_ret
  exact ⟨rfl, HB.out⟩
theorem law_nil (cl cyc : Int) (w : World) (hG : Bnds w) : Calls Tryd.prog 4 #[.int .i64 cl, .int .i64 cyc] w fun e w' => e = .returned (.bool true) ∧ Below w.heap.size w w' := by
  have HW : Hid (∀ W, Below w.heap.size w W → Calls Tryd.prog 11 #[] W fun e w' => e = .returned (.bool true) ∧ Below W.heap.size W w') := fun W hb => wakes_any W (hG.below hb hG.big)
  have HF : Hid (∀ W, Calls Tryd.prog 14 #[.pointer none, .int .i64 cl, .int .i64 cyc] W fun e w' => e = .returned (.bool false) ∧ Below W.heap.size W w') := fun W => free_nil cl cyc W
  have HT : Hid (∀ W, Calls Tryd.prog 12 #[.pointer none, .int .i64 cl, .int .i64 cyc] W fun e w' => e = .returned (.bool false) ∧ Below W.heap.size W w') := fun W => take_nil cl cyc W
  have HU : Hid (∀ W, Calls Tryd.prog 16 #[.pointer none, .int .i64 cl, .int .i64 cyc] W fun e w' => e = .returned (.int .i64 0) ∧ Below W.heap.size W w') := fun W => used_nil cl cyc W
  clear hG
  go_enter Tryd.func4, Tryd.ntmps4
  go_wp2_with (first
    | (go_at_call 14; refine Calls.mono (HF.out _) ?_; rintro e w1 ⟨rfl, b1⟩; have HB : Hid (Below w.heap.size w w1) := b1; clear b1 HF)
    | (go_at_call 12; refine Calls.mono (HT.out _) ?_; rintro e w2 ⟨rfl, b2⟩; have HB2 : Hid (Below w.heap.size w w2) := HB.out.trans (b2.mono HB.out.size); clear b2 HT)
    | (go_at_call 16; refine Calls.mono (HU.out _) ?_; rintro e w3 ⟨rfl, b3⟩; have HB3 : Hid (Below w.heap.size w w3) := HB2.out.trans (b3.mono HB2.out.size); clear b3 HU)
    | (go_at_call 11; refine Calls.mono (HW.out _ HB3.out) ?_; rintro e w4 ⟨rfl, b4⟩; have HB4 : Hid (Below w.heap.size w w4) := HB3.out.trans (b4.mono HB3.out.size); clear b4 HW))
  go_ret
  exact ⟨rfl, HB4.out⟩
end Go.Proofs.YthjnegdgpnbkkaaDoor.Rv
