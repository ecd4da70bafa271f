/- The statement ReservePlays over the program, whole. Conditions: the asks lie in memory, the variables as the program lays them. -/
import Derived.Test.YthjnegdgpnbkkaaDoorRp
namespace Go.Proofs.YthjnegdgpnbkkaaDoor.Rv
open Go.ChangeShapes Go.WideShapes Go.ChangeAt Go.RowKit Go.Maps
open _root_.Go.Proofs.YthjnegdgpnbkkaaDoor.Op _root_.Go.Proofs.YthjnegdgpnbkkaaDoor.So
open _root_.Go.Proofs.YthjnegdgpnbkkaaDoor.Tb (Tab TabAt Bnds)
set_option maxRecDepth 20000

set_option maxHeartbeats 4000000 in
theorem plays_bad1 (t : Tab) (every : Int) (ao : Option Addr) (n cap : Nat) (w : World) (hG : Bnds w) (hk : ¬ Tb.ckR t = 0) :
    Calls Tryd.prog 3 #[t.val, .int .i64 every, .bool false, .slice ao n cap] w fun e w' => e = .returned (.bool true) ∧ Below w.heap.size w w' := by
  have HW : Hid (∀ W, Below w.heap.size w W → Calls Tryd.prog 11 #[] W fun e w' => e = .returned (.bool true) ∧ Below W.heap.size W w') := fun W hb => wakes_any W (hG.below hb hG.big)
  have HN : Hid (∀ W, Below w.heap.size w W → Calls Tryd.prog 7 #[t.val] W fun e w' => e = .returned (.tuple #[.pointer none, .int .i64 (Tb.ckR t)]) ∧ Below W.heap.size W w') := fun W hb => new_no t W (hG.below hb hG.big) hk
  have HDn : Hid (∀ W, Calls Tryd.prog 8 #[t.val] W fun e w' => e = .returned (.tuple #[.pointer none, .int .i64 (Tb.ckR t)]) ∧ Below W.heap.size W w') := fun W => dnew_no t W hk
  have hkb : (Tb.ckR t != 0) = true := by simpa using hk
  have hee : (Tb.ckR t != Tb.ckR t) = false := by simp
  clear hG
  generalize Tb.ckR t = er at *
  unfold Tab.val at *
  go_enter Tryd.func3, Tryd.ntmps3
  go_wp2_with (first
    | (go_at_call 7; refine Calls.mono (HN.out _ (by go_grown)) ?_; rintro e w1 ⟨rfl, b1⟩; have HS1 : Hid (TabAt w1 w.heap.size t ∧ Below w.heap.size w w1) := ⟨(Tb.tabAt_new w t 24).below b1 (by simp), Below.trans (by go_grown) (b1.mono (by simp))⟩; clear b1 HN; have k2 := HS1.out.1; have qu0 := k2.cu 0 (by decide); have qu1 := k2.cu 1 (by decide); have qu2 := k2.cu 2 (by decide); have qu3 := k2.cu 3 (by decide); have ql0 := k2.cl 0 (by decide); have ql1 := k2.cl 1 (by decide); have ql2 := k2.cl 2 (by decide); have ql3 := k2.cl 3 (by decide); have qb0 := k2.cb 0 (by decide); have qb1 := k2.cb 1 (by decide); have qb2 := k2.cb 2 (by decide); have qb3 := k2.cb 3 (by decide); have qd := k2.cd; have qz := k2.lt; clear k2)
    | (go_at_call 8; refine Calls.mono (HDn.out _) ?_; rintro e w2 ⟨rfl, b2⟩; have HS2 : Hid (TabAt w2 w.heap.size t ∧ Below w.heap.size w w2) := ⟨HS1.out.1.below b2 HS1.out.1.lt, HS1.out.2.trans (b2.mono HS1.out.2.size)⟩; clear b2 HDn qu0 qu1 qu2 qu3 ql0 ql1 ql2 ql3 qb0 qb1 qb2 qb3 qd qz; have k2 := HS2.out.1; have qu0 := k2.cu 0 (by decide); have qu1 := k2.cu 1 (by decide); have qu2 := k2.cu 2 (by decide); have qu3 := k2.cu 3 (by decide); have ql0 := k2.cl 0 (by decide); have ql1 := k2.cl 1 (by decide); have ql2 := k2.cl 2 (by decide); have ql3 := k2.cl 3 (by decide); have qb0 := k2.cb 0 (by decide); have qb1 := k2.cb 1 (by decide); have qb2 := k2.cb 2 (by decide); have qb3 := k2.cb 3 (by decide); have qd := k2.cd; have qz := k2.lt; clear k2)
    | (go_at_call 11; refine Calls.mono (HW.out _ HS2.out.2) ?_; rintro e w9 ⟨rfl, b9⟩; have HB : Hid (Below w.heap.size w w9) := HS2.out.2.trans (b9.mono HS2.out.2.size); clear b9 HW))
  go_ret
  exact ⟨rfl, HB.out⟩
set_option maxHeartbeats 4000000 in
theorem plays_bad2 (t : Tab) (every : Int) (ao : Option Addr) (n cap : Nat) (w : World) (hG : Bnds w) (hk : ¬ Tb.ckR t = 0) :
    Calls Tryd.prog 3 #[t.val, .int .i64 every, .bool true, .slice ao n cap] w fun e w' => e = .returned (.bool true) ∧ Below w.heap.size w w' := by
  have HW : Hid (∀ W, Below w.heap.size w W → Calls Tryd.prog 11 #[] W fun e w' => e = .returned (.bool true) ∧ Below W.heap.size W w') := fun W hb => wakes_any W (hG.below hb hG.big)
  have HN : Hid (∀ W, Below w.heap.size w W → Calls Tryd.prog 7 #[t.val] W fun e w' => e = .returned (.tuple #[.pointer none, .int .i64 (Tb.ckR t)]) ∧ Below W.heap.size W w') := fun W hb => new_no t W (hG.below hb hG.big) hk
  have HDn : Hid (∀ W, Calls Tryd.prog 8 #[t.val] W fun e w' => e = .returned (.tuple #[.pointer none, .int .i64 (Tb.ckR t)]) ∧ Below W.heap.size W w') := fun W => dnew_no t W hk
  have er : rgE t every = Tb.ckR t := by unfold rgE; rw [if_neg hk]
  have HRg : Hid (∀ W, Below w.heap.size w W → Calls Tryd.prog 9 #[t.val, .int .i64 every] W fun e w' => e = .returned (.tuple #[.pointer none, .int .i64 (Tb.ckR t)]) ∧ Below W.heap.size W w') := fun W hb => by have := ring_no t every W (hG.below hb hG.big) (by rw [er]; exact hk); rw [er] at this; exact this
  have HDr : Hid (∀ W, Calls Tryd.prog 10 #[t.val, .int .i64 every] W fun e w' => e = .returned (.tuple #[.pointer none, .int .i64 (Tb.ckR t)]) ∧ Below W.heap.size W w') := fun W => by have := dring_no t every W (by rw [er]; exact hk); rw [er] at this; exact this
  have hkb : (Tb.ckR t != 0) = true := by simpa using hk
  have hee : (Tb.ckR t != Tb.ckR t) = false := by simp
  clear hG er
  generalize Tb.ckR t = er at *
  unfold Tab.val at *
  go_enter Tryd.func3, Tryd.ntmps3
  go_wp2_with (first
    | (go_at_call 7; refine Calls.mono (HN.out _ (by go_grown)) ?_; rintro e w1 ⟨rfl, b1⟩; have HS1 : Hid (TabAt w1 w.heap.size t ∧ Below w.heap.size w w1) := ⟨(Tb.tabAt_new w t 24).below b1 (by simp), Below.trans (by go_grown) (b1.mono (by simp))⟩; clear b1 HN; have k2 := HS1.out.1; have qu0 := k2.cu 0 (by decide); have qu1 := k2.cu 1 (by decide); have qu2 := k2.cu 2 (by decide); have qu3 := k2.cu 3 (by decide); have ql0 := k2.cl 0 (by decide); have ql1 := k2.cl 1 (by decide); have ql2 := k2.cl 2 (by decide); have ql3 := k2.cl 3 (by decide); have qb0 := k2.cb 0 (by decide); have qb1 := k2.cb 1 (by decide); have qb2 := k2.cb 2 (by decide); have qb3 := k2.cb 3 (by decide); have qd := k2.cd; have qz := k2.lt; clear k2)
    | (go_at_call 8; refine Calls.mono (HDn.out _) ?_; rintro e w2 ⟨rfl, b2⟩; have HS2 : Hid (TabAt w2 w.heap.size t ∧ Below w.heap.size w w2) := ⟨HS1.out.1.below b2 HS1.out.1.lt, HS1.out.2.trans (b2.mono HS1.out.2.size)⟩; clear b2 HDn qu0 qu1 qu2 qu3 ql0 ql1 ql2 ql3 qb0 qb1 qb2 qb3 qd qz; have k2 := HS2.out.1; have qu0 := k2.cu 0 (by decide); have qu1 := k2.cu 1 (by decide); have qu2 := k2.cu 2 (by decide); have qu3 := k2.cu 3 (by decide); have ql0 := k2.cl 0 (by decide); have ql1 := k2.cl 1 (by decide); have ql2 := k2.cl 2 (by decide); have ql3 := k2.cl 3 (by decide); have qb0 := k2.cb 0 (by decide); have qb1 := k2.cb 1 (by decide); have qb2 := k2.cb 2 (by decide); have qb3 := k2.cb 3 (by decide); have qd := k2.cd; have qz := k2.lt; clear k2)
    | (go_at_call 9; refine Calls.mono (HRg.out _ (HS2.out.2)) ?_; rintro e w3 ⟨rfl, b3⟩; have HS3 : Hid (TabAt w3 w.heap.size t ∧ Below w.heap.size w w3) := ⟨HS2.out.1.below b3 HS2.out.1.lt, HS2.out.2.trans (b3.mono HS2.out.2.size)⟩; clear b3 HRg qu0 qu1 qu2 qu3 ql0 ql1 ql2 ql3 qb0 qb1 qb2 qb3 qd qz; have k2 := HS3.out.1; have qu0 := k2.cu 0 (by decide); have qu1 := k2.cu 1 (by decide); have qu2 := k2.cu 2 (by decide); have qu3 := k2.cu 3 (by decide); have ql0 := k2.cl 0 (by decide); have ql1 := k2.cl 1 (by decide); have ql2 := k2.cl 2 (by decide); have ql3 := k2.cl 3 (by decide); have qb0 := k2.cb 0 (by decide); have qb1 := k2.cb 1 (by decide); have qb2 := k2.cb 2 (by decide); have qb3 := k2.cb 3 (by decide); have qd := k2.cd; have qz := k2.lt; clear k2)
    | (go_at_call 10; refine Calls.mono (HDr.out _) ?_; rintro e w4 ⟨rfl, b4⟩; have HS4 : Hid (TabAt w4 w.heap.size t ∧ Below w.heap.size w w4) := ⟨HS3.out.1.below b4 HS3.out.1.lt, HS3.out.2.trans (b4.mono HS3.out.2.size)⟩; clear b4 HDr qu0 qu1 qu2 qu3 ql0 ql1 ql2 ql3 qb0 qb1 qb2 qb3 qd qz; have k2 := HS4.out.1; have qu0 := k2.cu 0 (by decide); have qu1 := k2.cu 1 (by decide); have qu2 := k2.cu 2 (by decide); have qu3 := k2.cu 3 (by decide); have ql0 := k2.cl 0 (by decide); have ql1 := k2.cl 1 (by decide); have ql2 := k2.cl 2 (by decide); have ql3 := k2.cl 3 (by decide); have qb0 := k2.cb 0 (by decide); have qb1 := k2.cb 1 (by decide); have qb2 := k2.cb 2 (by decide); have qb3 := k2.cb 3 (by decide); have qd := k2.cd; have qz := k2.lt; clear k2)
    | (go_at_call 11; refine Calls.mono (HW.out _ HS4.out.2) ?_; rintro e w9 ⟨rfl, b9⟩; have HB : Hid (Below w.heap.size w w9) := HS4.out.2.trans (b9.mono HS4.out.2.size); clear b9 HW))
  go_ret
  exact ⟨rfl, HB.out⟩
set_option maxHeartbeats 4000000 in
theorem plays_bad3 (t : Tab) (every : Int) (ao : Option Addr) (n cap : Nat) (w : World) (hG : Bnds w) (hk : Tb.ckR t = 0) (hr : ¬ rgE t every = 0) :
    Calls Tryd.prog 3 #[t.val, .int .i64 every, .bool true, .slice ao n cap] w fun e w' => e = .returned (.bool true) ∧ Below w.heap.size w w' := by
  have HW : Hid (∀ W, Below w.heap.size w W → Calls Tryd.prog 11 #[] W fun e w' => e = .returned (.bool true) ∧ Below W.heap.size W w') := fun W hb => wakes_any W (hG.below hb hG.big)
  have HN : Hid (∀ W, Below w.heap.size w W → Calls Tryd.prog 7 #[t.val] W fun e w' => ∃ rb mb, e = .returned (.tuple #[.pointer (some ⟨rb, 0, none⟩), .int .i64 0]) ∧ RAt w' rb t none mb 0 wf0 ∧ (W.heap.size ≤ rb ∧ W.heap.size ≤ mb) ∧ Below W.heap.size W w') := fun W hb => new_ok t W (hG.below hb hG.big) hk
  have HDn : Hid (∀ W, Calls Tryd.prog 8 #[t.val] W fun e w' => ∃ rb, e = .returned (.tuple #[.pointer (some ⟨rb, 0, none⟩), .int .i64 0]) ∧ At w' rb (dcl t none none 0 0) ∧ W.heap.size ≤ rb ∧ Below W.heap.size W w') := fun W => dnew_ok t W hk
  have HRg : Hid (∀ W, Below w.heap.size w W → Calls Tryd.prog 9 #[t.val, .int .i64 every] W fun e w' => e = .returned (.tuple #[.pointer none, .int .i64 (rgE t every)]) ∧ Below W.heap.size W w') := fun W hb => ring_no t every W (hG.below hb hG.big) hr
  have HDr : Hid (∀ W, Calls Tryd.prog 10 #[t.val, .int .i64 every] W fun e w' => e = .returned (.tuple #[.pointer none, .int .i64 (rgE t every)]) ∧ Below W.heap.size W w') := fun W => dring_no t every W hr
  have hkb : (rgE t every != 0) = true := by simpa using hr
  have hee : (rgE t every != rgE t every) = false := by simp
  clear hG hk
  generalize rgE t every = er at *
  unfold Tab.val at *
  go_enter Tryd.func3, Tryd.ntmps3
  go_wp2_with (first
    | (go_at_call 7; refine Calls.mono (HN.out _ (by go_grown)) ?_; rintro e w1 ⟨ra, ma, rfl, -, -, b1⟩; have HS1 : Hid (TabAt w1 w.heap.size t ∧ Below w.heap.size w w1) := ⟨(Tb.tabAt_new w t 24).below b1 (by simp), Below.trans (by go_grown) (b1.mono (by simp))⟩; clear b1 HN; have k2 := HS1.out.1; have qu0 := k2.cu 0 (by decide); have qu1 := k2.cu 1 (by decide); have qu2 := k2.cu 2 (by decide); have qu3 := k2.cu 3 (by decide); have ql0 := k2.cl 0 (by decide); have ql1 := k2.cl 1 (by decide); have ql2 := k2.cl 2 (by decide); have ql3 := k2.cl 3 (by decide); have qb0 := k2.cb 0 (by decide); have qb1 := k2.cb 1 (by decide); have qb2 := k2.cb 2 (by decide); have qb3 := k2.cb 3 (by decide); have qd := k2.cd; have qz := k2.lt; clear k2)
    | (go_at_call 8; refine Calls.mono (HDn.out _) ?_; rintro e w2 ⟨rb, rfl, -, -, b2⟩; have HS2 : Hid (TabAt w2 w.heap.size t ∧ Below w.heap.size w w2) := ⟨HS1.out.1.below b2 HS1.out.1.lt, HS1.out.2.trans (b2.mono HS1.out.2.size)⟩; clear b2 HDn qu0 qu1 qu2 qu3 ql0 ql1 ql2 ql3 qb0 qb1 qb2 qb3 qd qz; have k2 := HS2.out.1; have qu0 := k2.cu 0 (by decide); have qu1 := k2.cu 1 (by decide); have qu2 := k2.cu 2 (by decide); have qu3 := k2.cu 3 (by decide); have ql0 := k2.cl 0 (by decide); have ql1 := k2.cl 1 (by decide); have ql2 := k2.cl 2 (by decide); have ql3 := k2.cl 3 (by decide); have qb0 := k2.cb 0 (by decide); have qb1 := k2.cb 1 (by decide); have qb2 := k2.cb 2 (by decide); have qb3 := k2.cb 3 (by decide); have qd := k2.cd; have qz := k2.lt; clear k2)
    | (go_at_call 9; refine Calls.mono (HRg.out _ (HS2.out.2)) ?_; rintro e w3 ⟨rfl, b3⟩; have HS3 : Hid (TabAt w3 w.heap.size t ∧ Below w.heap.size w w3) := ⟨HS2.out.1.below b3 HS2.out.1.lt, HS2.out.2.trans (b3.mono HS2.out.2.size)⟩; clear b3 HRg qu0 qu1 qu2 qu3 ql0 ql1 ql2 ql3 qb0 qb1 qb2 qb3 qd qz; have k2 := HS3.out.1; have qu0 := k2.cu 0 (by decide); have qu1 := k2.cu 1 (by decide); have qu2 := k2.cu 2 (by decide); have qu3 := k2.cu 3 (by decide); have ql0 := k2.cl 0 (by decide); have ql1 := k2.cl 1 (by decide); have ql2 := k2.cl 2 (by decide); have ql3 := k2.cl 3 (by decide); have qb0 := k2.cb 0 (by decide); have qb1 := k2.cb 1 (by decide); have qb2 := k2.cb 2 (by decide); have qb3 := k2.cb 3 (by decide); have qd := k2.cd; have qz := k2.lt; clear k2)
    | (go_at_call 10; refine Calls.mono (HDr.out _) ?_; rintro e w4 ⟨rfl, b4⟩; have HS4 : Hid (TabAt w4 w.heap.size t ∧ Below w.heap.size w w4) := ⟨HS3.out.1.below b4 HS3.out.1.lt, HS3.out.2.trans (b4.mono HS3.out.2.size)⟩; clear b4 HDr qu0 qu1 qu2 qu3 ql0 ql1 ql2 ql3 qb0 qb1 qb2 qb3 qd qz; have k2 := HS4.out.1; have qu0 := k2.cu 0 (by decide); have qu1 := k2.cu 1 (by decide); have qu2 := k2.cu 2 (by decide); have qu3 := k2.cu 3 (by decide); have ql0 := k2.cl 0 (by decide); have ql1 := k2.cl 1 (by decide); have ql2 := k2.cl 2 (by decide); have ql3 := k2.cl 3 (by decide); have qb0 := k2.cb 0 (by decide); have qb1 := k2.cb 1 (by decide); have qb2 := k2.cb 2 (by decide); have qb3 := k2.cb 3 (by decide); have qd := k2.cd; have qz := k2.lt; clear k2)
    | (go_at_call 11; refine Calls.mono (HW.out _ HS4.out.2) ?_; rintro e w9 ⟨rfl, b9⟩; have HB : Hid (Below w.heap.size w w9) := HS4.out.2.trans (b9.mono HS4.out.2.size); clear b9 HW))
  go_ret
  exact ⟨rfl, HB.out⟩
theorem law_plays (t : Tab) (every : Int) (ring : Bool) (ao : Option Addr) (cap : Nat) (xs : List Ak) (w : World) (hp : AksAt w ao xs) (hG : Bnds w) :
    Calls Tryd.prog 3 #[t.val, .int .i64 every, .bool ring, .slice ao xs.length cap] w fun e w' => e = .returned (.bool true) ∧ Below w.heap.size w w' := by
  cases ring
  · by_cases hk : Tb.ckR t = 0
    · exact plays_row t every ao cap xs w hp hG hk
    · exact plays_bad1 t every ao _ cap w hG hk
  · by_cases hk : Tb.ckR t = 0
    · by_cases hr : rgE t every = 0
      · obtain ⟨-, h1, h2⟩ := rg_parts hr
        exact plays_ring t every ao cap xs w hp hG hk h1 h2
      · exact plays_bad3 t every ao _ cap w hG hk hr
    · exact plays_bad2 t every ao _ cap w hG hk
end Go.Proofs.YthjnegdgpnbkkaaDoor.Rv
