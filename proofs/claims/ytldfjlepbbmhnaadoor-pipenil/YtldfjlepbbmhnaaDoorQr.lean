/- What PipeNil answers: true. Conditions: the table's bounds lie in memory. -/
import Derived.Test.YtldfjlepbbmhnaaDoorQq
namespace Go.Proofs.YtldfjlepbbmhnaaDoor.Pp
open Go.ChangeShapes Go.WideShapes Go.ChangeAt Go.RowKit
open _root_.Go.Proofs.YtldfjlepbbmhnaaDoor.Op _root_.Go.Proofs.YtldfjlepbbmhnaaDoor.So _root_.Go.Proofs.YtldfjlepbbmhnaaDoor.Bu
open _root_.Go.Proofs.YtldfjlepbbmhnaaDoor.Tb (Tab TabAt Bnds tabAt_new)
set_option maxRecDepth 20000

set_option maxHeartbeats 4000000 in
theorem law_nil (n : Int) (w : World) (hG : Bnds w) : Calls Tryd.prog 6 #[.int .i64 n] w fun e w' => e = .returned (.bool true) ∧ Below w.heap.size w w' := by
  have HW : Hid (∀ V, Below w.heap.size w V → Calls Tryd.prog 7 #[] V fun e w' => e = .returned (.bool true) ∧ Below V.heap.size V w') := fun V hV => wakes_any V (hG.below hV hG.big)
  clear hG
  go_enter Tryd.func6, Tryd.ntmps6
  go_wp2_with (first
    | (go_at_call 10; refine Calls.mono (run_nil n _) ?_; rintro e w1 ⟨rfl, hb⟩; have HC1 : Hid (Below w.heap.size w w1) := hb; clear hb)
    | (go_at_call 13; refine Calls.mono (state_nil _) ?_; rintro e w2 ⟨rfl, hb⟩; have HC2 : Hid (Below w.heap.size w w2) := (HC1.out.alloc HC1.out.size _).trans (hb.mono (by have := HC1.out.size; simp; omega)); have a0 : w2.cell? ⟨w1.heap.size, 0, none⟩ = some (.int .i64 1) := (by rw [(bcell hb).1 _ _ (by simp)]; simp); have a2 : w2.cell? ⟨w1.heap.size, 2, none⟩ = some (.slice none 0 0) := (by rw [(bcell hb).1 _ _ (by simp)]; simp); have a4 : w2.cell? ⟨w1.heap.size, 4, none⟩ = some (.int .i64 0) := (by rw [(bcell hb).1 _ _ (by simp)]; simp); have al : w1.heap.size < w2.heap.size := (by have := hb.size; simp at this; omega); have al2 : ¬ w1.heap.size = w2.heap.size := (by omega); clear hb)
    | (go_at_call 17; refine Calls.mono (flying_nil _) ?_; rintro e w3 ⟨rfl, rfl⟩)
    | (go_at_call 7; refine Calls.mono (HW.out _ (HC2.out.alloc HC2.out.size _)) ?_; rintro e w4 ⟨rfl, hb⟩; have HC4 : Hid (Below w.heap.size w w4) := (HC2.out.alloc HC2.out.size _).trans (hb.mono (by have := HC2.out.size; simp; omega)); clear hb))
  go_ret
  exact ⟨rfl, HC4.out⟩
end Go.Proofs.YtldfjlepbbmhnaaDoor.Pp
