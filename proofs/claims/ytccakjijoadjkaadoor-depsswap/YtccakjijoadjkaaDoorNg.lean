/- Where the machine stands: the list, its end, the tag (package serial's list, end and tag); what stops it: read off the program by the walk. Conditions: the machine and its program lie in memory. -/
import Derived.Test.YtccakjijoadjkaaDoorNe
namespace Go.Proofs.YtccakjijoadjkaaDoor.Sm
open Go.ChangeShapes Go.WideShapes Go.ChangeAt Go.RowKit
open _root_.Go.Proofs.YtccakjijoadjkaaDoor.Op _root_.Go.Proofs.YtccakjijoadjkaaDoor.So
set_option maxRecDepth 20000

section
variable {w : World} {q n b f bc pc : Nat} {po : Option Addr} {x : Bk} {p : Pl} {M : Ma}
def lA (p : Pl) (y : Bool) : Option Addr := if y then p.ba else p.oa
def lC (p : Pl) (y : Bool) : Nat := if y then p.bc else p.oc
set_option maxHeartbeats 2000000 in
theorem list_any (h : MAt w q (some ⟨b, f, none⟩) n bc po pc M) (hb : BAt w b (f + M.b * 6) x p) (hlt : M.b < n) : Calls Tryd.prog 107 #[ptr q] w fun e w' => e = .returned (.slice (lA p M.y) (lst x M.y).length (lC p M.y)) ∧ ∃ m, w' = w.drewN m := by
  have c0 := hb.c0
  have c3 := hb.c3
  have a0 := h.b
  have a1 := h.y
  have ab := h.bk
  have hq := h.lt
  clear h hb
  cases hy : M.y
  · rw [hy] at a1
    clear hy
    generalize M.b = mb at *
    show Calls Tryd.prog 107 #[ptr q] w fun e w' => e = .returned (.slice p.oa x.ops.length p.oc) ∧ ∃ m, w' = w.drewN m
    go_enter Tryd.func107, Tryd.ntmps107
    go_wp2_with fail
    go_quiet (fail)
    go_wp2_with fail
    go_ret
    exact ⟨rfl, _, rfl⟩
  · rw [hy] at a1
    clear hy
    generalize M.b = mb at *
    show Calls Tryd.prog 107 #[ptr q] w fun e w' => e = .returned (.slice p.ba x.body.length p.bc) ∧ ∃ m, w' = w.drewN m
    go_enter Tryd.func107, Tryd.ntmps107
    go_wp2_with fail
    go_quiet (fail)
    go_wp2_with fail
    go_ret
    exact ⟨rfl, _, rfl⟩
set_option maxHeartbeats 2000000 in
theorem end_any (h : MAt w q (some ⟨b, f, none⟩) n bc po pc M) (hb : BAt w b (f + M.b * 6) x p) (hz : b < w.heap.size) (hlt : M.b < n) : Calls Tryd.prog 105 #[ptr q] w fun e w' => e = .returned (.agg #[.int .i64 (M.b : Int), .bool M.y, .int .i64 ((lst x M.y).length : Int)]) ∧ Below w.heap.size w w' := by
  have HL : Hid (∀ W, Below w.heap.size w W → Calls Tryd.prog 107 #[ptr q] W fun e w' => e = .returned (.slice (lA p M.y) (lst x M.y).length (lC p M.y)) ∧ ∃ m, w' = W.drewN m) := fun W hb' => list_any (h.up hb') (hb.below hb' hz) hlt
  have a0 := h.b
  have a1 := h.y
  have hq := h.lt
  clear h hb hz hlt
  generalize lA p M.y = la at *
  generalize lC p M.y = lc at *
  generalize (lst x M.y).length = ll at *
  generalize M.b = mb at *
  generalize M.y = my at *
  go_enter Tryd.func105, Tryd.ntmps105
  go_wp2_with fail
  have hne : ¬ q = w.heap.size := by omega
  have hne' : ¬ w.heap.size = q := by omega
  go_region_held3 (fun w' => w'.cell? ⟨q, 329, none⟩ = some (.int .i64 (mb : Int)) ∧ w'.cell? ⟨q, 330, none⟩ = some (.bool my))
    (first | (go_keep; done))
    (first | (go_at_call 107; refine Calls.mono (HL.out _ (below_ad _ _)) ?_; rintro e w2 ⟨rfl, m, hm⟩; subst hm))
  all_goals
    go_wp2_with fail
    refine bodyPost_ret (v := .agg #[.int .i64 (mb : Int), .bool my, .int .i64 (ll : Int)]) (by simp [results, Tryd.results105, go_sem]) rfl ⟨rfl, (((drewN_below ((Below.refl _ _).alloc (Nat.le_refl _) _) _).setCell (by show w.heap.size ≤ w.heap.size; omega) _).setCell (by show w.heap.size ≤ w.heap.size; omega) _).setCell (by show w.heap.size ≤ w.heap.size; omega) _⟩
end
end Go.Proofs.YtccakjijoadjkaaDoor.Sm
