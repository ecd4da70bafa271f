/- Comparing two numbers; what the closures of an ordering answer. Conditions: none. -/
import Derived.Test.YtlinekpaffgcjaaDoorSfi
import Derived.Test.YtlinekpaffgcjaaDoorShi
namespace Go.Proofs.YtlinekpaffgcjaaDoor.So
open Go.ChangeShapes Go.WideShapes Go.ChangeAt Go.RowKit
open _root_.Go.Proofs.YtlinekpaffgcjaaDoor.Ss
set_option maxRecDepth 20000

theorem cmp_any (x y : Int) (w : World) : Calls Tryd.prog 63 #[.int .i64 x, .int .i64 y] w fun e w' => e = .returned (.int .i64 (c3 x y)) ∧ w' = w := by
  unfold c3
  by_cases h : x < y
  · rw [if_pos h]
    go_enter Tryd.func63, Tryd.ntmps63
    go_wp2
    go_ret
    exact ⟨rfl, rfl⟩
  · rw [if_neg h]
    by_cases h' : y < x
    · rw [if_pos h']
      go_enter Tryd.func63, Tryd.ntmps63
      go_wp2
      go_ret
      exact ⟨rfl, rfl⟩
    · rw [if_neg h']
      go_enter Tryd.func63, Tryd.ntmps63
      go_wp2
      go_ret
      exact ⟨rfl, rfl⟩
theorem itself_any (x : Int) (w : World) : Calls Tryd.prog 45 #[.int .i64 x] w fun e w' => e = .returned (.int .i64 x) ∧ w' = w := by
  go_enter Tryd.func45, Tryd.ntmps45
  go_wp2
  go_ret
  exact ⟨rfl, rfl⟩
/-- The closures, over a box that holds the function. -/
theorem cmpI_any (bx blk : Nat) (w0 : World) (hb : w0.cell? ⟨bx, 0, none⟩ = some (.func (.func 45) #[] #[])) (hlt : bx < w0.heap.size) (hne : bx ≠ blk) : Si.Cmp bx blk (fun _ => True) id w0 := by
  intro w' hF x y _ _
  have cb : w'.cell? ⟨bx, 0, none⟩ = some (.func (.func 45) #[] #[]) := by rw [hF.cell hlt hne]; exact hb
  have H1 : Hid _ := itself_any
  have H2 : Hid _ := cmp_any
  clear hF hb
  go_enter Tryd.func62, Tryd.ntmps62
  go_wp2_with fail
  go_quiet (first | (go_at_call 45; refine Calls.quiet_of_same (H1.out _ _)) | (go_at_call 63; refine Calls.quiet_of_same (H2.out _ _ _)))
  go_wp2_with fail
  go_ret
  exact ⟨rfl, nq, rfl⟩
theorem eqI_any (bx blk : Nat) (w0 : World) (hb : w0.cell? ⟨bx, 0, none⟩ = some (.func (.func 45) #[] #[])) (hlt : bx < w0.heap.size) (hne : bx ≠ blk) : Si.Eqs bx blk (fun _ => True) id w0 := by
  intro w' hF x y _ _
  have cb : w'.cell? ⟨bx, 0, none⟩ = some (.func (.func 45) #[] #[]) := by rw [hF.cell hlt hne]; exact hb
  have H1 : Hid _ := itself_any
  clear hF hb
  go_enter Tryd.func65, Tryd.ntmps65
  go_wp2_with fail
  go_quiet (first | (go_at_call 45; refine Calls.quiet_of_same (H1.out _ _)))
  go_wp2_with fail
  go_ret
  exact ⟨by simp [BEq.beq], nq, rfl⟩
end Go.Proofs.YtlinekpaffgcjaaDoor.So
