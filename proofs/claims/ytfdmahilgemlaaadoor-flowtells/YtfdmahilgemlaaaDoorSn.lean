/- Comparing two numbers; what the closures of an ordering answer. Conditions: none. -/
import Derived.Test.YtfdmahilgemlaaaDoorSfi
import Derived.Test.YtfdmahilgemlaaaDoorSfg
import Derived.Test.YtfdmahilgemlaaaDoorShi
import Derived.Test.YtfdmahilgemlaaaDoorShg
namespace Go.Proofs.YtfdmahilgemlaaaDoor.So
open Go.ChangeShapes Go.WideShapes Go.ChangeAt Go.RowKit
open _root_.Go.Proofs.YtfdmahilgemlaaaDoor.Ss
set_option maxRecDepth 20000

theorem cmp_any (x y : Int) (w : World) : Calls Tryd.prog 34 #[.int .i64 x, .int .i64 y] w fun e w' => e = .returned (.int .i64 (c3 x y)) ∧ w' = w := by
  unfold c3
  by_cases h : x < y
  · rw [if_pos h]
    go_enter Tryd.func34, Tryd.ntmps34
    go_wp2
    go_ret
    exact ⟨rfl, rfl⟩
  · rw [if_neg h]
    by_cases h' : y < x
    · rw [if_pos h']
      go_enter Tryd.func34, Tryd.ntmps34
      go_wp2
      go_ret
      exact ⟨rfl, rfl⟩
    · rw [if_neg h']
      go_enter Tryd.func34, Tryd.ntmps34
      go_wp2
      go_ret
      exact ⟨rfl, rfl⟩
theorem itself_any (x : Int) (w : World) : Calls Tryd.prog 28 #[.int .i64 x] w fun e w' => e = .returned (.int .i64 x) ∧ w' = w := by
  go_enter Tryd.func28, Tryd.ntmps28
  go_wp2
  go_ret
  exact ⟨rfl, rfl⟩
theorem first_any (q n c : Nat) (k : Int) (w : World) (hn : 0 < n) (hc : w.cell? ⟨q, 0, none⟩ = some (.int .i64 k)) : Calls Tryd.prog 21 #[.slice (some ⟨q, 0, none⟩) n c] w fun e w' => e = .returned (.int .i64 k) ∧ w' = w := by
  have hz : (0 : Int) < (n : Int) := by omega
  go_enter Tryd.func21, Tryd.ntmps21
  go_wp2
  go_ret
  exact ⟨rfl, rfl⟩
/-- The closures, over a box that holds the function. -/
theorem cmpI_any (bx blk : Nat) (w0 : World) (hb : w0.cell? ⟨bx, 0, none⟩ = some (.func (.func 28) #[] #[])) (hlt : bx < w0.heap.size) (hne : bx ≠ blk) : Si.Cmp bx blk (fun _ => True) id w0 := by
  intro w' hF x y _ _
  have cb : w'.cell? ⟨bx, 0, none⟩ = some (.func (.func 28) #[] #[]) := by rw [hF.cell hlt hne]; exact hb
  have H1 : Hid _ := itself_any
  have H2 : Hid _ := cmp_any
  clear hF hb
  go_enter Tryd.func40, Tryd.ntmps40
  go_wp2_with fail
  go_quiet (first | (go_at_call 28; refine Calls.quiet_of_same (H1.out _ _)) | (go_at_call 34; refine Calls.quiet_of_same (H2.out _ _ _)))
  go_wp2_with fail
  go_ret
  exact ⟨rfl, nq, rfl⟩
theorem eqI_any (bx blk : Nat) (w0 : World) (hb : w0.cell? ⟨bx, 0, none⟩ = some (.func (.func 28) #[] #[])) (hlt : bx < w0.heap.size) (hne : bx ≠ blk) : Si.Eqs bx blk (fun _ => True) id w0 := by
  intro w' hF x y _ _
  have cb : w'.cell? ⟨bx, 0, none⟩ = some (.func (.func 28) #[] #[]) := by rw [hF.cell hlt hne]; exact hb
  have H1 : Hid _ := itself_any
  clear hF hb
  go_enter Tryd.func42, Tryd.ntmps42
  go_wp2_with fail
  go_quiet (first | (go_at_call 28; refine Calls.quiet_of_same (H1.out _ _)))
  go_wp2_with fail
  go_ret
  exact ⟨by simp [BEq.beq], nq, rfl⟩
/-- A list of numbers, not empty, apart from one block, with a first number. -/
def Ok (blk : Nat) (w0 : World) (key : Sg.Rg → Int) (x : Sg.Rg) : Prop := 0 < x.n ∧ w0.cell? ⟨x.q, 0, none⟩ = some (.int .i64 (key x)) ∧ x.q ≠ blk ∧ x.q < w0.heap.size
theorem cmpG_any (bx blk : Nat) (key : Sg.Rg → Int) (w0 : World) (hb : w0.cell? ⟨bx, 0, none⟩ = some (.func (.func 21) #[] #[])) (hlt : bx < w0.heap.size) (hne : bx ≠ blk) : Sg.Cmp bx blk (Ok blk w0 key) key w0 := by
  intro w' hF x y hx hy
  have cb : w'.cell? ⟨bx, 0, none⟩ = some (.func (.func 21) #[] #[]) := by rw [hF.cell hlt hne]; exact hb
  have H1 : Hid (∀ m, Calls Tryd.prog 21 #[.slice (some ⟨x.q, 0, none⟩) x.n x.c] (w'.drewN m) fun e w2 => e = .returned (.int .i64 (key x)) ∧ w2 = w'.drewN m) := fun m => first_any x.q x.n x.c (key x) _ hx.1 (by show w'.cell? _ = _; rw [hF.cell hx.2.2.2 hx.2.2.1]; exact hx.2.1)
  have H3 : Hid (∀ m, Calls Tryd.prog 21 #[.slice (some ⟨y.q, 0, none⟩) y.n y.c] (w'.drewN m) fun e w2 => e = .returned (.int .i64 (key y)) ∧ w2 = w'.drewN m) := fun m => first_any y.q y.n y.c (key y) _ hy.1 (by show w'.cell? _ = _; rw [hF.cell hy.2.2.2 hy.2.2.1]; exact hy.2.1)
  have H2 : Hid _ := cmp_any
  clear hF hb hx hy
  go_enter Tryd.func33, Tryd.ntmps33
  go_wp2_with fail
  go_quiet (first | (go_at_call 21; refine Calls.quiet_of_same (H1.out _); clear H1) | (go_at_call 21; refine Calls.quiet_of_same (H3.out _)) | (go_at_call 34; refine Calls.quiet_of_same (H2.out _ _ _)))
  go_wp2_with fail
  go_ret
  exact ⟨rfl, nq, rfl⟩
theorem eqG_any (bx blk : Nat) (key : Sg.Rg → Int) (w0 : World) (hb : w0.cell? ⟨bx, 0, none⟩ = some (.func (.func 21) #[] #[])) (hlt : bx < w0.heap.size) (hne : bx ≠ blk) : Sg.Eqs bx blk (Ok blk w0 key) key w0 := by
  intro w' hF x y hx hy
  have cb : w'.cell? ⟨bx, 0, none⟩ = some (.func (.func 21) #[] #[]) := by rw [hF.cell hlt hne]; exact hb
  have H1 : Hid (∀ m, Calls Tryd.prog 21 #[.slice (some ⟨x.q, 0, none⟩) x.n x.c] (w'.drewN m) fun e w2 => e = .returned (.int .i64 (key x)) ∧ w2 = w'.drewN m) := fun m => first_any x.q x.n x.c (key x) _ hx.1 (by show w'.cell? _ = _; rw [hF.cell hx.2.2.2 hx.2.2.1]; exact hx.2.1)
  have H3 : Hid (∀ m, Calls Tryd.prog 21 #[.slice (some ⟨y.q, 0, none⟩) y.n y.c] (w'.drewN m) fun e w2 => e = .returned (.int .i64 (key y)) ∧ w2 = w'.drewN m) := fun m => first_any y.q y.n y.c (key y) _ hy.1 (by show w'.cell? _ = _; rw [hF.cell hy.2.2.2 hy.2.2.1]; exact hy.2.1)
  clear hF hb hx hy
  go_enter Tryd.func36, Tryd.ntmps36
  go_wp2_with fail
  go_quiet (first | (go_at_call 21; refine Calls.quiet_of_same (H1.out _); clear H1) | (go_at_call 21; refine Calls.quiet_of_same (H3.out _)))
  go_wp2_with fail
  go_ret
  exact ⟨by simp [BEq.beq], nq, rfl⟩
end Go.Proofs.YtfdmahilgemlaaaDoor.So
