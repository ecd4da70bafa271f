/- Comparing two numbers; what the closures of an ordering by falling heights answer; the ordering. Conditions: the heights lie in memory, apart from the row that is put into order. -/
import Derived.Test.YtnckkhamkkaljaaDoorSfi
namespace Go.Proofs.YtnckkhamkkaljaaDoor.So
open Go.ChangeShapes Go.WideShapes Go.ChangeAt Go.RowKit
open _root_.Go.Proofs.YtnckkhamkkaljaaDoor.Ss
set_option maxRecDepth 20000

theorem cmp_any (x y : Int) (w : World) : Calls Tryd.prog 76 #[.int .i64 x, .int .i64 y] w fun e w' => e = .returned (.int .i64 (c3 x y)) ∧ w' = w := by
  unfold c3
  by_cases h : x < y
  · rw [if_pos h]
    go_enter Tryd.func76, Tryd.ntmps76
    go_wp2
    go_ret
    exact ⟨rfl, rfl⟩
  · rw [if_neg h]
    by_cases h' : y < x
    · rw [if_pos h']
      go_enter Tryd.func76, Tryd.ntmps76
      go_wp2
      go_ret
      exact ⟨rfl, rfl⟩
    · rw [if_neg h']
      go_enter Tryd.func76, Tryd.ntmps76
      go_wp2
      go_ret
      exact ⟨rfl, rfl⟩
theorem meas_any (hx hb c n : Nat) (v : Int) (k : Nat) (w : World) (hc : w.cell? ⟨hx, 0, none⟩ = some (.slice (some ⟨hb, 0, none⟩) n c)) (hk : k < n) (hv : w.cell? ⟨hb, k, none⟩ = some (.int .i64 v)) : Calls Tryd.prog 50 #[.int .i64 (k : Int), .pointer (some ⟨hx, 0, none⟩)] w fun e w' => e = .returned (.int .i64 v) ∧ w' = w := by
  have z0 : (0 : Int) ≤ (k : Int) := by omega
  have z1 : (k : Int) < (n : Int) := by omega
  go_enter Tryd.func50, Tryd.ntmps50
  go_wp2
  go_ret
  exact ⟨rfl, rfl⟩
theorem c3_neg (x y : Int) : c3 (-x) (-y) = c3 y x := by
  unfold c3
  by_cases h : y < x
  · rw [if_pos (by omega), if_pos h]
  · rw [if_neg (by omega), if_neg h]
    by_cases h' : x < y
    · rw [if_pos (by omega), if_pos h']
    · rw [if_neg (by omega), if_neg h']
/-- The heights in memory, apart from one block. -/
structure Hb (bx hx hb n c blk : Nat) (H : Nat → Int) (w0 : World) : Prop where
  b : w0.cell? ⟨bx, 0, none⟩ = some (.func (.func 50) #[] #[.pointer (some ⟨hx, 0, none⟩)])
  x : w0.cell? ⟨hx, 0, none⟩ = some (.slice (some ⟨hb, 0, none⟩) n c)
  v : ∀ k, k < n → w0.cell? ⟨hb, k, none⟩ = some (.int .i64 (H k))
  l1 : bx < w0.heap.size
  l2 : hx < w0.heap.size
  l3 : hb < w0.heap.size
  n1 : bx ≠ blk
  n2 : hx ≠ blk
  n3 : hb ≠ blk
def okN (n : Nat) (x : Int) : Prop := 0 ≤ x ∧ x < n
def keyH (H : Nat → Int) (x : Int) : Int := - H x.toNat
theorem cmpH_any {bx hx hb n c blk : Nat} {H : Nat → Int} {w0 : World} (h : Hb bx hx hb n c blk H w0) : Si.Cmp bx blk (okN n) (keyH H) w0 := by
  intro w' hF x y hx0 hy0
  obtain ⟨i, rfl⟩ : ∃ i : Nat, x = i := ⟨x.toNat, by have := hx0.1; omega⟩
  obtain ⟨j, rfl⟩ : ∃ j : Nat, y = j := ⟨y.toNat, by have := hy0.1; omega⟩
  have hi : i < n := by have := hx0.2; omega
  have hj : j < n := by have := hy0.2; omega
  have cb : w'.cell? ⟨bx, 0, none⟩ = some (.func (.func 50) #[] #[.pointer (some ⟨hx, 0, none⟩)]) := by rw [hF.cell h.l1 h.n1]; exact h.b
  have H1 : Hid (∀ m, Calls Tryd.prog 50 #[.int .i64 (i : Int), .pointer (some ⟨hx, 0, none⟩)] (w'.drewN m) fun e w2 => e = .returned (.int .i64 (H i)) ∧ w2 = w'.drewN m) := fun m => meas_any hx hb c n (H i) i _ (by show w'.cell? _ = _; rw [hF.cell h.l2 h.n2]; exact h.x) hi (by show w'.cell? _ = _; rw [hF.cell h.l3 h.n3]; exact h.v i hi)
  have H3 : Hid (∀ m, Calls Tryd.prog 50 #[.int .i64 (j : Int), .pointer (some ⟨hx, 0, none⟩)] (w'.drewN m) fun e w2 => e = .returned (.int .i64 (H j)) ∧ w2 = w'.drewN m) := fun m => meas_any hx hb c n (H j) j _ (by show w'.cell? _ = _; rw [hF.cell h.l2 h.n2]; exact h.x) hj (by show w'.cell? _ = _; rw [hF.cell h.l3 h.n3]; exact h.v j hj)
  have H2 : Hid _ := cmp_any
  have hlt : bx < w'.heap.size := Nat.lt_of_lt_of_le h.l1 hF.size
  have hk : c3 (keyH H (i : Int)) (keyH H (j : Int)) = c3 (H j) (H i) := by unfold keyH; rw [c3_neg]; rfl
  rw [hk]
  clear hF h hx0 hy0 hk hi hj
  generalize H i = u at *
  generalize H j = v at *
  go_enter Tryd.func75, Tryd.ntmps75
  go_wp2_with fail
  go_quiet (first | (go_at_call 50; refine Calls.quiet_of_same (H3.out _); clear H3) | (go_at_call 50; refine Calls.quiet_of_same (H1.out _)) | (go_at_call 76; refine Calls.quiet_of_same (H2.out _ _ _)))
  go_wp2_with fail
  go_ret
  exact ⟨rfl, nq, rfl⟩
end Go.Proofs.YtnckkhamkkaljaaDoor.So
