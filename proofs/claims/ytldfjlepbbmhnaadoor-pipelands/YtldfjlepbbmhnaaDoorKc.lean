/- What package ops answers of an operation (fieldsHold, checked, Check, Class, Writes), read off the program by the walk. Conditions: each field is a number of its own width. -/
import Derived.Test.YtldfjlepbbmhnaaDoorKb
namespace Go.Proofs.YtldfjlepbbmhnaaDoor.Op
open Go.ChangeShapes Go.WideShapes Go.ChangeAt Go.RowKit
set_option maxRecDepth 20000

theorem regHoldsV (r : Int) (c v : Bool) (w : World) (h : rH r c = v) : Calls Tryd.prog 68 #[.int .u8 r, .bool c] w fun e w' => e = .returned (.bool v) ∧ Below w.heap.size w w' :=
  (regHolds r c w).mono fun _ _ g => ⟨by rw [g.1, h], by rw [g.2]; exact Below.refl _ _⟩

set_option maxHeartbeats 1000000 in
theorem fieldsHold_any (k : K) (o : O) (w : World) :
    Calls Tryd.prog 54 #[k.val, o.val] w fun e w' => e = .returned (.bool (okF k o)) ∧ Below w.heap.size w w' := by
  have hW : Below w.heap.size w ((w.alloc (.cells #[.string k.s, .int .i8 k.cls, .int .u8 k.fields] 92)).alloc (.cells o.cells 55)) := by go_grown
  generalize hV : (w.alloc (.cells #[.string k.s, .int .i8 k.cls, .int .u8 k.fields] 92)).alloc (.cells o.cells 55) = V at hW
  have hsz : w.heap.size + 2 = V.heap.size := by rw [← hV]; simp
  have c0 : ∀ x : Wd (Below V.heap.size V), x.w.cell? ⟨w.heap.size, 0, none⟩ = some (.string k.s) := fun x => by rw [(bcell x.ok).1 _ _ (by omega), ← hV]; simp
  have c1 : ∀ x : Wd (Below V.heap.size V), x.w.cell? ⟨w.heap.size, 1, none⟩ = some (.int .i8 k.cls) := fun x => by rw [(bcell x.ok).1 _ _ (by omega), ← hV]; simp
  have c2 : ∀ x : Wd (Below V.heap.size V), x.w.cell? ⟨w.heap.size, 2, none⟩ = some (.int .u8 k.fields) := fun x => by rw [(bcell x.ok).1 _ _ (by omega), ← hV]; simp
  have d1 : ∀ x : Wd (Below V.heap.size V), x.w.cell? ⟨w.heap.size + 1, 1, none⟩ = some (.int .u8 o.d) := fun x => by rw [(bcell x.ok).1 _ _ (by omega), ← hV]; simp
  have d2 : ∀ x : Wd (Below V.heap.size V), x.w.cell? ⟨w.heap.size + 1, 2, none⟩ = some (.int .u8 o.a) := fun x => by rw [(bcell x.ok).1 _ _ (by omega), ← hV]; simp
  have d3 : ∀ x : Wd (Below V.heap.size V), x.w.cell? ⟨w.heap.size + 1, 3, none⟩ = some (.int .u8 o.b) := fun x => by rw [(bcell x.ok).1 _ _ (by omega), ← hV]; simp
  have d4 : ∀ x : Wd (Below V.heap.size V), x.w.cell? ⟨w.heap.size + 1, 4, none⟩ = some (.int .i64 o.im) := fun x => by rw [(bcell x.ok).1 _ _ (by omega), ← hV]; simp
  haveI inst : Nonempty (Wd (Below V.heap.size V)) := ⟨⟨V, Below.refl _ _⟩⟩
  have HW : Hid (Below w.heap.size w V) := hW
  have HV : Hid (_ = V) := hV
  clear hW hV
  have hdef : okF k o = (rH o.d k.D && rH o.a k.A && rH o.b (k.B || k.N) && iH o.im k.I) := rfl
  rw [hdef]
  clear hdef
  have aD := and_D k
  have aA := and_A k
  have aB := and_BN k
  have aI := and_I k
  cases h1 : rH o.d k.D
  rotate_left
  cases h2 : rH o.a k.A
  rotate_left
  cases h3 : rH o.b (k.B || k.N)
  rotate_left
  all_goals
    go_enter Tryd.func54, Tryd.ntmps54
    go_wp2
    rw [HV.out]
    refine wp_region_in (Below V.heap.size V) (by kernel_rfl) (by kernel_rfl) ((Below.refl _ _).drew) ?_
    repeat (first | go_big_quiet_step ((first
      | (go_at_call 34; exact calls_in (Nat.le_refl _) _ (counts_any _ _ _ _ _))
      | (go_at_call 68; exact calls_in (Nat.le_refl _) _ (regHoldsV _ _ _ _ (by assumption)))
      | (go_at_call 69; exact calls_in (Nat.le_refl _) _ ((immHolds _ _ _).mono fun _ _ h => ⟨h.1, by rw [h.2]; exact Below.refl _ _⟩)))))
    refine wpQuiet_nil ?_
    rintro _ ⟨x, rfl⟩
    have hx := x.ok
    go_wp2
    go_ret
    refine ⟨ret_bool (by simp), HW.out.trans (hx.mono HW.out.size)⟩
end Go.Proofs.YtldfjlepbbmhnaaDoor.Op
