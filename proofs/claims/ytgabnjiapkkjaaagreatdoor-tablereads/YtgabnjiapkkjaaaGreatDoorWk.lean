/- The statements' own wakes answers true. Conditions: the variables lie in memory as the program lays them. -/
import Derived.Test.YtgabnjiapkkjaaaGreatDoorWa
namespace Go.Proofs.YtgabnjiapkkjaaaGreatDoor.Tb
open Go.ChangeShapes Go.WideShapes Go.ChangeAt Go.RowKit

theorem parse2z (s : ByteArray) (w : World) (h : s.data.toList = text2) (hE : Env w) : Calls Tryz.prog 14 #[.string s] w fun e w' => ∃ q, e = .returned (.tuple #[.agg #[.int .i64 0, .int .i64 0, .int .i64 0, .int .i64 0, .int .i64 0, .int .i64 0, .int .i64 0, .int .i64 0, .int .i64 0, .int .i64 0, .int .i64 0, .int .i64 0, .int .i64 0], .iface 58 (.pointer (some ⟨q, 0, none⟩))]) ∧ FaultAt w' q 20 4 ⟨#[57]⟩ ∧ Below w.heap.size w w' := parse2 s w h hE
theorem fault2z (q : Nat) (w : World) (hE : Env w) (hF : FaultAt w q 20 4 ⟨#[57]⟩) : Calls Tryz.prog 16 #[.iface 58 (.pointer (some ⟨q, 0, none⟩))] w fun e w' => e = .returned (.tuple #[.agg #[.int .i64 20, .int .i64 4, .string ⟨#[57]⟩], .bool true]) ∧ Below w.heap.size w w' := fault_some q 20 4 _ w hE hF (by decide)
theorem fault_old {w : World} {q : Nat} {c a : Int} {s : ByteArray} (h : FaultAt w q c a s) (o : Obj) : FaultAt (w.alloc o) q c a s := by
  unfold FaultAt at h ⊢
  have hlt : q < w.heap.size := by
    rcases Nat.lt_or_ge q w.heap.size with h' | h'
    · exact h'
    · rw [Array.getElem?_eq_none h'] at h; cases h
  rw [Below.heap_alloc w o q hlt]; exact h
theorem eqU (w : World) : (Op.equalIn 9999 22 (.agg #[.int .i64 2, .int .i64 1, .int .i64 1, .int .i64 1]) (.agg #[.int .i64 2, .int .i64 1, .int .i64 1, .int .i64 1])).run Tryz.prog w = .ok true w := by kernel_rfl
theorem eqL (w : World) : (Op.equalIn 9999 22 (.agg #[.int .i64 1, .int .i64 3, .int .i64 2, .int .i64 1]) (.agg #[.int .i64 1, .int .i64 3, .int .i64 2, .int .i64 1])).run Tryz.prog w = .ok true w := by kernel_rfl
theorem eqB (w : World) : (Op.equalIn 9999 22 (.agg #[.int .i64 1, .int .i64 2, .int .i64 1, .int .i64 1]) (.agg #[.int .i64 1, .int .i64 2, .int .i64 1, .int .i64 1])).run Tryz.prog w = .ok true w := by kernel_rfl
theorem small1 (w : World) : Calls Tryz.prog 23 #[] w fun e w' => e = .returned (.agg #[.int .i64 2, .int .i64 1, .int .i64 1, .int .i64 1, .int .i64 1, .int .i64 3, .int .i64 2, .int .i64 1, .int .i64 1, .int .i64 2, .int .i64 1, .int .i64 1, .int .i64 1]) ∧ Below w.heap.size w w' := small_any w
theorem smallT_ok : smallT.ok = true := by decide
theorem tab0_no : tab0.ok = false := by decide
theorem width1 (w : World) (hG : Bnds w) : Calls Tryz.prog 11 #[.agg #[.int .i64 2, .int .i64 1, .int .i64 1, .int .i64 1, .int .i64 1, .int .i64 3, .int .i64 2, .int .i64 1, .int .i64 1, .int .i64 2, .int .i64 1, .int .i64 1, .int .i64 1]] w fun e w' => e = .returned (.int .i64 5) ∧ Below w.heap.size w w' := by
  have h := width_yes smallT w hG smallT_ok
  rw [small_val, show tabW smallT = 5 from by decide] at h
  exact h
theorem check1 (w : World) (hG : Bnds w) : Calls Tryz.prog 9 #[.agg #[.int .i64 2, .int .i64 1, .int .i64 1, .int .i64 1, .int .i64 1, .int .i64 3, .int .i64 2, .int .i64 1, .int .i64 1, .int .i64 2, .int .i64 1, .int .i64 1, .int .i64 1]] w fun e w' => e = .returned (.int .i64 0) ∧ Below w.heap.size w w' := by
  have h := check_any smallT w hG
  rw [small_val, show ckR smallT = 0 from by decide] at h
  exact h
theorem check0 (w : World) (hG : Bnds w) : Calls Tryz.prog 9 #[.agg #[.int .i64 0, .int .i64 0, .int .i64 0, .int .i64 0, .int .i64 0, .int .i64 0, .int .i64 0, .int .i64 0, .int .i64 0, .int .i64 0, .int .i64 0, .int .i64 0, .int .i64 0]] w fun e w' => e = .returned (.int .i64 20) ∧ Below w.heap.size w w' := by
  have h := check_any tab0 w hG
  rw [show ckR tab0 = 20 from by decide] at h
  exact h

set_option maxRecDepth 20000 in
set_option maxHeartbeats 600000 in
theorem wakes_any (w : World) (hE : Env w) : Calls Tryz.prog 13 #[] w fun e w' => e = .returned (.bool true) ∧ Below w.heap.size w w' := by
  have HE : Hid (Env w) := hE
  have h14 := hE.G.big
  clear hE
  go_enter Tryz.func13, Tryz.ntmps13
  go_wp2_with (first | (go_at_call 14; refine (parse1 _ _ (by kernel_rfl) HE.out).mono ?_; rintro e w1 ⟨rfl, hb1⟩; refine Hid.out ?_))
  refine Lib.hid ?_
  have HE1 : Hid (Env w1) := HE.out.below hb1 h14
  unfold smallV
  go_wp2_with (first
    | (go_at_call 14; refine (parse2z _ _ (by kernel_rfl) (HE1.out.below (B := w1.heap.size) ((Below.refl _ _).alloc (Nat.le_refl _) _) (by have := hb1.size; omega))).mono ?_; rintro e w2 ⟨q, rfl, hF, hb2⟩)
    | (go_at_call 16; refine (fault2z q _ ((HE1.out.below (B := w1.heap.size) (((Below.refl _ _).alloc (Nat.le_refl _) _).trans (hb2.mono (by simp))) (by have := hb1.size; omega)).below (B := w2.heap.size) ((Below.refl _ _).alloc (Nat.le_refl _) _) (by have := hb1.size; have := hb2.size; simp at this; omega)) (fault_old hF _)).mono ?_; rintro e w3 ⟨rfl, hb3⟩))
  have z1 := hb1.size
  have z2 := hb2.size
  have z3 := hb3.size
  simp at z2 z3
  obtain ⟨w4, hw4⟩ : ∃ w4, w4 = w3.alloc (.cells #[.int .i64 20, .int .i64 4, .string ⟨#[57]⟩] 37) := ⟨_, rfl⟩
  have hz4 : w4.heap.size = w3.heap.size + 1 := by rw [hw4]; simp
  have HG4 : Hid ((∀ (j : Nat) v, (#[.int .i64 20, .int .i64 4, .string ⟨#[57]⟩] : Array Value)[j]? = some v → w4.cell? ⟨w3.heap.size, j, none⟩ = some v)) := fun j v hv => by rw [hw4]; exact look [.cells #[.int .i64 20, .int .i64 4, .string ⟨#[57]⟩] 37] w3 0 _ _ _ _ _ rfl rfl hv
  have hb34 : Below w3.heap.size w3 w4 := by rw [hw4]; exact (Below.refl _ _).alloc (Nat.le_refl _) _
  have hb24 : Below w2.heap.size w2 w4 := (((Below.refl _ w2).alloc (Nat.le_refl _) _).trans (hb3.mono (by simp))).trans (hb34.mono (by omega))
  have HT : Hid (∀ (j : Nat) v, (#[.int .i64 2, .int .i64 1, .int .i64 1, .int .i64 1, .int .i64 1, .int .i64 3, .int .i64 2, .int .i64 1, .int .i64 1, .int .i64 2, .int .i64 1, .int .i64 1, .int .i64 1] : Array Value)[j]? = some v → w4.cell? ⟨w1.heap.size, j, none⟩ = some v) := fun j v hv => by
    rw [(bcell hb24).1 _ _ (by omega), (bcell hb2).1 _ _ (by simp)]
    exact look [.cells #[.int .i64 2, .int .i64 1, .int .i64 1, .int .i64 1, .int .i64 1, .int .i64 3, .int .i64 2, .int .i64 1, .int .i64 1, .int .i64 2, .int .i64 1, .int .i64 1, .int .i64 1] 24] w1 0 _ _ _ _ _ rfl rfl hv
  have hb14 : Below w1.heap.size w1 w4 := (((Below.refl _ w1).alloc (Nat.le_refl _) _).trans (hb2.mono (by simp))).trans (hb24.mono (by omega))
  have HE4 : Hid (Env w4 ∧ Below w.heap.size w w4) := ⟨HE1.out.below hb14 (by omega), hb1.trans (hb14.mono (by omega))⟩
  have t0 : ∀ x : Wd (Below w4.heap.size w4), x.w.cell? ⟨w1.heap.size, 0, none⟩ = some (.int .i64 2) := fun x => ((bcell x.ok).1 _ _ (by omega)).trans (HT.out 0 _ (by rfl))
  have t1 : ∀ x : Wd (Below w4.heap.size w4), x.w.cell? ⟨w1.heap.size, 1, none⟩ = some (.int .i64 1) := fun x => ((bcell x.ok).1 _ _ (by omega)).trans (HT.out 1 _ (by rfl))
  have t2 : ∀ x : Wd (Below w4.heap.size w4), x.w.cell? ⟨w1.heap.size, 2, none⟩ = some (.int .i64 1) := fun x => ((bcell x.ok).1 _ _ (by omega)).trans (HT.out 2 _ (by rfl))
  have t3 : ∀ x : Wd (Below w4.heap.size w4), x.w.cell? ⟨w1.heap.size, 3, none⟩ = some (.int .i64 1) := fun x => ((bcell x.ok).1 _ _ (by omega)).trans (HT.out 3 _ (by rfl))
  have t4 : ∀ x : Wd (Below w4.heap.size w4), x.w.cell? ⟨w1.heap.size, 4, none⟩ = some (.int .i64 1) := fun x => ((bcell x.ok).1 _ _ (by omega)).trans (HT.out 4 _ (by rfl))
  have t5 : ∀ x : Wd (Below w4.heap.size w4), x.w.cell? ⟨w1.heap.size, 5, none⟩ = some (.int .i64 3) := fun x => ((bcell x.ok).1 _ _ (by omega)).trans (HT.out 5 _ (by rfl))
  have t6 : ∀ x : Wd (Below w4.heap.size w4), x.w.cell? ⟨w1.heap.size, 6, none⟩ = some (.int .i64 2) := fun x => ((bcell x.ok).1 _ _ (by omega)).trans (HT.out 6 _ (by rfl))
  have t7 : ∀ x : Wd (Below w4.heap.size w4), x.w.cell? ⟨w1.heap.size, 7, none⟩ = some (.int .i64 1) := fun x => ((bcell x.ok).1 _ _ (by omega)).trans (HT.out 7 _ (by rfl))
  have t8 : ∀ x : Wd (Below w4.heap.size w4), x.w.cell? ⟨w1.heap.size, 8, none⟩ = some (.int .i64 1) := fun x => ((bcell x.ok).1 _ _ (by omega)).trans (HT.out 8 _ (by rfl))
  have t9 : ∀ x : Wd (Below w4.heap.size w4), x.w.cell? ⟨w1.heap.size, 9, none⟩ = some (.int .i64 2) := fun x => ((bcell x.ok).1 _ _ (by omega)).trans (HT.out 9 _ (by rfl))
  have t10 : ∀ x : Wd (Below w4.heap.size w4), x.w.cell? ⟨w1.heap.size, 10, none⟩ = some (.int .i64 1) := fun x => ((bcell x.ok).1 _ _ (by omega)).trans (HT.out 10 _ (by rfl))
  have t11 : ∀ x : Wd (Below w4.heap.size w4), x.w.cell? ⟨w1.heap.size, 11, none⟩ = some (.int .i64 1) := fun x => ((bcell x.ok).1 _ _ (by omega)).trans (HT.out 11 _ (by rfl))
  have t12 : ∀ x : Wd (Below w4.heap.size w4), x.w.cell? ⟨w1.heap.size, 12, none⟩ = some (.int .i64 1) := fun x => ((bcell x.ok).1 _ _ (by omega)).trans (HT.out 12 _ (by rfl))
  have g0 : ∀ x : Wd (Below w4.heap.size w4), x.w.cell? ⟨w3.heap.size, 0, none⟩ = some (.int .i64 20) := fun x => ((bcell x.ok).1 _ _ (by omega)).trans (HG4.out 0 _ rfl)
  have g1 : ∀ x : Wd (Below w4.heap.size w4), x.w.cell? ⟨w3.heap.size, 1, none⟩ = some (.int .i64 4) := fun x => ((bcell x.ok).1 _ _ (by omega)).trans (HG4.out 1 _ rfl)
  have g2 : ∀ x : Wd (Below w4.heap.size w4), x.w.cell? ⟨w3.heap.size, 2, none⟩ = some (.string ⟨#[57]⟩) := fun x => ((bcell x.ok).1 _ _ (by omega)).trans (HG4.out 2 _ rfl)
  haveI inst : Nonempty (Wd (Below w4.heap.size w4)) := ⟨⟨w4, Below.refl _ _⟩⟩
  have HBn : Hid (∀ x : Wd (Below w4.heap.size w4), Bnds x.w) := fun x => HE4.out.1.G.below x.ok (by omega)
  rw [← hw4]
  clear hw4 HG4 HT hb34 hb24 hb14 hb1 hb2 hb3 HE HE1 hF hz4
  have q1 := eqU
  have q2 := eqL
  have q3 := eqB
  refine wp_region_in (Below w4.heap.size w4) (by kernel_rfl) (by kernel_rfl) ((Below.refl _ _).drew) ?_
  repeat (first | go_big_quiet_step ((first
    | (go_at_call 23; exact calls_in (Nat.le_refl _) _ (small1 _))
    | (go_at_call 11; exact calls_in (Nat.le_refl _) _ (width1 _ (HBn.out _)))
    | (go_at_call_of 9 (Value.agg #[Value.int IntKind.i64 2, Value.int IntKind.i64 1, Value.int IntKind.i64 1, Value.int IntKind.i64 1, Value.int IntKind.i64 1, Value.int IntKind.i64 3, Value.int IntKind.i64 2, Value.int IntKind.i64 1, Value.int IntKind.i64 1, Value.int IntKind.i64 2, Value.int IntKind.i64 1, Value.int IntKind.i64 1, Value.int IntKind.i64 1]); exact calls_in (Nat.le_refl _) _ (check1 _ (HBn.out _)))
    | (go_at_call_of 9 (Value.agg #[Value.int IntKind.i64 0, Value.int IntKind.i64 0, Value.int IntKind.i64 0, Value.int IntKind.i64 0, Value.int IntKind.i64 0, Value.int IntKind.i64 0, Value.int IntKind.i64 0, Value.int IntKind.i64 0, Value.int IntKind.i64 0, Value.int IntKind.i64 0, Value.int IntKind.i64 0, Value.int IntKind.i64 0, Value.int IntKind.i64 0]); exact calls_in (Nat.le_refl _) _ (check0 _ (HBn.out _))))))
  refine wpQuiet_nil ?_
  rintro _ ⟨x, rfl⟩
  have hx := x.ok
  go_wp2
  go_ret
  exact ⟨rfl, HE4.out.2.trans (hx.mono HE4.out.2.size)⟩

end Go.Proofs.YtgabnjiapkkjaaaGreatDoor.Tb
