/- What tag tells of the place where the machine stands: read off the program by the walk. Conditions: the machine and its program lie in memory. -/
import Derived.Test.YtlnfhbkkodhmaaaDoorNs
namespace Go.Proofs.YtlnfhbkkodhmaaaDoor.Sm
open Go.ChangeShapes Go.WideShapes Go.ChangeAt Go.RowKit
open _root_.Go.Proofs.YtlnfhbkkodhmaaaDoor.Op _root_.Go.Proofs.YtlnfhbkkodhmaaaDoor.So
set_option maxRecDepth 20000

/-- A tag's value. -/
def tagV (t : Tg) : Value := .agg #[.int .i64 t.1, .bool t.2.1, .int .i64 t.2.2, .bool false]
theorem at4 {W : World} {n : Nat} {v0 v1 v2 v3 : Value} {zs : Array Value} (h : Op.At W n zs) (hz : zs.size = 4) : Op.At ((((W.setCell ⟨n, 0, none⟩ v0).setCell ⟨n, 1, none⟩ v1).setCell ⟨n, 2, none⟩ v2).setCell ⟨n, 3, none⟩ v3) n ((((zs.setIfInBounds 0 v0).setIfInBounds 1 v1).setIfInBounds 2 v2).setIfInBounds 3 v3) :=
  at_set' (at_set' (at_set' (at_set' h (by omega) v0) (by simp; omega) v1) (by simp; omega) v2) (by simp; omega) v3
set_option maxHeartbeats 4000000 in
theorem tag_any {w : World} {q : Nat} {ps : List Bk} {T : Nat → Prop} {M : Ma} (h : MM w q ps T M) : Calls Tryd.prog 32 #[ptr q] w fun e w' => e = .returned (tagV (tagM ps M)) ∧ Below w.heap.size w w' := by
  obtain ⟨b, f, bc, po, pc, x, p, hS⟩ := h.std
  have HL : Hid (∀ W, Below w.heap.size w W → Calls Tryd.prog 59 #[ptr q] W fun e w' => e = .returned (.agg #[.int .i64 (M.b : Int), .bool M.y, .int .i64 ((lst x M.y).length : Int)]) ∧ Below W.heap.size W w') := fun W hb => (hS.up hb).end_
  have HM : Hid (∀ W, Below w.heap.size w W → W.cell? ⟨q, 329, none⟩ = some (.int .i64 (M.b : Int)) ∧ W.cell? ⟨q, 330, none⟩ = some (.bool M.y) ∧ W.cell? ⟨q, 331, none⟩ = some (.int .i64 (M.o : Int))) := fun W hb' => ⟨(hS.up hb').at_.b, (hS.up hb').at_.y, (hS.up hb').at_.o⟩
  have hq := hS.at_.lt
  unfold tagM
  rw [hS.list]
  clear h hS
  generalize (lst x M.y).length = ll at *
  generalize M.b = mb at *
  generalize M.y = my at *
  generalize M.o = mo at *
  by_cases hc : mo = ll
  · rw [if_pos hc]
    subst hc
    show Calls Tryd.prog 32 #[ptr q] w fun e w' => e = .returned (.agg #[.int .i64 (mb : Int), .bool false, .int .i64 (-1), .bool false]) ∧ Below w.heap.size w w'
    go_enter Tryd.func32, Tryd.ntmps32
    go_wp2_with fail
    obtain ⟨V, hV⟩ : ∃ V, V = w.alloc (.cells #[.int .i64 0, .bool false, .int .i64 0, .bool false] 49) := ⟨_, rfl⟩
    rw [← hV]
    have HB : Hid (Below w.heap.size w V) := by rw [hV]; exact (Below.refl _ _).alloc (Nat.le_refl _) _
    have HR : Hid (Op.At V w.heap.size #[.int .i64 0, .bool false, .int .i64 0, .bool false]) := by rw [hV]; exact Op.At.new _ _ _
    clear hV
    have e0 : ∀ z : Wd (Below V.heap.size V), z.w.cell? ⟨q, 329, none⟩ = some (.int .i64 (mb : Int)) := fun z => (HM.out z.w (HB.out.trans (z.ok.mono HB.out.size))).1
    have e1 : ∀ z : Wd (Below V.heap.size V), z.w.cell? ⟨q, 330, none⟩ = some (.bool my) := fun z => (HM.out z.w (HB.out.trans (z.ok.mono HB.out.size))).2.1
    have e2 : ∀ z : Wd (Below V.heap.size V), z.w.cell? ⟨q, 331, none⟩ = some (.int .i64 (mo : Int)) := fun z => (HM.out z.w (HB.out.trans (z.ok.mono HB.out.size))).2.2
    haveI inst : Nonempty (Wd (Below V.heap.size V)) := ⟨⟨V, Below.refl _ _⟩⟩
    have HX : Hid (∀ z : Wd (Below V.heap.size V), Below w.heap.size w z.w) := fun z => HB.out.trans (z.ok.mono HB.out.size)
    refine wp_region_in (Below V.heap.size V) (by kernel_rfl) (by kernel_rfl) ((Below.refl _ _).drew) ?_
    repeat (first | go_big_quiet_step ((go_at_call 59; exact calls_in (Nat.le_refl _) _ (HL.out _ (HX.out _)))))
    refine wpQuiet_nil ?_
    rintro _ ⟨z, rfl⟩
    have ha := HR.out.below z.ok HR.out.lt
    have r0 := ha.c 0 _ rfl
    have r1 := ha.c 1 _ rfl
    have r2 := ha.c 2 _ rfl
    have r3 := ha.c 3 _ rfl
    have f0 := ha.f 0
    have f1 := ha.f 1
    have f2 := ha.f 2
    have f3 := ha.f 3
    have hl := ha.lt
    have m0 := (HM.out z.w (HX.out z)).1
    have m1 := (HM.out z.w (HX.out z)).2.1
    have m2 := (HM.out z.w (HX.out z)).2.2
    have hq2 : q < z.w.heap.size := Nat.lt_of_lt_of_le hq (HX.out z).size
    have hne : ¬ q = w.heap.size := by omega
    have hne' : ¬ w.heap.size = q := by omega
    have HZ : Hid (Below w.heap.size w z.w ∧ Op.At z.w w.heap.size #[.int .i64 0, .bool false, .int .i64 0, .bool false]) := ⟨HX.out z, ha⟩
    clear e0 e1 e2 ha HX HR HB HL HM
    generalize z.w = X at *
    go_wp2_with fail
    have hA := at4 (v0 := .int .i64 (mb : Int)) (v1 := .bool false) (v2 := .int .i64 (-1)) (v3 := .bool false) HZ.out.2 rfl
    have c0 := hA.c 0 _ rfl
    have c1 := hA.c 1 _ rfl
    have c2 := hA.c 2 _ rfl
    have c3 := hA.c 3 _ rfl
    refine bodyPost_ret (v := .agg #[.int .i64 (mb : Int), .bool false, .int .i64 (-1), .bool false]) (by simp [results, Tryd.results32, go_sem, c0, c1, c2, c3]) rfl ⟨rfl, ?_⟩
    exact (((HZ.out.1.setCell (by show w.heap.size ≤ w.heap.size; omega) _).setCell (by show w.heap.size ≤ w.heap.size; omega) _).setCell (by show w.heap.size ≤ w.heap.size; omega) _).setCell (by show w.heap.size ≤ w.heap.size; omega) _
  · rw [if_neg hc]
    have hc' : ¬ (mo : Int) = (ll : Int) := by omega
    show Calls Tryd.prog 32 #[ptr q] w fun e w' => e = .returned (.agg #[.int .i64 (mb : Int), .bool my, .int .i64 (mo : Int), .bool false]) ∧ Below w.heap.size w w'
    go_enter Tryd.func32, Tryd.ntmps32
    go_wp2_with fail
    obtain ⟨V, hV⟩ : ∃ V, V = w.alloc (.cells #[.int .i64 0, .bool false, .int .i64 0, .bool false] 49) := ⟨_, rfl⟩
    rw [← hV]
    have HB : Hid (Below w.heap.size w V) := by rw [hV]; exact (Below.refl _ _).alloc (Nat.le_refl _) _
    have HR : Hid (Op.At V w.heap.size #[.int .i64 0, .bool false, .int .i64 0, .bool false]) := by rw [hV]; exact Op.At.new _ _ _
    clear hV
    have e0 : ∀ z : Wd (Below V.heap.size V), z.w.cell? ⟨q, 329, none⟩ = some (.int .i64 (mb : Int)) := fun z => (HM.out z.w (HB.out.trans (z.ok.mono HB.out.size))).1
    have e1 : ∀ z : Wd (Below V.heap.size V), z.w.cell? ⟨q, 330, none⟩ = some (.bool my) := fun z => (HM.out z.w (HB.out.trans (z.ok.mono HB.out.size))).2.1
    have e2 : ∀ z : Wd (Below V.heap.size V), z.w.cell? ⟨q, 331, none⟩ = some (.int .i64 (mo : Int)) := fun z => (HM.out z.w (HB.out.trans (z.ok.mono HB.out.size))).2.2
    haveI inst : Nonempty (Wd (Below V.heap.size V)) := ⟨⟨V, Below.refl _ _⟩⟩
    have HX : Hid (∀ z : Wd (Below V.heap.size V), Below w.heap.size w z.w) := fun z => HB.out.trans (z.ok.mono HB.out.size)
    refine wp_region_in (Below V.heap.size V) (by kernel_rfl) (by kernel_rfl) ((Below.refl _ _).drew) ?_
    repeat (first | go_big_quiet_step ((go_at_call 59; exact calls_in (Nat.le_refl _) _ (HL.out _ (HX.out _)))))
    refine wpQuiet_nil ?_
    rintro _ ⟨z, rfl⟩
    have ha := HR.out.below z.ok HR.out.lt
    have r0 := ha.c 0 _ rfl
    have r1 := ha.c 1 _ rfl
    have r2 := ha.c 2 _ rfl
    have r3 := ha.c 3 _ rfl
    have f0 := ha.f 0
    have f1 := ha.f 1
    have f2 := ha.f 2
    have f3 := ha.f 3
    have hl := ha.lt
    have m0 := (HM.out z.w (HX.out z)).1
    have m1 := (HM.out z.w (HX.out z)).2.1
    have m2 := (HM.out z.w (HX.out z)).2.2
    have hq2 : q < z.w.heap.size := Nat.lt_of_lt_of_le hq (HX.out z).size
    have hne : ¬ q = w.heap.size := by omega
    have hne' : ¬ w.heap.size = q := by omega
    have HZ : Hid (Below w.heap.size w z.w ∧ Op.At z.w w.heap.size #[.int .i64 0, .bool false, .int .i64 0, .bool false]) := ⟨HX.out z, ha⟩
    clear e0 e1 e2 ha HX HR HB HL HM
    generalize z.w = X at *
    go_wp2_with fail
    go_region_held3 (fun w' => w'.cell? ⟨q, 329, none⟩ = some (.int .i64 (mb : Int)) ∧ w'.cell? ⟨q, 330, none⟩ = some (.bool my) ∧ w'.cell? ⟨q, 331, none⟩ = some (.int .i64 (mo : Int)))
      (first | (go_keep; done))
      (fail)
    go_wp2_with fail
    have hA0 := at4 (v0 := .int .i64 (mb : Int)) (v1 := .bool my) (v2 := .int .i64 (mo : Int)) (v3 := .bool false) HZ.out.2 rfl
    have hA := hA0.below (drew_up _) hA0.lt
    have c0 := hA.c 0 _ rfl
    have c1 := hA.c 1 _ rfl
    have c2 := hA.c 2 _ rfl
    have c3 := hA.c 3 _ rfl
    refine bodyPost_ret (v := .agg #[.int .i64 (mb : Int), .bool my, .int .i64 (mo : Int), .bool false]) (by simp [results, Tryd.results32, go_sem, c0, c1, c2, c3]) rfl ⟨rfl, ?_⟩
    have hb : Below w.heap.size w ((((X.setCell ⟨w.heap.size, 0, none⟩ (.int .i64 (mb : Int))).setCell ⟨w.heap.size, 1, none⟩ (.bool my)).setCell ⟨w.heap.size, 2, none⟩ (.int .i64 (mo : Int))).setCell ⟨w.heap.size, 3, none⟩ (.bool false)) := (((HZ.out.1.setCell (by show w.heap.size ≤ w.heap.size; omega) _).setCell (by show w.heap.size ≤ w.heap.size; omega) _).setCell (by show w.heap.size ≤ w.heap.size; omega) _).setCell (by show w.heap.size ≤ w.heap.size; omega) _
    exact hb.trans ((drew_up _).mono hb.size)
end Go.Proofs.YtlnfhbkkodhmaaaDoor.Sm
