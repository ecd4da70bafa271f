/- The statement TableTells: package table's Check, Width and Text answer what the document's answer, of any table. Conditions: the variables lie in memory as the program lays them. -/
import Derived.Test.YtgabnjiapkkjaaaGreatDoorWk
namespace Go.Proofs.YtgabnjiapkkjaaaGreatDoor.Tb
open Go.ChangeShapes Go.WideShapes Go.ChangeAt Go.RowKit

/-- What both Texts answer. -/
def txS (t : Tab) : ByteArray := if t.ok then ⟨(textL t).toArray⟩ else ⟨#[]⟩
def wdR (t : Tab) : Int := if t.ok then tabW t else 0
theorem text_both (t : Tab) (w : World) (hE : Env w) : Calls Tryz.prog 7 #[t.val] w fun e w' => e = .returned (.tuple #[.string (txS t), .int .i64 (ckR t)]) ∧ Below w.heap.size w w' := by
  cases h : t.ok
  · have h1 : txS t = ⟨#[]⟩ := by simp [txS, h]
    have h2 : ckR t = 20 := by simp [ckR, h]
    rw [h1, h2]; exact text_no t w hE.G h
  · have h1 : txS t = ⟨(textL t).toArray⟩ := by simp [txS, h]
    have h2 : ckR t = 0 := by simp [ckR, h]
    rw [h1, h2]; exact text_yes t w hE.G hE.N h
theorem refText_both (t : Tab) (w : World) : Calls Tryz.prog 8 #[t.val] w fun e w' => e = .returned (.tuple #[.string (txS t), .int .i64 (ckR t)]) ∧ Below w.heap.size w w' := by
  cases h : t.ok
  · have h1 : txS t = ⟨#[]⟩ := by simp [txS, h]
    have h2 : ckR t = 20 := by simp [ckR, h]
    rw [h1, h2]; exact refText_no t w h
  · have h1 : txS t = ⟨(textL t).toArray⟩ := by simp [txS, h]
    have h2 : ckR t = 0 := by simp [ckR, h]
    rw [h1, h2]; exact refText_yes t w h
theorem width_both (t : Tab) (w : World) (hE : Env w) : Calls Tryz.prog 11 #[t.val] w fun e w' => e = .returned (.int .i64 (wdR t)) ∧ Below w.heap.size w w' := by
  cases h : t.ok
  · have h1 : wdR t = 0 := by simp [wdR, h]
    rw [h1]; exact width_no t w hE.G h
  · have h1 : wdR t = tabW t := by simp [wdR, h]
    rw [h1]; exact width_yes t w hE.G h
theorem refWidth_both (t : Tab) (w : World) : Calls Tryz.prog 12 #[t.val] w fun e w' => e = .returned (.int .i64 (wdR t)) ∧ Below w.heap.size w w' := by
  cases h : t.ok
  · have h1 : wdR t = 0 := by simp [wdR, h]
    rw [h1]; exact refWidth_no t w h
  · have h1 : wdR t = tabW t := by simp [wdR, h]
    rw [h1]; exact refWidth_yes t w h

set_option maxRecDepth 20000 in
set_option maxHeartbeats 1000000 in
theorem law_tells (t : Tab) (w : World) (hE : Env w) : Calls Tryz.prog 3 #[t.val] w fun e w' => e = .returned (.bool true) ∧ Below w.heap.size w w' := by
  have h14 := hE.G.big
  have HA : Hid (Below w.heap.size w (w.alloc (.cells t.cells 24))) := (Below.refl _ w).alloc (Nat.le_refl _) _
  have HE : Hid (Env w) := hE
  have HE1 : Hid (Env (w.alloc (.cells t.cells 24))) := hE.below HA.out h14
  have ht1 : Hid _ := text_both t (w.alloc (.cells t.cells 24)) HE1.out
  have ht2 : Hid (∀ w', Calls Tryz.prog 8 #[t.val] w' fun e w'' => e = .returned (.tuple #[.string (txS t), .int .i64 (ckR t)]) ∧ Below w'.heap.size w' w'') := refText_both t
  have hk1 : Hid (∀ w', Bnds w' → Calls Tryz.prog 9 #[t.val] w' fun e w'' => e = .returned (.int .i64 (ckR t)) ∧ Below w'.heap.size w' w'') := check_any t
  have hk2 : Hid (∀ w', Calls Tryz.prog 10 #[t.val] w' fun e w'' => e = .returned (.int .i64 (ckR t)) ∧ Below w'.heap.size w' w'') := refCheck_any t
  have hw1 : Hid (∀ w', Env w' → Calls Tryz.prog 11 #[t.val] w' fun e w'' => e = .returned (.int .i64 (wdR t)) ∧ Below w'.heap.size w' w'') := width_both t
  have hw2 : Hid (∀ w', Calls Tryz.prog 12 #[t.val] w' fun e w'' => e = .returned (.int .i64 (wdR t)) ∧ Below w'.heap.size w' w'') := refWidth_both t
  have HTn : Hid _ := tabAt_new w t 24
  clear hE
  generalize txS t = ts at *
  generalize ckR t = ck at *
  generalize wdR t = wd at *
  unfold Tab.val at *
  go_enter Tryz.func3, Tryz.ntmps3
  go_wp2_with (first
    | (go_at_call 7; refine Calls.mono ht1.out ?_; rintro e w2 ⟨rfl, hb2⟩; obtain ⟨q0, q1, q2, q3, q4, q5, q6, q7, q8, q9, q10, q11, q12⟩ := tab_val (HTn.out.below hb2 (by simp)))
    | (go_at_call 8; refine Calls.mono (ht2.out _) ?_; rintro e w4 ⟨rfl, hb4⟩))
  have z2 := hb2.size
  have z4 := hb4.size
  simp at z2
  have hwz : w.heap.size < w4.heap.size := by omega
  have HT : Hid (TabAt w4 w.heap.size t) := (HTn.out.below hb2 (by simp)).below hb4 (by omega)
  have HB : Hid (Below w.heap.size w w4) := HA.out.trans ((hb2.mono (by simp)).trans (hb4.mono (by omega)))
  have HE4 : Hid (Env w4) := HE.out.below HB.out h14
  have HEx : Hid (∀ x : Wd (Below w4.heap.size w4), Env x.w) := fun x => HE4.out.below x.ok (by omega)
  have t0 : ∀ x : Wd (Below w4.heap.size w4), x.w.cell? ⟨w.heap.size, 0, none⟩ = some (.int .i64 (t.u 0)) := fun x => ((bcell x.ok).1 _ _ hwz).trans ((tab_val HT.out).1)
  have t1 : ∀ x : Wd (Below w4.heap.size w4), x.w.cell? ⟨w.heap.size, 1, none⟩ = some (.int .i64 (t.u 1)) := fun x => ((bcell x.ok).1 _ _ hwz).trans ((tab_val HT.out).2.1)
  have t2 : ∀ x : Wd (Below w4.heap.size w4), x.w.cell? ⟨w.heap.size, 2, none⟩ = some (.int .i64 (t.u 2)) := fun x => ((bcell x.ok).1 _ _ hwz).trans ((tab_val HT.out).2.2.1)
  have t3 : ∀ x : Wd (Below w4.heap.size w4), x.w.cell? ⟨w.heap.size, 3, none⟩ = some (.int .i64 (t.u 3)) := fun x => ((bcell x.ok).1 _ _ hwz).trans ((tab_val HT.out).2.2.2.1)
  have t4 : ∀ x : Wd (Below w4.heap.size w4), x.w.cell? ⟨w.heap.size, 4, none⟩ = some (.int .i64 (t.l 0)) := fun x => ((bcell x.ok).1 _ _ hwz).trans ((tab_val HT.out).2.2.2.2.1)
  have t5 : ∀ x : Wd (Below w4.heap.size w4), x.w.cell? ⟨w.heap.size, 5, none⟩ = some (.int .i64 (t.l 1)) := fun x => ((bcell x.ok).1 _ _ hwz).trans ((tab_val HT.out).2.2.2.2.2.1)
  have t6 : ∀ x : Wd (Below w4.heap.size w4), x.w.cell? ⟨w.heap.size, 6, none⟩ = some (.int .i64 (t.l 2)) := fun x => ((bcell x.ok).1 _ _ hwz).trans ((tab_val HT.out).2.2.2.2.2.2.1)
  have t7 : ∀ x : Wd (Below w4.heap.size w4), x.w.cell? ⟨w.heap.size, 7, none⟩ = some (.int .i64 (t.l 3)) := fun x => ((bcell x.ok).1 _ _ hwz).trans ((tab_val HT.out).2.2.2.2.2.2.2.1)
  have t8 : ∀ x : Wd (Below w4.heap.size w4), x.w.cell? ⟨w.heap.size, 8, none⟩ = some (.int .i64 (t.b 0)) := fun x => ((bcell x.ok).1 _ _ hwz).trans ((tab_val HT.out).2.2.2.2.2.2.2.2.1)
  have t9 : ∀ x : Wd (Below w4.heap.size w4), x.w.cell? ⟨w.heap.size, 9, none⟩ = some (.int .i64 (t.b 1)) := fun x => ((bcell x.ok).1 _ _ hwz).trans ((tab_val HT.out).2.2.2.2.2.2.2.2.2.1)
  have t10 : ∀ x : Wd (Below w4.heap.size w4), x.w.cell? ⟨w.heap.size, 10, none⟩ = some (.int .i64 (t.b 2)) := fun x => ((bcell x.ok).1 _ _ hwz).trans ((tab_val HT.out).2.2.2.2.2.2.2.2.2.2.1)
  have t11 : ∀ x : Wd (Below w4.heap.size w4), x.w.cell? ⟨w.heap.size, 11, none⟩ = some (.int .i64 (t.b 3)) := fun x => ((bcell x.ok).1 _ _ hwz).trans ((tab_val HT.out).2.2.2.2.2.2.2.2.2.2.2.1)
  have t12 : ∀ x : Wd (Below w4.heap.size w4), x.w.cell? ⟨w.heap.size, 12, none⟩ = some (.int .i64 t.d) := fun x => ((bcell x.ok).1 _ _ hwz).trans ((tab_val HT.out).2.2.2.2.2.2.2.2.2.2.2.2)
  haveI inst : Nonempty (Wd (Below w4.heap.size w4)) := ⟨⟨w4, Below.refl _ _⟩⟩
  clear q0 q1 q2 q3 q4 q5 q6 q7 q8 q9 q10 q11 q12 hb2 hb4 HE HE1 ht1 ht2 HA HTn HT
  refine wp_region_in (Below w4.heap.size w4) (by kernel_rfl) (by kernel_rfl) ((Below.refl _ _).drew) ?_
  repeat (first | go_big_quiet_step ((first
    | (go_at_call 9; exact calls_in (Nat.le_refl _) _ (hk1.out _ (HEx.out _).G))
    | (go_at_call 10; exact calls_in (Nat.le_refl _) _ (hk2.out _))
    | (go_at_call 11; exact calls_in (Nat.le_refl _) _ (hw1.out _ (HEx.out _)))
    | (go_at_call 12; exact calls_in (Nat.le_refl _) _ (hw2.out _))
    | (go_at_call 13; exact calls_in (Nat.le_refl _) _ (wakes_any _ (HEx.out _))))))
  refine wpQuiet_nil ?_
  rintro _ ⟨x, rfl⟩
  have hx := x.ok
  go_wp2
  go_ret
  exact ⟨rfl, HB.out.trans (hx.mono HB.out.size)⟩

end Go.Proofs.YtgabnjiapkkjaaaGreatDoor.Tb
