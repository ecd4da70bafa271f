/- What the document's own Check, Width, Text answer: the same numbers and bytes, read off the program by the walk. Conditions: none but the worlds'. -/
import Derived.Test.YtgabnjiapkkjaaaGreatDoorTx
namespace Go.Proofs.YtgabnjiapkkjaaaGreatDoor.Tb
open Go.ChangeShapes Go.WideShapes Go.ChangeAt Go.RowKit

theorem okC_no {t : Tab} {k : Nat} (h : okC t k = false) : t.u k < 0 ∨ (0 ≤ t.u k ∧ 8 < t.u k) ∨ (0 ≤ t.u k ∧ t.u k ≤ 8 ∧ t.l k < 1) ∨ (0 ≤ t.u k ∧ t.u k ≤ 8 ∧ 1 ≤ t.l k ∧ 8 < t.l k) ∨ (0 ≤ t.u k ∧ t.u k ≤ 8 ∧ 1 ≤ t.l k ∧ t.l k ≤ 8 ∧ t.b k < 1) ∨ (0 ≤ t.u k ∧ t.u k ≤ 8 ∧ 1 ≤ t.l k ∧ t.l k ≤ 8 ∧ 1 ≤ t.b k ∧ 4 < t.b k) := by
  simp only [okC, inB, Bool.and_eq_false_iff, decide_eq_false_iff_not] at h
  omega
theorem okC_yes {t : Tab} {k : Nat} (h : okC t k = true) : 0 ≤ t.u k ∧ t.u k ≤ 8 ∧ 1 ≤ t.l k ∧ t.l k ≤ 8 ∧ 1 ≤ t.b k ∧ t.b k ≤ 4 := by
  simp only [okC, inB, Bool.and_eq_true, decide_eq_true_eq] at h
  omega
theorem ckR_d {t : Tab} (h : t.d < 0 ∨ 4 < t.d) : 20 = ckR t := by
  have : inB 0 4 t.d = false := by simp [inB]; omega
  simp [ckR, Tab.ok, this]

set_option maxHeartbeats 1000000 in
theorem refCheck_any (t : Tab) (w : World) :
    Calls Tryz.prog 10 #[t.val] w fun e w' => e = .returned (.int .i64 (ckR t)) ∧ Below w.heap.size w w' := by
  have hA := (Below.refl w.heap.size w).alloc (Nat.le_refl _) (.cells t.cells 24)
  have hT := tabAt_new w t 24
  have HT : Hid _ := hT
  have HA : Hid _ := hA
  clear hA hT
  unfold Tab.val at *
  go_enter Tryz.func10, Tryz.ntmps10
  go_wp2
  generalize hw1 : w.alloc (Obj.cells t.cells 24) = w1 at *
  have HA' := HA.out
  have HT' := HT.out
  clear HA HT hw1
  go_loop [3] (fun i => ∃ k : Nat, k ≤ 4 ∧ i = .int .i64 k ∧ (∀ j, j < k → okC t j = true)) (fun i => 4 - (intOf i).toNat)
  case atStart => exact ⟨0, by omega, rfl, fun j hj => by omega⟩
  case round =>
    obtain ⟨k, hk, rfl, hok⟩ := hrel
    by_cases hlt : k < 4
    · have hu := HT'.cu k hlt
      have hl := HT'.cl k hlt
      have hbb := HT'.cb k hlt
      have i1 : (0 : Int) ≤ (k : Int) := by omega
      have i2 : (k : Int) < 4 := by omega
      cases ho : okC t k
      · rcases okC_no ho with h | ⟨h1, h⟩ | ⟨h1, h2, h⟩ | ⟨h1, h2, h3, h⟩ | ⟨h1, h2, h3, h4, h⟩ | ⟨h1, h2, h3, h4, h5, h⟩
        all_goals
          go_wp2
          go_ret
          exact ⟨ret_int (ckR_no hlt ho), HA'⟩
      · obtain ⟨h1, h2, h3, h4, h5, h6⟩ := okC_yes ho
        go_wp2
        go_round
        case rel => exact ⟨k + 1, by omega, by go_num, fun j hj => by
          rcases Nat.lt_or_ge j k with h | h
          · exact hok j h
          · obtain rfl : j = k := by omega
            exact ho⟩
        case measure => simp [intOf]; omega
    · obtain rfl : k = 4 := by omega
      have hd := HT'.cd
      by_cases d1 : t.d < 0
      · go_wp2
        go_ret
        exact ⟨ret_int (ckR_d (.inl d1)), HA'⟩
      · by_cases d2 : 4 < t.d
        · go_wp2
          go_ret
          exact ⟨ret_int (ckR_d (.inr d2)), HA'⟩
        · go_wp2
          go_ret
          exact ⟨ret_int (ckR_yes (by simp [inB]; omega) hok), HA'⟩

theorem refWidth_no (t : Tab) (w : World) (h : t.ok = false) :
    Calls Tryz.prog 12 #[t.val] w fun e w' => e = .returned (.int .i64 0) ∧ Below w.heap.size w w' := by
  have hr : ckR t = 20 := by simp [ckR, h]
  have hc := refCheck_any t (w.alloc (.cells t.cells 24))
  rw [hr] at hc
  unfold Tab.val at *
  have Hc : Hid _ := hc
  clear hc hr
  go_enter Tryz.func12, Tryz.ntmps12
  go_wp2_with (first | (go_at_call 10; refine Calls.mono Hc.out ?_; rintro e w' ⟨rfl, hb⟩))
  go_ret
  exact ⟨rfl, ((Below.refl _ _).alloc (Nat.le_refl _) _).trans (hb.mono (by simp))⟩

set_option maxHeartbeats 400000 in
theorem refWidth_yes (t : Tab) (w : World) (h : t.ok = true) :
    Calls Tryz.prog 12 #[t.val] w fun e w' => e = .returned (.int .i64 (tabW t)) ∧ Below w.heap.size w w' := by
  have hr : ckR t = 0 := by simp [ckR, h]
  have hc := refCheck_any t (w.alloc (.cells t.cells 24))
  rw [hr] at hc
  have hp := (ok_parts h).2
  have a0 := inB_iff (hp 0 (by omega)).1
  have a1 := inB_iff (hp 1 (by omega)).1
  have a2 := inB_iff (hp 2 (by omega)).1
  have a3 := inB_iff (hp 3 (by omega)).1
  obtain ⟨a00, a01⟩ := a0
  obtain ⟨a10, a11⟩ := a1
  obtain ⟨a20, a21⟩ := a2
  obtain ⟨a30, a31⟩ := a3
  clear hp h
  unfold Tab.val at *
  have Hc : Hid _ := hc
  clear hc hr
  go_enter Tryz.func12, Tryz.ntmps12
  go_wp2_with (first | (go_at_call 10; refine Calls.mono Hc.out ?_; rintro e w' ⟨rfl, hb⟩; have hT := (tabAt_new w t 24).below hb (by simp); obtain ⟨q0, q1, q2, q3⟩ : _ ∧ _ ∧ _ ∧ _ := ⟨hT.cu 0 (by omega), hT.cu 1 (by omega), hT.cu 2 (by omega), hT.cu 3 (by omega)⟩; clear hT))
  clear Hc
  refine wp_loop_rounds 5 ?_
  rw [rounds_succ]; go_wp2
  rw [rounds_succ]; go_wp2
  rw [rounds_succ]; go_wp2
  rw [rounds_succ]; go_wp2
  rw [rounds_succ]; go_wp2
  go_ret
  exact ⟨ret_int (by simp [tabW]), ((Below.refl _ _).alloc (Nat.le_refl _) _).trans (hb.mono (by simp))⟩

theorem name_any (k : Nat) (w : World) (h : k < 4) :
    Calls Tryz.prog 20 #[.int .i64 k] w fun e w' => e = .returned (.string (nameS k)) ∧ w' = w := by
  match k, h with
  | 0, _ => go_enter Tryz.func20, Tryz.ntmps20; go_wp2; go_ret; exact ⟨rfl, rfl⟩
  | 1, _ => go_enter Tryz.func20, Tryz.ntmps20; go_wp2; go_ret; exact ⟨rfl, rfl⟩
  | 2, _ => go_enter Tryz.func20, Tryz.ntmps20; go_wp2; go_ret; exact ⟨rfl, rfl⟩
  | 3, _ => go_enter Tryz.func20, Tryz.ntmps20; go_wp2; go_ret; exact ⟨rfl, rfl⟩

end Go.Proofs.YtgabnjiapkkjaaaGreatDoor.Tb
