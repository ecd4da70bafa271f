/- The document's answer on operations (Check, Class, Writes), read off the program by the walk. Conditions: each field is a number of its own width. -/
import Derived.Test.YtckjioiijmmopaaDoorRo
namespace Go.Proofs.YtckjioiijmmopaaDoor.Op
open Go.ChangeShapes Go.WideShapes Go.ChangeAt Go.RowKit
set_option maxRecDepth 20000

set_option maxHeartbeats 1000000 in
theorem refCheck_none (o : O) (w : World) (h : kOf o.op = none) : Calls Tryd.prog 27 #[o.val] w fun e w' => e = .returned (.int .i64 30) ∧ Below w.heap.size w w' := by
  have HF : Hid _ := fun w => of_no o.op w h
  clear h
  go_enter Tryd.func27, Tryd.ntmps27
  go_wp2_with (first | (go_at_call 34; refine Calls.mono (HF.out _) ?_; rintro e w1 ⟨rfl, hb⟩; obtain ⟨a1, hb0, hz⟩ := one_new w _ _ hb; have HB : Hid (Below w.heap.size w w1) := hb0; obtain ⟨o0, o1, o2, o3, o4⟩ := a1.o5; clear hb hb0 a1))
  go_ret
  exact ⟨rfl, HB.out.trans ((Below.refl _ _).alloc (Nat.le_of_lt hz) _)⟩
set_option maxHeartbeats 1000000 in
theorem refCheck_out (o : O) (k : K) (w : World) (h : kOf o.op = some k) (hx : 31 < o.d ∨ 31 < o.a ∨ 31 < o.b ∨ o.im < -2147483648 ∨ 2147483647 < o.im) : Calls Tryd.prog 27 #[o.val] w fun e w' => e = .returned (.int .i64 30) ∧ Below w.heap.size w w' := by
  have HF : Hid _ := fun w => of_yes o.op k w h
  clear h
  go_enter Tryd.func27, Tryd.ntmps27
  go_wp2_with (first | (go_at_call 34; refine Calls.mono (HF.out _) ?_; rintro e w1 ⟨rfl, hb⟩; obtain ⟨a1, hb0, hz⟩ := one_new w _ _ hb; have HB : Hid (Below w.heap.size w w1) := hb0; obtain ⟨o0, o1, o2, o3, o4⟩ := a1.o5; clear hb hb0 a1))
  all_goals
    go_ret
    exact ⟨rfl, HB.out.trans ((Below.refl _ _).alloc (Nat.le_of_lt hz) _)⟩
set_option maxHeartbeats 4000000 in
theorem refCheck_in (o : O) (k : K) (w : World) (h : kOf o.op = some k) (x1 : o.d ≤ 31) (x2 : o.a ≤ 31) (x3 : o.b ≤ 31) (x4 : -2147483648 ≤ o.im) (x5 : o.im ≤ 2147483647) : Calls Tryd.prog 27 #[o.val] w fun e w' => e = .returned (.int .i64 (if okF k o then 0 else 30)) ∧ Below w.heap.size w w' := by
  have HF : Hid _ := fun w => of_yes o.op k w h
  clear h
  generalize hv : (if okF k o then (0 : Int) else 30) = v
  have HV : Hid (_ = v) := hv
  have y1 : o.d < 32 := by omega
  have y2 : o.a < 32 := by omega
  have y3 : o.b < 32 := by omega
  clear hv
  go_enter Tryd.func27, Tryd.ntmps27
  go_wp2_with (first | (go_at_call 34; refine Calls.mono (HF.out _) ?_; rintro e w1 ⟨rfl, hb⟩; obtain ⟨a1, hb0, hz⟩ := one_new w _ _ hb; have HB : Hid (Below w.heap.size w w1) := hb0; obtain ⟨o0, o1, o2, o3, o4⟩ := a1.o5; clear hb hb0 a1))
  all_goals
    go_ret
    refine ⟨ret_int ?_, HB.out.trans ((Below.refl _ _).alloc (Nat.le_of_lt hz) _)⟩
    rw [← HV.out]
    simp_all [okF, rH, iH]
theorem refCheck_any (o : O) (w : World) (ho : o.Ok) : Calls Tryd.prog 27 #[o.val] w fun e w' => e = .returned (.int .i64 (ckE o)) ∧ Below w.heap.size w w' := by
  cases hk : kOf o.op with
  | none =>
    rw [show ckE o = 30 by simp [ckE, okO_none hk]]
    exact refCheck_none o w hk
  | some k =>
    rw [show ckE o = if okF k o then 0 else 30 by simp [ckE, okO_some hk]]
    by_cases hx : 31 < o.d ∨ 31 < o.a ∨ 31 < o.b ∨ o.im < -2147483648 ∨ 2147483647 < o.im
    · have hf : okF k o = false := by
        obtain ⟨_, _, d0, d1, a0, a1, b0, b1, i0, i1⟩ := ho
        unfold okF rH iH
        cases k.D <;> cases k.A <;> cases k.B <;> cases k.N <;> cases k.I <;> simp <;> omega
      rw [hf]
      exact refCheck_out o k w hk hx
    · exact refCheck_in o k w hk (by omega) (by omega) (by omega) (by omega) (by omega)

end Go.Proofs.YtckjioiijmmopaaDoor.Op
