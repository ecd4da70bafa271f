/- The document's answer on operations (Check, Class, Writes), read off the program by the walk. Conditions: each field is a number of its own width. -/
import Derived.Test.YtecfbnfbpamegaaDoorRo
namespace Go.Proofs.YtecfbnfbpamegaaDoor.Op
open Go.ChangeShapes Go.WideShapes Go.ChangeAt Go.RowKit
set_option maxRecDepth 20000

set_option maxHeartbeats 1000000 in
theorem refCheck_none (o : O) (w : World) (h : kOf o.op = none) : Calls Tryd.prog 36 #[o.val] w fun e w' => e = .returned (.int .i64 30) ∧ Below w.heap.size w w' := by
  have HF : Hid _ := fun w => of_no o.op w h
  clear h
  go_enter Tryd.func36, Tryd.ntmps36
  go_wp2_with (first | (go_at_call 37; refine Calls.mono (HF.out _) ?_; rintro e w1 ⟨rfl, hb⟩; obtain ⟨a1, hb0, hz⟩ := one_new w _ _ hb; have HB : Hid (Below w.heap.size w w1) := hb0; obtain ⟨o0, o1, o2, o3, o4⟩ := a1.o5; clear hb hb0 a1))
  go_ret
  exact ⟨rfl, HB.out.trans ((Below.refl _ _).alloc (Nat.le_of_lt hz) _)⟩
set_option maxHeartbeats 1000000 in
theorem refCheck_out (o : O) (k : K) (w : World) (h : kOf o.op = some k) (hx : 31 < o.d ∨ 31 < o.a ∨ 31 < o.b ∨ o.im < -2147483648 ∨ 2147483647 < o.im) : Calls Tryd.prog 36 #[o.val] w fun e w' => e = .returned (.int .i64 30) ∧ Below w.heap.size w w' := by
  have HF : Hid _ := fun w => of_yes o.op k w h
  clear h
  go_enter Tryd.func36, Tryd.ntmps36
  go_wp2_with (first | (go_at_call 37; refine Calls.mono (HF.out _) ?_; rintro e w1 ⟨rfl, hb⟩; obtain ⟨a1, hb0, hz⟩ := one_new w _ _ hb; have HB : Hid (Below w.heap.size w w1) := hb0; obtain ⟨o0, o1, o2, o3, o4⟩ := a1.o5; clear hb hb0 a1))
  all_goals
    go_ret
    exact ⟨rfl, HB.out.trans ((Below.refl _ _).alloc (Nat.le_of_lt hz) _)⟩
set_option maxHeartbeats 4000000 in
theorem refCheck_in (o : O) (k : K) (w : World) (h : kOf o.op = some k) (x1 : o.d ≤ 31) (x2 : o.a ≤ 31) (x3 : o.b ≤ 31) (x4 : -2147483648 ≤ o.im) (x5 : o.im ≤ 2147483647) : Calls Tryd.prog 36 #[o.val] w fun e w' => e = .returned (.int .i64 (if okF k o then 0 else 30)) ∧ Below w.heap.size w w' := by
  have HF : Hid _ := fun w => of_yes o.op k w h
  clear h
  generalize hv : (if okF k o then (0 : Int) else 30) = v
  have HV : Hid (_ = v) := hv
  have y1 : o.d < 32 := by omega
  have y2 : o.a < 32 := by omega
  have y3 : o.b < 32 := by omega
  clear hv
  go_enter Tryd.func36, Tryd.ntmps36
  go_wp2_with (first | (go_at_call 37; refine Calls.mono (HF.out _) ?_; rintro e w1 ⟨rfl, hb⟩; obtain ⟨a1, hb0, hz⟩ := one_new w _ _ hb; have HB : Hid (Below w.heap.size w w1) := hb0; obtain ⟨o0, o1, o2, o3, o4⟩ := a1.o5; clear hb hb0 a1))
  all_goals
    go_ret
    refine ⟨ret_int ?_, HB.out.trans ((Below.refl _ _).alloc (Nat.le_of_lt hz) _)⟩
    rw [← HV.out]
    simp_all [okF, rH, iH]
theorem refCheck_any (o : O) (w : World) (ho : o.Ok) : Calls Tryd.prog 36 #[o.val] w fun e w' => e = .returned (.int .i64 (ckE o)) ∧ Below w.heap.size w w' := by
  cases hk : kOf o.op with
  | none =>
    rw [show ckE o = 30 by simp [ckE, okO_none hk]]
    exact refCheck_none o w hk
  | some k =>
    rw [show ckE o = if okF k o then 0 else 30 by simp [ckE, okO_some hk]]
    by_cases hx : 31 < o.d ∨ 31 < o.a ∨ 31 < o.b ∨ o.im < -2147483648 ∨ 2147483647 < o.im
    · have hf : okF k o = false := by
        obtain ⟨_, _, d0, d1, a0, a1, b0, b1, i0, i1⟩ := ho
        unfold okF rH iH
        cases k.D <;> cases k.A <;> cases k.B <;> cases k.N <;> cases k.I <;> simp <;> omega
      rw [hf]
      exact refCheck_out o k w hk hx
    · exact refCheck_in o k w hk (by omega) (by omega) (by omega) (by omega) (by omega)

set_option maxHeartbeats 1000000 in
theorem refClass_any (d : Int) (w : World) : Calls Tryd.prog 33 #[.int .i8 d] w fun e w' => e = .returned (.tuple #[.int .i64 (clV d), .bool (clB d)]) ∧ Below w.heap.size w w' := by
  cases hk : kOf d with
  | none =>
    rw [show clV d = 0 by simp [clV, hk], show clB d = false by simp [clB, hk]]
    have HC : Hid _ := fun w => of_no d w hk
    clear hk
    go_enter Tryd.func33, Tryd.ntmps33
    go_wp2_with (first | (go_at_call 37; refine Calls.mono (HC.out _) ?_; rintro e w1 ⟨rfl, hb⟩))
    go_ret2
    exact ⟨rfl, hb.trans ((Below.refl _ _).alloc hb.size _)⟩
  | some k =>
    have hc := cls_in hk
    have HC : Hid _ := fun w => of_yes d k w hk
    by_cases hm : k.cls = -1
    · rw [show clV d = 0 by simp [clV, hk, hm], show clB d = false by simp [clB, hk, hm]]
      clear hk
      have hm2 : k.cls < 0 := by omega
      go_enter Tryd.func33, Tryd.ntmps33
      go_wp2_with (first | (go_at_call 37; refine Calls.mono (HC.out _) ?_; rintro e w1 ⟨rfl, hb⟩))
      go_ret2
      exact ⟨rfl, hb.trans ((Below.refl _ _).alloc hb.size _)⟩
    · rw [show clV d = k.cls by simp [clV, hk, hm], show clB d = true by simp [clB, hk, hm]]
      clear hk
      have hm2 : ¬ k.cls < 0 := by omega
      go_enter Tryd.func33, Tryd.ntmps33
      go_wp2_with (first | (go_at_call 37; refine Calls.mono (HC.out _) ?_; rintro e w1 ⟨rfl, hb⟩))
      go_ret2
      exact ⟨rfl, hb.trans ((Below.refl _ _).alloc hb.size _)⟩
end Go.Proofs.YtecfbnfbpamegaaDoor.Op
