/- The document's answer on what an operation writes (Writes), read off the program by the walk. Conditions: each field is a number of its own width. -/
import Derived.Test.YthdpgimdakmdgaaDoorRc
namespace Go.Proofs.YthdpgimdakmdgaaDoor.Op
open Go.ChangeShapes Go.WideShapes Go.ChangeAt Go.RowKit
set_option maxRecDepth 20000


set_option maxHeartbeats 1000000 in
theorem refWrites_any (o : O) (w : World) (ho : o.Ok) : Calls Tryd.prog 56 #[o.val] w fun e w' => e = .returned (.tuple #[.int .u8 (wrD o), .bool (wrB o)]) ∧ Below w.heap.size w w' := by
  cases hk : kOf o.op with
  | none =>
    have hw : wrB o = false := wr_no (okO_none hk)
    rw [show wrD o = 0 by simp [wrD, hw], hw]
    have HF : Hid _ := fun w => of_no o.op w hk
    have HC : Hid (∀ w, Calls Tryd.prog 49 #[o.val] w fun e w' => e = .returned (.int .i64 30) ∧ Below w.heap.size w w') := fun w => refCheck_none o w hk
    clear hk hw ho
    go_enter Tryd.func56, Tryd.ntmps56
    go_wp2_with (first | (go_at_call 32; refine Calls.mono (HF.out _) ?_; rintro e w1 ⟨rfl, hb⟩; obtain ⟨a1, hb0, hz⟩ := one_new w _ _ hb; have HB : Hid (Below w.heap.size w w1) := hb0; have HO : Hid _ := a1; obtain ⟨o0, o1, o2, o3, o4⟩ := a1.o5; clear hb hb0 a1) | (go_at_call 49; refine Calls.mono (HC.out _) ?_; rintro e w2 ⟨rfl, hb⟩; obtain ⟨-, hb0, hz2⟩ := one_new w1 _ _ hb; have HB2 : Hid (Below w.heap.size w w2) := HB.out.trans (hb0.mono (Nat.le_of_lt hz)); clear hb hb0))
    go_ret2
    exact ⟨rfl, HB2.out⟩
  | some k =>
    have HF : Hid _ := fun w => of_yes o.op k w hk
    have HC0 := fun w => refCheck_any o w ho
    cases hf : okF k o
    · have hO : okO o = false := by rw [okO_some hk]; exact hf
      have hw : wrB o = false := wr_no hO
      rw [show wrD o = 0 by simp [wrD, hw], hw]
      rw [show ckE o = 30 by simp [ckE, hO]] at HC0
      have HC : Hid _ := HC0
      clear hk hw ho hO hf HC0
      go_enter Tryd.func56, Tryd.ntmps56
      go_wp2_with (first | (go_at_call 32; refine Calls.mono (HF.out _) ?_; rintro e w1 ⟨rfl, hb⟩; obtain ⟨a1, hb0, hz⟩ := one_new w _ _ hb; have HB : Hid (Below w.heap.size w w1) := hb0; have HO : Hid _ := a1; obtain ⟨o0, o1, o2, o3, o4⟩ := a1.o5; clear hb hb0 a1) | (go_at_call 49; refine Calls.mono (HC.out _) ?_; rintro e w2 ⟨rfl, hb⟩; obtain ⟨-, hb0, hz2⟩ := one_new w1 _ _ hb; have HB2 : Hid (Below w.heap.size w w2) := HB.out.trans (hb0.mono (Nat.le_of_lt hz)); clear hb hb0))
      go_ret2
      exact ⟨rfl, HB2.out⟩
    · have hO : okO o = true := by rw [okO_some hk]; exact hf
      have hw := wr_yes hk hf
      rw [show ckE o = 0 by simp [ckE, hO]] at HC0
      have HC : Hid _ := HC0
      cases hD : k.D
      · rw [hD] at hw
        rw [show wrD o = 0 by simp [wrD, hw], hw]
        clear hk hw ho hO hf HC0
        go_enter Tryd.func56, Tryd.ntmps56
        go_wp2_with (first | (go_at_call 32; refine Calls.mono (HF.out _) ?_; rintro e w1 ⟨rfl, hb⟩; obtain ⟨a1, hb0, hz⟩ := one_new w _ _ hb; have HB : Hid (Below w.heap.size w w1) := hb0; have HO : Hid _ := a1; obtain ⟨o0, o1, o2, o3, o4⟩ := a1.o5; clear hb hb0 a1) | (go_at_call 49; refine Calls.mono (HC.out _) ?_; rintro e w2 ⟨rfl, hb⟩; obtain ⟨r1, hb0, hz2⟩ := one_new w1 _ _ hb; have HB2 : Hid (Below w.heap.size w w2) := HB.out.trans (hb0.mono (Nat.le_of_lt hz)); obtain ⟨c0, c1, c2, c3, c4, c5, c6⟩ := r1.r7; obtain ⟨o0, o1, o2, o3, o4⟩ := (HO.out.below hb0 hz).o5; clear hb hb0 r1))
        go_ret2
        exact ⟨rfl, HB2.out⟩
      · rw [hD] at hw
        rw [show wrD o = o.d by simp [wrD, hw], hw]
        clear hk hw ho hO hf HC0
        go_enter Tryd.func56, Tryd.ntmps56
        go_wp2_with (first | (go_at_call 32; refine Calls.mono (HF.out _) ?_; rintro e w1 ⟨rfl, hb⟩; obtain ⟨a1, hb0, hz⟩ := one_new w _ _ hb; have HB : Hid (Below w.heap.size w w1) := hb0; have HO : Hid _ := a1; obtain ⟨o0, o1, o2, o3, o4⟩ := a1.o5; clear hb hb0 a1) | (go_at_call 49; refine Calls.mono (HC.out _) ?_; rintro e w2 ⟨rfl, hb⟩; obtain ⟨r1, hb0, hz2⟩ := one_new w1 _ _ hb; have HB2 : Hid (Below w.heap.size w w2) := HB.out.trans (hb0.mono (Nat.le_of_lt hz)); obtain ⟨c0, c1, c2, c3, c4, c5, c6⟩ := r1.r7; obtain ⟨o0, o1, o2, o3, o4⟩ := (HO.out.below hb0 hz).o5; clear hb hb0 r1))
        go_ret2
        exact ⟨rfl, HB2.out⟩

end Go.Proofs.YthdpgimdakmdgaaDoor.Op
