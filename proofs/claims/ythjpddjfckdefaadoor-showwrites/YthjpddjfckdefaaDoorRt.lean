/- The document's answer on an operation's text (Text), read off the program by the walk. Conditions: each field is a number of its own width. -/
import Derived.Test.YthjpddjfckdefaaDoorDg
import Derived.Test.YthjpddjfckdefaaDoorRc
namespace Go.Proofs.YthjpddjfckdefaaDoor.Op
open Go.ChangeShapes Go.WideShapes Go.ChangeAt Go.RowKit
set_option maxRecDepth 20000

theorem refText_no (o : O) (w : World) (ho : o.Ok) (h : okO o = false) : Calls Tryd.prog 32 #[o.val] w fun e w' => e = .returned (.tuple #[.string ⟨#[]⟩, .int .i64 30]) ∧ Below w.heap.size w w' := by
  have HC0 := fun w => refCheck_any o w ho
  rw [show ckE o = 30 by simp [ckE, h]] at HC0
  have HC : Hid _ := HC0
  clear ho h HC0
  go_enter Tryd.func32, Tryd.ntmps32
  go_wp2_with (first | (go_at_call 43; refine Calls.mono (HC.out _) ?_; rintro e w1 ⟨rfl, hb⟩; obtain ⟨-, hb0, hz⟩ := one_new w _ _ hb; clear hb))
  go_ret2
  exact ⟨rfl, hb0⟩
theorem kS_size {k : K} (h : k.name.length ≤ 6) : k.s.size ≤ 6 := by unfold K.s; rw [ba_size]; exact h
theorem itS_size (n : Int) (h0 : -9223372036854775808 ≤ n) (h1 : n ≤ 9223372036854775807) : (itS n).size ≤ 20 := by unfold itS; rw [ba_size]; exact itoa_len n h0 h1
set_option maxHeartbeats 2000000 in
theorem refText_00B0 (o : O) (k : K) (w : World) (ho : o.Ok) (hk : kOf o.op = some k) (hf : okF k o = true) (hD : k.D = false) (hA : k.A = false) (hB : k.B = true) (hN : k.N = false) (hI : k.I = false) : Calls Tryd.prog 32 #[o.val] w fun e w' => e = .returned (.tuple #[.string ⟨(textL k o).toArray⟩, .int .i64 0]) ∧ Below w.heap.size w w' := by
  have hO : okO o = true := by rw [okO_some hk]; exact hf
  have HC0 := fun w => refCheck_any o w ho
  rw [show ckE o = 0 by simp [ckE, hO]] at HC0
  have HC : Hid _ := HC0
  have HF : Hid _ := fun w => of_yes o.op k w hk
  have hn := name_len hk
  obtain ⟨-, -, d0, d1, a0, a1, b0, b1, i0', i1⟩ := ho
  clear hO hf HC0 hk
  obtain ⟨u0, hu0, zu0, ru0⟩ := cat_rule ⟨#[32, 114]⟩ (itS o.b) 2 20 (by decide) (itS_size o.b (by omega) (by omega)) (by omega)
  obtain ⟨s0, hs0, zs0, rs0⟩ := cat_rule k.s u0 6 22 (kS_size hn) zu0 (by omega)
  have HX : Hid (s0 = ⟨(textL k o).toArray⟩) := by
    show _ = _
    apply ba_eq
    rw [hs0, hu0]
    simp [textL, pD, pA, pB, pI, hD, hA, hB, hI, itS, K.s]
  clear hn hu0 zu0 hs0 zs0
  rw [← HX.out]
  go_enter Tryd.func32, Tryd.ntmps32
  go_wp2_with (first | (go_at_call 43; refine Calls.mono (HC.out _) ?_; rintro e w1 ⟨rfl, hb⟩; obtain ⟨a1, hb0, hz⟩ := one_new w _ _ hb; have HB : Hid (Below w.heap.size w w1) := hb0; have HO : Hid _ := a1; obtain ⟨o0, o1, o2, o3, o4⟩ := a1.o5; clear hb hb0 a1) | (go_at_call 44; refine Calls.mono (HF.out _) ?_; rintro e w2 ⟨rfl, hb⟩; have HB2 : Hid (Below w.heap.size w w2) := HB.out.trans (hb.mono (Nat.le_of_lt hz)); obtain ⟨o0, o1, o2, o3, o4⟩ := (HO.out.below hb hz).o5; have hz2 : w.heap.size < w2.heap.size := Nat.lt_of_lt_of_le hz hb.size; clear hb) | (go_at_call 45; refine Calls.mono (refDigits_any _ _ (by first | assumption | omega) (by first | assumption | omega)) ?_; rintro e w3 ⟨rfl, hw3⟩; subst w3))
  go_ret2
  exact ⟨rfl, HB2.out.trans ((Below.refl _ _).alloc HB2.out.size _)⟩
set_option maxHeartbeats 2000000 in
theorem refText_00B1 (o : O) (k : K) (w : World) (ho : o.Ok) (hk : kOf o.op = some k) (hf : okF k o = true) (hD : k.D = false) (hA : k.A = false) (hB : k.B = true) (hN : k.N = false) (hI : k.I = true) : Calls Tryd.prog 32 #[o.val] w fun e w' => e = .returned (.tuple #[.string ⟨(textL k o).toArray⟩, .int .i64 0]) ∧ Below w.heap.size w w' := by
  have hO : okO o = true := by rw [okO_some hk]; exact hf
  have HC0 := fun w => refCheck_any o w ho
  rw [show ckE o = 0 by simp [ckE, hO]] at HC0
  have HC : Hid _ := HC0
  have HF : Hid _ := fun w => of_yes o.op k w hk
  have hn := name_len hk
  obtain ⟨-, -, d0, d1, a0, a1, b0, b1, i0', i1⟩ := ho
  clear hO hf HC0 hk
  obtain ⟨u0, hu0, zu0, ru0⟩ := cat_rule ⟨#[32, 114]⟩ (itS o.b) 2 20 (by decide) (itS_size o.b (by omega) (by omega)) (by omega)
  obtain ⟨s0, hs0, zs0, rs0⟩ := cat_rule k.s u0 6 22 (kS_size hn) zu0 (by omega)
  obtain ⟨u1, hu1, zu1, ru1⟩ := cat_rule ⟨#[32]⟩ (itS o.im) 1 20 (by decide) (itS_size o.im (by omega) (by omega)) (by omega)
  obtain ⟨s1, hs1, zs1, rs1⟩ := cat_rule s0 u1 28 21 zs0 zu1 (by omega)
  have HX : Hid (s1 = ⟨(textL k o).toArray⟩) := by
    show _ = _
    apply ba_eq
    rw [hs1, hu1, hs0, hu0]
    simp [textL, pD, pA, pB, pI, hD, hA, hB, hI, itS, K.s]
  clear hn hu0 zu0 hs0 zs0 hu1 zu1 hs1 zs1
  rw [← HX.out]
  go_enter Tryd.func32, Tryd.ntmps32
  go_wp2_with (first | (go_at_call 43; refine Calls.mono (HC.out _) ?_; rintro e w1 ⟨rfl, hb⟩; obtain ⟨a1, hb0, hz⟩ := one_new w _ _ hb; have HB : Hid (Below w.heap.size w w1) := hb0; have HO : Hid _ := a1; obtain ⟨o0, o1, o2, o3, o4⟩ := a1.o5; clear hb hb0 a1) | (go_at_call 44; refine Calls.mono (HF.out _) ?_; rintro e w2 ⟨rfl, hb⟩; have HB2 : Hid (Below w.heap.size w w2) := HB.out.trans (hb.mono (Nat.le_of_lt hz)); obtain ⟨o0, o1, o2, o3, o4⟩ := (HO.out.below hb hz).o5; have hz2 : w.heap.size < w2.heap.size := Nat.lt_of_lt_of_le hz hb.size; clear hb) | (go_at_call 45; refine Calls.mono (refDigits_any _ _ (by first | assumption | omega) (by first | assumption | omega)) ?_; rintro e w3 ⟨rfl, hw3⟩; subst w3))
  go_ret2
  exact ⟨rfl, HB2.out.trans ((Below.refl _ _).alloc HB2.out.size _)⟩
set_option maxHeartbeats 2000000 in
theorem refText_00N0 (o : O) (k : K) (w : World) (ho : o.Ok) (hk : kOf o.op = some k) (hf : okF k o = true) (hD : k.D = false) (hA : k.A = false) (hB : k.B = false) (hN : k.N = true) (hI : k.I = false) : Calls Tryd.prog 32 #[o.val] w fun e w' => e = .returned (.tuple #[.string ⟨(textL k o).toArray⟩, .int .i64 0]) ∧ Below w.heap.size w w' := by
  have hO : okO o = true := by rw [okO_some hk]; exact hf
  have HC0 := fun w => refCheck_any o w ho
  rw [show ckE o = 0 by simp [ckE, hO]] at HC0
  have HC : Hid _ := HC0
  have HF : Hid _ := fun w => of_yes o.op k w hk
  have hn := name_len hk
  obtain ⟨-, -, d0, d1, a0, a1, b0, b1, i0', i1⟩ := ho
  clear hO hf HC0 hk
  obtain ⟨u0, hu0, zu0, ru0⟩ := cat_rule ⟨#[32]⟩ (itS o.b) 1 20 (by decide) (itS_size o.b (by omega) (by omega)) (by omega)
  obtain ⟨s0, hs0, zs0, rs0⟩ := cat_rule k.s u0 6 21 (kS_size hn) zu0 (by omega)
  have HX : Hid (s0 = ⟨(textL k o).toArray⟩) := by
    show _ = _
    apply ba_eq
    rw [hs0, hu0]
    simp [textL, pD, pA, pB, pI, hD, hA, hB, hN, hI, itS, K.s]
  clear hn hu0 zu0 hs0 zs0
  rw [← HX.out]
  go_enter Tryd.func32, Tryd.ntmps32
  go_wp2_with (first | (go_at_call 43; refine Calls.mono (HC.out _) ?_; rintro e w1 ⟨rfl, hb⟩; obtain ⟨a1, hb0, hz⟩ := one_new w _ _ hb; have HB : Hid (Below w.heap.size w w1) := hb0; have HO : Hid _ := a1; obtain ⟨o0, o1, o2, o3, o4⟩ := a1.o5; clear hb hb0 a1) | (go_at_call 44; refine Calls.mono (HF.out _) ?_; rintro e w2 ⟨rfl, hb⟩; have HB2 : Hid (Below w.heap.size w w2) := HB.out.trans (hb.mono (Nat.le_of_lt hz)); obtain ⟨o0, o1, o2, o3, o4⟩ := (HO.out.below hb hz).o5; have hz2 : w.heap.size < w2.heap.size := Nat.lt_of_lt_of_le hz hb.size; clear hb) | (go_at_call 45; refine Calls.mono (refDigits_any _ _ (by first | assumption | omega) (by first | assumption | omega)) ?_; rintro e w3 ⟨rfl, hw3⟩; subst w3))
  go_ret2
  exact ⟨rfl, HB2.out.trans ((Below.refl _ _).alloc HB2.out.size _)⟩
set_option maxHeartbeats 2000000 in
theorem refText_00N1 (o : O) (k : K) (w : World) (ho : o.Ok) (hk : kOf o.op = some k) (hf : okF k o = true) (hD : k.D = false) (hA : k.A = false) (hB : k.B = false) (hN : k.N = true) (hI : k.I = true) : Calls Tryd.prog 32 #[o.val] w fun e w' => e = .returned (.tuple #[.string ⟨(textL k o).toArray⟩, .int .i64 0]) ∧ Below w.heap.size w w' := by
  have hO : okO o = true := by rw [okO_some hk]; exact hf
  have HC0 := fun w => refCheck_any o w ho
  rw [show ckE o = 0 by simp [ckE, hO]] at HC0
  have HC : Hid _ := HC0
  have HF : Hid _ := fun w => of_yes o.op k w hk
  have hn := name_len hk
  obtain ⟨-, -, d0, d1, a0, a1, b0, b1, i0', i1⟩ := ho
  clear hO hf HC0 hk
  obtain ⟨u0, hu0, zu0, ru0⟩ := cat_rule ⟨#[32]⟩ (itS o.b) 1 20 (by decide) (itS_size o.b (by omega) (by omega)) (by omega)
  obtain ⟨s0, hs0, zs0, rs0⟩ := cat_rule k.s u0 6 21 (kS_size hn) zu0 (by omega)
  obtain ⟨u1, hu1, zu1, ru1⟩ := cat_rule ⟨#[32]⟩ (itS o.im) 1 20 (by decide) (itS_size o.im (by omega) (by omega)) (by omega)
  obtain ⟨s1, hs1, zs1, rs1⟩ := cat_rule s0 u1 27 21 zs0 zu1 (by omega)
  have HX : Hid (s1 = ⟨(textL k o).toArray⟩) := by
    show _ = _
    apply ba_eq
    rw [hs1, hu1, hs0, hu0]
    simp [textL, pD, pA, pB, pI, hD, hA, hB, hN, hI, itS, K.s]
  clear hn hu0 zu0 hs0 zs0 hu1 zu1 hs1 zs1
  rw [← HX.out]
  go_enter Tryd.func32, Tryd.ntmps32
  go_wp2_with (first | (go_at_call 43; refine Calls.mono (HC.out _) ?_; rintro e w1 ⟨rfl, hb⟩; obtain ⟨a1, hb0, hz⟩ := one_new w _ _ hb; have HB : Hid (Below w.heap.size w w1) := hb0; have HO : Hid _ := a1; obtain ⟨o0, o1, o2, o3, o4⟩ := a1.o5; clear hb hb0 a1) | (go_at_call 44; refine Calls.mono (HF.out _) ?_; rintro e w2 ⟨rfl, hb⟩; have HB2 : Hid (Below w.heap.size w w2) := HB.out.trans (hb.mono (Nat.le_of_lt hz)); obtain ⟨o0, o1, o2, o3, o4⟩ := (HO.out.below hb hz).o5; have hz2 : w.heap.size < w2.heap.size := Nat.lt_of_lt_of_le hz hb.size; clear hb) | (go_at_call 45; refine Calls.mono (refDigits_any _ _ (by first | assumption | omega) (by first | assumption | omega)) ?_; rintro e w3 ⟨rfl, hw3⟩; subst w3))
  go_ret2
  exact ⟨rfl, HB2.out.trans ((Below.refl _ _).alloc HB2.out.size _)⟩
set_option maxHeartbeats 2000000 in
theorem refText_0000 (o : O) (k : K) (w : World) (ho : o.Ok) (hk : kOf o.op = some k) (hf : okF k o = true) (hD : k.D = false) (hA : k.A = false) (hB : k.B = false) (hN : k.N = false) (hI : k.I = false) : Calls Tryd.prog 32 #[o.val] w fun e w' => e = .returned (.tuple #[.string ⟨(textL k o).toArray⟩, .int .i64 0]) ∧ Below w.heap.size w w' := by
  have hO : okO o = true := by rw [okO_some hk]; exact hf
  have HC0 := fun w => refCheck_any o w ho
  rw [show ckE o = 0 by simp [ckE, hO]] at HC0
  have HC : Hid _ := HC0
  have HF : Hid _ := fun w => of_yes o.op k w hk
  have hn := name_len hk
  obtain ⟨-, -, d0, d1, a0, a1, b0, b1, i0', i1⟩ := ho
  clear hO hf HC0 hk
  have HX : Hid (k.s = ⟨(textL k o).toArray⟩) := by
    show _ = _
    apply ba_eq
    simp [textL, pD, pA, pB, pI, hD, hA, hB, hN, hI, K.s]
  clear hn 
  rw [← HX.out]
  go_enter Tryd.func32, Tryd.ntmps32
  go_wp2_with (first | (go_at_call 43; refine Calls.mono (HC.out _) ?_; rintro e w1 ⟨rfl, hb⟩; obtain ⟨a1, hb0, hz⟩ := one_new w _ _ hb; have HB : Hid (Below w.heap.size w w1) := hb0; have HO : Hid _ := a1; obtain ⟨o0, o1, o2, o3, o4⟩ := a1.o5; clear hb hb0 a1) | (go_at_call 44; refine Calls.mono (HF.out _) ?_; rintro e w2 ⟨rfl, hb⟩; have HB2 : Hid (Below w.heap.size w w2) := HB.out.trans (hb.mono (Nat.le_of_lt hz)); obtain ⟨o0, o1, o2, o3, o4⟩ := (HO.out.below hb hz).o5; have hz2 : w.heap.size < w2.heap.size := Nat.lt_of_lt_of_le hz hb.size; clear hb) | (go_at_call 45; refine Calls.mono (refDigits_any _ _ (by first | assumption | omega) (by first | assumption | omega)) ?_; rintro e w3 ⟨rfl, hw3⟩; subst w3))
  go_ret2
  exact ⟨rfl, HB2.out.trans ((Below.refl _ _).alloc HB2.out.size _)⟩
set_option maxHeartbeats 2000000 in
theorem refText_0001 (o : O) (k : K) (w : World) (ho : o.Ok) (hk : kOf o.op = some k) (hf : okF k o = true) (hD : k.D = false) (hA : k.A = false) (hB : k.B = false) (hN : k.N = false) (hI : k.I = true) : Calls Tryd.prog 32 #[o.val] w fun e w' => e = .returned (.tuple #[.string ⟨(textL k o).toArray⟩, .int .i64 0]) ∧ Below w.heap.size w w' := by
  have hO : okO o = true := by rw [okO_some hk]; exact hf
  have HC0 := fun w => refCheck_any o w ho
  rw [show ckE o = 0 by simp [ckE, hO]] at HC0
  have HC : Hid _ := HC0
  have HF : Hid _ := fun w => of_yes o.op k w hk
  have hn := name_len hk
  obtain ⟨-, -, d0, d1, a0, a1, b0, b1, i0', i1⟩ := ho
  clear hO hf HC0 hk
  obtain ⟨u0, hu0, zu0, ru0⟩ := cat_rule ⟨#[32]⟩ (itS o.im) 1 20 (by decide) (itS_size o.im (by omega) (by omega)) (by omega)
  obtain ⟨s0, hs0, zs0, rs0⟩ := cat_rule k.s u0 6 21 (kS_size hn) zu0 (by omega)
  have HX : Hid (s0 = ⟨(textL k o).toArray⟩) := by
    show _ = _
    apply ba_eq
    rw [hs0, hu0]
    simp [textL, pD, pA, pB, pI, hD, hA, hB, hN, hI, itS, K.s]
  clear hn hu0 zu0 hs0 zs0
  rw [← HX.out]
  go_enter Tryd.func32, Tryd.ntmps32
  go_wp2_with (first | (go_at_call 43; refine Calls.mono (HC.out _) ?_; rintro e w1 ⟨rfl, hb⟩; obtain ⟨a1, hb0, hz⟩ := one_new w _ _ hb; have HB : Hid (Below w.heap.size w w1) := hb0; have HO : Hid _ := a1; obtain ⟨o0, o1, o2, o3, o4⟩ := a1.o5; clear hb hb0 a1) | (go_at_call 44; refine Calls.mono (HF.out _) ?_; rintro e w2 ⟨rfl, hb⟩; have HB2 : Hid (Below w.heap.size w w2) := HB.out.trans (hb.mono (Nat.le_of_lt hz)); obtain ⟨o0, o1, o2, o3, o4⟩ := (HO.out.below hb hz).o5; have hz2 : w.heap.size < w2.heap.size := Nat.lt_of_lt_of_le hz hb.size; clear hb) | (go_at_call 45; refine Calls.mono (refDigits_any _ _ (by first | assumption | omega) (by first | assumption | omega)) ?_; rintro e w3 ⟨rfl, hw3⟩; subst w3))
  go_ret2
  exact ⟨rfl, HB2.out.trans ((Below.refl _ _).alloc HB2.out.size _)⟩
set_option maxHeartbeats 2000000 in
theorem refText_01B0 (o : O) (k : K) (w : World) (ho : o.Ok) (hk : kOf o.op = some k) (hf : okF k o = true) (hD : k.D = false) (hA : k.A = true) (hB : k.B = true) (hN : k.N = false) (hI : k.I = false) : Calls Tryd.prog 32 #[o.val] w fun e w' => e = .returned (.tuple #[.string ⟨(textL k o).toArray⟩, .int .i64 0]) ∧ Below w.heap.size w w' := by
  have hO : okO o = true := by rw [okO_some hk]; exact hf
  have HC0 := fun w => refCheck_any o w ho
  rw [show ckE o = 0 by simp [ckE, hO]] at HC0
  have HC : Hid _ := HC0
  have HF : Hid _ := fun w => of_yes o.op k w hk
  have hn := name_len hk
  obtain ⟨-, -, d0, d1, a0, a1, b0, b1, i0', i1⟩ := ho
  clear hO hf HC0 hk
  obtain ⟨u0, hu0, zu0, ru0⟩ := cat_rule ⟨#[32, 114]⟩ (itS o.a) 2 20 (by decide) (itS_size o.a (by omega) (by omega)) (by omega)
  obtain ⟨s0, hs0, zs0, rs0⟩ := cat_rule k.s u0 6 22 (kS_size hn) zu0 (by omega)
  obtain ⟨u1, hu1, zu1, ru1⟩ := cat_rule ⟨#[32, 114]⟩ (itS o.b) 2 20 (by decide) (itS_size o.b (by omega) (by omega)) (by omega)
  obtain ⟨s1, hs1, zs1, rs1⟩ := cat_rule s0 u1 28 22 zs0 zu1 (by omega)
  have HX : Hid (s1 = ⟨(textL k o).toArray⟩) := by
    show _ = _
    apply ba_eq
    rw [hs1, hu1, hs0, hu0]
    simp [textL, pD, pA, pB, pI, hD, hA, hB, hI, itS, K.s]
  clear hn hu0 zu0 hs0 zs0 hu1 zu1 hs1 zs1
  rw [← HX.out]
  go_enter Tryd.func32, Tryd.ntmps32
  go_wp2_with (first | (go_at_call 43; refine Calls.mono (HC.out _) ?_; rintro e w1 ⟨rfl, hb⟩; obtain ⟨a1, hb0, hz⟩ := one_new w _ _ hb; have HB : Hid (Below w.heap.size w w1) := hb0; have HO : Hid _ := a1; obtain ⟨o0, o1, o2, o3, o4⟩ := a1.o5; clear hb hb0 a1) | (go_at_call 44; refine Calls.mono (HF.out _) ?_; rintro e w2 ⟨rfl, hb⟩; have HB2 : Hid (Below w.heap.size w w2) := HB.out.trans (hb.mono (Nat.le_of_lt hz)); obtain ⟨o0, o1, o2, o3, o4⟩ := (HO.out.below hb hz).o5; have hz2 : w.heap.size < w2.heap.size := Nat.lt_of_lt_of_le hz hb.size; clear hb) | (go_at_call 45; refine Calls.mono (refDigits_any _ _ (by first | assumption | omega) (by first | assumption | omega)) ?_; rintro e w3 ⟨rfl, hw3⟩; subst w3))
  go_ret2
  exact ⟨rfl, HB2.out.trans ((Below.refl _ _).alloc HB2.out.size _)⟩
set_option maxHeartbeats 2000000 in
theorem refText_01B1 (o : O) (k : K) (w : World) (ho : o.Ok) (hk : kOf o.op = some k) (hf : okF k o = true) (hD : k.D = false) (hA : k.A = true) (hB : k.B = true) (hN : k.N = false) (hI : k.I = true) : Calls Tryd.prog 32 #[o.val] w fun e w' => e = .returned (.tuple #[.string ⟨(textL k o).toArray⟩, .int .i64 0]) ∧ Below w.heap.size w w' := by
  have hO : okO o = true := by rw [okO_some hk]; exact hf
  have HC0 := fun w => refCheck_any o w ho
  rw [show ckE o = 0 by simp [ckE, hO]] at HC0
  have HC : Hid _ := HC0
  have HF : Hid _ := fun w => of_yes o.op k w hk
  have hn := name_len hk
  obtain ⟨-, -, d0, d1, a0, a1, b0, b1, i0', i1⟩ := ho
  clear hO hf HC0 hk
  obtain ⟨u0, hu0, zu0, ru0⟩ := cat_rule ⟨#[32, 114]⟩ (itS o.a) 2 20 (by decide) (itS_size o.a (by omega) (by omega)) (by omega)
  obtain ⟨s0, hs0, zs0, rs0⟩ := cat_rule k.s u0 6 22 (kS_size hn) zu0 (by omega)
  obtain ⟨u1, hu1, zu1, ru1⟩ := cat_rule ⟨#[32, 114]⟩ (itS o.b) 2 20 (by decide) (itS_size o.b (by omega) (by omega)) (by omega)
  obtain ⟨s1, hs1, zs1, rs1⟩ := cat_rule s0 u1 28 22 zs0 zu1 (by omega)
  obtain ⟨u2, hu2, zu2, ru2⟩ := cat_rule ⟨#[32]⟩ (itS o.im) 1 20 (by decide) (itS_size o.im (by omega) (by omega)) (by omega)
  obtain ⟨s2, hs2, zs2, rs2⟩ := cat_rule s1 u2 50 21 zs1 zu2 (by omega)
  have HX : Hid (s2 = ⟨(textL k o).toArray⟩) := by
    show _ = _
    apply ba_eq
    rw [hs2, hu2, hs1, hu1, hs0, hu0]
    simp [textL, pD, pA, pB, pI, hD, hA, hB, hI, itS, K.s]
  clear hn hu0 zu0 hs0 zs0 hu1 zu1 hs1 zs1 hu2 zu2 hs2 zs2
  rw [← HX.out]
  go_enter Tryd.func32, Tryd.ntmps32
  go_wp2_with (first | (go_at_call 43; refine Calls.mono (HC.out _) ?_; rintro e w1 ⟨rfl, hb⟩; obtain ⟨a1, hb0, hz⟩ := one_new w _ _ hb; have HB : Hid (Below w.heap.size w w1) := hb0; have HO : Hid _ := a1; obtain ⟨o0, o1, o2, o3, o4⟩ := a1.o5; clear hb hb0 a1) | (go_at_call 44; refine Calls.mono (HF.out _) ?_; rintro e w2 ⟨rfl, hb⟩; have HB2 : Hid (Below w.heap.size w w2) := HB.out.trans (hb.mono (Nat.le_of_lt hz)); obtain ⟨o0, o1, o2, o3, o4⟩ := (HO.out.below hb hz).o5; have hz2 : w.heap.size < w2.heap.size := Nat.lt_of_lt_of_le hz hb.size; clear hb) | (go_at_call 45; refine Calls.mono (refDigits_any _ _ (by first | assumption | omega) (by first | assumption | omega)) ?_; rintro e w3 ⟨rfl, hw3⟩; subst w3))
  go_ret2
  exact ⟨rfl, HB2.out.trans ((Below.refl _ _).alloc HB2.out.size _)⟩
set_option maxHeartbeats 2000000 in
theorem refText_01N0 (o : O) (k : K) (w : World) (ho : o.Ok) (hk : kOf o.op = some k) (hf : okF k o = true) (hD : k.D = false) (hA : k.A = true) (hB : k.B = false) (hN : k.N = true) (hI : k.I = false) : Calls Tryd.prog 32 #[o.val] w fun e w' => e = .returned (.tuple #[.string ⟨(textL k o).toArray⟩, .int .i64 0]) ∧ Below w.heap.size w w' := by
  have hO : okO o = true := by rw [okO_some hk]; exact hf
  have HC0 := fun w => refCheck_any o w ho
  rw [show ckE o = 0 by simp [ckE, hO]] at HC0
  have HC : Hid _ := HC0
  have HF : Hid _ := fun w => of_yes o.op k w hk
  have hn := name_len hk
  obtain ⟨-, -, d0, d1, a0, a1, b0, b1, i0', i1⟩ := ho
  clear hO hf HC0 hk
  obtain ⟨u0, hu0, zu0, ru0⟩ := cat_rule ⟨#[32, 114]⟩ (itS o.a) 2 20 (by decide) (itS_size o.a (by omega) (by omega)) (by omega)
  obtain ⟨s0, hs0, zs0, rs0⟩ := cat_rule k.s u0 6 22 (kS_size hn) zu0 (by omega)
  obtain ⟨u1, hu1, zu1, ru1⟩ := cat_rule ⟨#[32]⟩ (itS o.b) 1 20 (by decide) (itS_size o.b (by omega) (by omega)) (by omega)
  obtain ⟨s1, hs1, zs1, rs1⟩ := cat_rule s0 u1 28 21 zs0 zu1 (by omega)
  have HX : Hid (s1 = ⟨(textL k o).toArray⟩) := by
    show _ = _
    apply ba_eq
    rw [hs1, hu1, hs0, hu0]
    simp [textL, pD, pA, pB, pI, hD, hA, hB, hN, hI, itS, K.s]
  clear hn hu0 zu0 hs0 zs0 hu1 zu1 hs1 zs1
  rw [← HX.out]
  go_enter Tryd.func32, Tryd.ntmps32
  go_wp2_with (first | (go_at_call 43; refine Calls.mono (HC.out _) ?_; rintro e w1 ⟨rfl, hb⟩; obtain ⟨a1, hb0, hz⟩ := one_new w _ _ hb; have HB : Hid (Below w.heap.size w w1) := hb0; have HO : Hid _ := a1; obtain ⟨o0, o1, o2, o3, o4⟩ := a1.o5; clear hb hb0 a1) | (go_at_call 44; refine Calls.mono (HF.out _) ?_; rintro e w2 ⟨rfl, hb⟩; have HB2 : Hid (Below w.heap.size w w2) := HB.out.trans (hb.mono (Nat.le_of_lt hz)); obtain ⟨o0, o1, o2, o3, o4⟩ := (HO.out.below hb hz).o5; have hz2 : w.heap.size < w2.heap.size := Nat.lt_of_lt_of_le hz hb.size; clear hb) | (go_at_call 45; refine Calls.mono (refDigits_any _ _ (by first | assumption | omega) (by first | assumption | omega)) ?_; rintro e w3 ⟨rfl, hw3⟩; subst w3))
  go_ret2
  exact ⟨rfl, HB2.out.trans ((Below.refl _ _).alloc HB2.out.size _)⟩
set_option maxHeartbeats 2000000 in
theorem refText_01N1 (o : O) (k : K) (w : World) (ho : o.Ok) (hk : kOf o.op = some k) (hf : okF k o = true) (hD : k.D = false) (hA : k.A = true) (hB : k.B = false) (hN : k.N = true) (hI : k.I = true) : Calls Tryd.prog 32 #[o.val] w fun e w' => e = .returned (.tuple #[.string ⟨(textL k o).toArray⟩, .int .i64 0]) ∧ Below w.heap.size w w' := by
  have hO : okO o = true := by rw [okO_some hk]; exact hf
  have HC0 := fun w => refCheck_any o w ho
  rw [show ckE o = 0 by simp [ckE, hO]] at HC0
  have HC : Hid _ := HC0
  have HF : Hid _ := fun w => of_yes o.op k w hk
  have hn := name_len hk
  obtain ⟨-, -, d0, d1, a0, a1, b0, b1, i0', i1⟩ := ho
  clear hO hf HC0 hk
  obtain ⟨u0, hu0, zu0, ru0⟩ := cat_rule ⟨#[32, 114]⟩ (itS o.a) 2 20 (by decide) (itS_size o.a (by omega) (by omega)) (by omega)
  obtain ⟨s0, hs0, zs0, rs0⟩ := cat_rule k.s u0 6 22 (kS_size hn) zu0 (by omega)
  obtain ⟨u1, hu1, zu1, ru1⟩ := cat_rule ⟨#[32]⟩ (itS o.b) 1 20 (by decide) (itS_size o.b (by omega) (by omega)) (by omega)
  obtain ⟨s1, hs1, zs1, rs1⟩ := cat_rule s0 u1 28 21 zs0 zu1 (by omega)
  obtain ⟨u2, hu2, zu2, ru2⟩ := cat_rule ⟨#[32]⟩ (itS o.im) 1 20 (by decide) (itS_size o.im (by omega) (by omega)) (by omega)
  obtain ⟨s2, hs2, zs2, rs2⟩ := cat_rule s1 u2 49 21 zs1 zu2 (by omega)
  have HX : Hid (s2 = ⟨(textL k o).toArray⟩) := by
    show _ = _
    apply ba_eq
    rw [hs2, hu2, hs1, hu1, hs0, hu0]
    simp [textL, pD, pA, pB, pI, hD, hA, hB, hN, hI, itS, K.s]
  clear hn hu0 zu0 hs0 zs0 hu1 zu1 hs1 zs1 hu2 zu2 hs2 zs2
  rw [← HX.out]
  go_enter Tryd.func32, Tryd.ntmps32
  go_wp2_with (first | (go_at_call 43; refine Calls.mono (HC.out _) ?_; rintro e w1 ⟨rfl, hb⟩; obtain ⟨a1, hb0, hz⟩ := one_new w _ _ hb; have HB : Hid (Below w.heap.size w w1) := hb0; have HO : Hid _ := a1; obtain ⟨o0, o1, o2, o3, o4⟩ := a1.o5; clear hb hb0 a1) | (go_at_call 44; refine Calls.mono (HF.out _) ?_; rintro e w2 ⟨rfl, hb⟩; have HB2 : Hid (Below w.heap.size w w2) := HB.out.trans (hb.mono (Nat.le_of_lt hz)); obtain ⟨o0, o1, o2, o3, o4⟩ := (HO.out.below hb hz).o5; have hz2 : w.heap.size < w2.heap.size := Nat.lt_of_lt_of_le hz hb.size; clear hb) | (go_at_call 45; refine Calls.mono (refDigits_any _ _ (by first | assumption | omega) (by first | assumption | omega)) ?_; rintro e w3 ⟨rfl, hw3⟩; subst w3))
  go_ret2
  exact ⟨rfl, HB2.out.trans ((Below.refl _ _).alloc HB2.out.size _)⟩
set_option maxHeartbeats 2000000 in
theorem refText_0100 (o : O) (k : K) (w : World) (ho : o.Ok) (hk : kOf o.op = some k) (hf : okF k o = true) (hD : k.D = false) (hA : k.A = true) (hB : k.B = false) (hN : k.N = false) (hI : k.I = false) : Calls Tryd.prog 32 #[o.val] w fun e w' => e = .returned (.tuple #[.string ⟨(textL k o).toArray⟩, .int .i64 0]) ∧ Below w.heap.size w w' := by
  have hO : okO o = true := by rw [okO_some hk]; exact hf
  have HC0 := fun w => refCheck_any o w ho
  rw [show ckE o = 0 by simp [ckE, hO]] at HC0
  have HC : Hid _ := HC0
  have HF : Hid _ := fun w => of_yes o.op k w hk
  have hn := name_len hk
  obtain ⟨-, -, d0, d1, a0, a1, b0, b1, i0', i1⟩ := ho
  clear hO hf HC0 hk
  obtain ⟨u0, hu0, zu0, ru0⟩ := cat_rule ⟨#[32, 114]⟩ (itS o.a) 2 20 (by decide) (itS_size o.a (by omega) (by omega)) (by omega)
  obtain ⟨s0, hs0, zs0, rs0⟩ := cat_rule k.s u0 6 22 (kS_size hn) zu0 (by omega)
  have HX : Hid (s0 = ⟨(textL k o).toArray⟩) := by
    show _ = _
    apply ba_eq
    rw [hs0, hu0]
    simp [textL, pD, pA, pB, pI, hD, hA, hB, hN, hI, itS, K.s]
  clear hn hu0 zu0 hs0 zs0
  rw [← HX.out]
  go_enter Tryd.func32, Tryd.ntmps32
  go_wp2_with (first | (go_at_call 43; refine Calls.mono (HC.out _) ?_; rintro e w1 ⟨rfl, hb⟩; obtain ⟨a1, hb0, hz⟩ := one_new w _ _ hb; have HB : Hid (Below w.heap.size w w1) := hb0; have HO : Hid _ := a1; obtain ⟨o0, o1, o2, o3, o4⟩ := a1.o5; clear hb hb0 a1) | (go_at_call 44; refine Calls.mono (HF.out _) ?_; rintro e w2 ⟨rfl, hb⟩; have HB2 : Hid (Below w.heap.size w w2) := HB.out.trans (hb.mono (Nat.le_of_lt hz)); obtain ⟨o0, o1, o2, o3, o4⟩ := (HO.out.below hb hz).o5; have hz2 : w.heap.size < w2.heap.size := Nat.lt_of_lt_of_le hz hb.size; clear hb) | (go_at_call 45; refine Calls.mono (refDigits_any _ _ (by first | assumption | omega) (by first | assumption | omega)) ?_; rintro e w3 ⟨rfl, hw3⟩; subst w3))
  go_ret2
  exact ⟨rfl, HB2.out.trans ((Below.refl _ _).alloc HB2.out.size _)⟩
set_option maxHeartbeats 2000000 in
theorem refText_0101 (o : O) (k : K) (w : World) (ho : o.Ok) (hk : kOf o.op = some k) (hf : okF k o = true) (hD : k.D = false) (hA : k.A = true) (hB : k.B = false) (hN : k.N = false) (hI : k.I = true) : Calls Tryd.prog 32 #[o.val] w fun e w' => e = .returned (.tuple #[.string ⟨(textL k o).toArray⟩, .int .i64 0]) ∧ Below w.heap.size w w' := by
  have hO : okO o = true := by rw [okO_some hk]; exact hf
  have HC0 := fun w => refCheck_any o w ho
  rw [show ckE o = 0 by simp [ckE, hO]] at HC0
  have HC : Hid _ := HC0
  have HF : Hid _ := fun w => of_yes o.op k w hk
  have hn := name_len hk
  obtain ⟨-, -, d0, d1, a0, a1, b0, b1, i0', i1⟩ := ho
  clear hO hf HC0 hk
  obtain ⟨u0, hu0, zu0, ru0⟩ := cat_rule ⟨#[32, 114]⟩ (itS o.a) 2 20 (by decide) (itS_size o.a (by omega) (by omega)) (by omega)
  obtain ⟨s0, hs0, zs0, rs0⟩ := cat_rule k.s u0 6 22 (kS_size hn) zu0 (by omega)
  obtain ⟨u1, hu1, zu1, ru1⟩ := cat_rule ⟨#[32]⟩ (itS o.im) 1 20 (by decide) (itS_size o.im (by omega) (by omega)) (by omega)
  obtain ⟨s1, hs1, zs1, rs1⟩ := cat_rule s0 u1 28 21 zs0 zu1 (by omega)
  have HX : Hid (s1 = ⟨(textL k o).toArray⟩) := by
    show _ = _
    apply ba_eq
    rw [hs1, hu1, hs0, hu0]
    simp [textL, pD, pA, pB, pI, hD, hA, hB, hN, hI, itS, K.s]
  clear hn hu0 zu0 hs0 zs0 hu1 zu1 hs1 zs1
  rw [← HX.out]
  go_enter Tryd.func32, Tryd.ntmps32
  go_wp2_with (first | (go_at_call 43; refine Calls.mono (HC.out _) ?_; rintro e w1 ⟨rfl, hb⟩; obtain ⟨a1, hb0, hz⟩ := one_new w _ _ hb; have HB : Hid (Below w.heap.size w w1) := hb0; have HO : Hid _ := a1; obtain ⟨o0, o1, o2, o3, o4⟩ := a1.o5; clear hb hb0 a1) | (go_at_call 44; refine Calls.mono (HF.out _) ?_; rintro e w2 ⟨rfl, hb⟩; have HB2 : Hid (Below w.heap.size w w2) := HB.out.trans (hb.mono (Nat.le_of_lt hz)); obtain ⟨o0, o1, o2, o3, o4⟩ := (HO.out.below hb hz).o5; have hz2 : w.heap.size < w2.heap.size := Nat.lt_of_lt_of_le hz hb.size; clear hb) | (go_at_call 45; refine Calls.mono (refDigits_any _ _ (by first | assumption | omega) (by first | assumption | omega)) ?_; rintro e w3 ⟨rfl, hw3⟩; subst w3))
  go_ret2
  exact ⟨rfl, HB2.out.trans ((Below.refl _ _).alloc HB2.out.size _)⟩
set_option maxHeartbeats 2000000 in
theorem refText_10B0 (o : O) (k : K) (w : World) (ho : o.Ok) (hk : kOf o.op = some k) (hf : okF k o = true) (hD : k.D = true) (hA : k.A = false) (hB : k.B = true) (hN : k.N = false) (hI : k.I = false) : Calls Tryd.prog 32 #[o.val] w fun e w' => e = .returned (.tuple #[.string ⟨(textL k o).toArray⟩, .int .i64 0]) ∧ Below w.heap.size w w' := by
  have hO : okO o = true := by rw [okO_some hk]; exact hf
  have HC0 := fun w => refCheck_any o w ho
  rw [show ckE o = 0 by simp [ckE, hO]] at HC0
  have HC : Hid _ := HC0
  have HF : Hid _ := fun w => of_yes o.op k w hk
  have hn := name_len hk
  obtain ⟨-, -, d0, d1, a0, a1, b0, b1, i0', i1⟩ := ho
  clear hO hf HC0 hk
  obtain ⟨u0, hu0, zu0, ru0⟩ := cat_rule ⟨#[32, 114]⟩ (itS o.d) 2 20 (by decide) (itS_size o.d (by omega) (by omega)) (by omega)
  obtain ⟨s0, hs0, zs0, rs0⟩ := cat_rule k.s u0 6 22 (kS_size hn) zu0 (by omega)
  obtain ⟨u1, hu1, zu1, ru1⟩ := cat_rule ⟨#[32, 114]⟩ (itS o.b) 2 20 (by decide) (itS_size o.b (by omega) (by omega)) (by omega)
  obtain ⟨s1, hs1, zs1, rs1⟩ := cat_rule s0 u1 28 22 zs0 zu1 (by omega)
  have HX : Hid (s1 = ⟨(textL k o).toArray⟩) := by
    show _ = _
    apply ba_eq
    rw [hs1, hu1, hs0, hu0]
    simp [textL, pD, pA, pB, pI, hD, hA, hB, hI, itS, K.s]
  clear hn hu0 zu0 hs0 zs0 hu1 zu1 hs1 zs1
  rw [← HX.out]
  go_enter Tryd.func32, Tryd.ntmps32
  go_wp2_with (first | (go_at_call 43; refine Calls.mono (HC.out _) ?_; rintro e w1 ⟨rfl, hb⟩; obtain ⟨a1, hb0, hz⟩ := one_new w _ _ hb; have HB : Hid (Below w.heap.size w w1) := hb0; have HO : Hid _ := a1; obtain ⟨o0, o1, o2, o3, o4⟩ := a1.o5; clear hb hb0 a1) | (go_at_call 44; refine Calls.mono (HF.out _) ?_; rintro e w2 ⟨rfl, hb⟩; have HB2 : Hid (Below w.heap.size w w2) := HB.out.trans (hb.mono (Nat.le_of_lt hz)); obtain ⟨o0, o1, o2, o3, o4⟩ := (HO.out.below hb hz).o5; have hz2 : w.heap.size < w2.heap.size := Nat.lt_of_lt_of_le hz hb.size; clear hb) | (go_at_call 45; refine Calls.mono (refDigits_any _ _ (by first | assumption | omega) (by first | assumption | omega)) ?_; rintro e w3 ⟨rfl, hw3⟩; subst w3))
  go_ret2
  exact ⟨rfl, HB2.out.trans ((Below.refl _ _).alloc HB2.out.size _)⟩
set_option maxHeartbeats 2000000 in
theorem refText_10B1 (o : O) (k : K) (w : World) (ho : o.Ok) (hk : kOf o.op = some k) (hf : okF k o = true) (hD : k.D = true) (hA : k.A = false) (hB : k.B = true) (hN : k.N = false) (hI : k.I = true) : Calls Tryd.prog 32 #[o.val] w fun e w' => e = .returned (.tuple #[.string ⟨(textL k o).toArray⟩, .int .i64 0]) ∧ Below w.heap.size w w' := by
  have hO : okO o = true := by rw [okO_some hk]; exact hf
  have HC0 := fun w => refCheck_any o w ho
  rw [show ckE o = 0 by simp [ckE, hO]] at HC0
  have HC : Hid _ := HC0
  have HF : Hid _ := fun w => of_yes o.op k w hk
  have hn := name_len hk
  obtain ⟨-, -, d0, d1, a0, a1, b0, b1, i0', i1⟩ := ho
  clear hO hf HC0 hk
  obtain ⟨u0, hu0, zu0, ru0⟩ := cat_rule ⟨#[32, 114]⟩ (itS o.d) 2 20 (by decide) (itS_size o.d (by omega) (by omega)) (by omega)
  obtain ⟨s0, hs0, zs0, rs0⟩ := cat_rule k.s u0 6 22 (kS_size hn) zu0 (by omega)
  obtain ⟨u1, hu1, zu1, ru1⟩ := cat_rule ⟨#[32, 114]⟩ (itS o.b) 2 20 (by decide) (itS_size o.b (by omega) (by omega)) (by omega)
  obtain ⟨s1, hs1, zs1, rs1⟩ := cat_rule s0 u1 28 22 zs0 zu1 (by omega)
  obtain ⟨u2, hu2, zu2, ru2⟩ := cat_rule ⟨#[32]⟩ (itS o.im) 1 20 (by decide) (itS_size o.im (by omega) (by omega)) (by omega)
  obtain ⟨s2, hs2, zs2, rs2⟩ := cat_rule s1 u2 50 21 zs1 zu2 (by omega)
  have HX : Hid (s2 = ⟨(textL k o).toArray⟩) := by
    show _ = _
    apply ba_eq
    rw [hs2, hu2, hs1, hu1, hs0, hu0]
    simp [textL, pD, pA, pB, pI, hD, hA, hB, hI, itS, K.s]
  clear hn hu0 zu0 hs0 zs0 hu1 zu1 hs1 zs1 hu2 zu2 hs2 zs2
  rw [← HX.out]
  go_enter Tryd.func32, Tryd.ntmps32
  go_wp2_with (first | (go_at_call 43; refine Calls.mono (HC.out _) ?_; rintro e w1 ⟨rfl, hb⟩; obtain ⟨a1, hb0, hz⟩ := one_new w _ _ hb; have HB : Hid (Below w.heap.size w w1) := hb0; have HO : Hid _ := a1; obtain ⟨o0, o1, o2, o3, o4⟩ := a1.o5; clear hb hb0 a1) | (go_at_call 44; refine Calls.mono (HF.out _) ?_; rintro e w2 ⟨rfl, hb⟩; have HB2 : Hid (Below w.heap.size w w2) := HB.out.trans (hb.mono (Nat.le_of_lt hz)); obtain ⟨o0, o1, o2, o3, o4⟩ := (HO.out.below hb hz).o5; have hz2 : w.heap.size < w2.heap.size := Nat.lt_of_lt_of_le hz hb.size; clear hb) | (go_at_call 45; refine Calls.mono (refDigits_any _ _ (by first | assumption | omega) (by first | assumption | omega)) ?_; rintro e w3 ⟨rfl, hw3⟩; subst w3))
  go_ret2
  exact ⟨rfl, HB2.out.trans ((Below.refl _ _).alloc HB2.out.size _)⟩
set_option maxHeartbeats 2000000 in
theorem refText_10N0 (o : O) (k : K) (w : World) (ho : o.Ok) (hk : kOf o.op = some k) (hf : okF k o = true) (hD : k.D = true) (hA : k.A = false) (hB : k.B = false) (hN : k.N = true) (hI : k.I = false) : Calls Tryd.prog 32 #[o.val] w fun e w' => e = .returned (.tuple #[.string ⟨(textL k o).toArray⟩, .int .i64 0]) ∧ Below w.heap.size w w' := by
  have hO : okO o = true := by rw [okO_some hk]; exact hf
  have HC0 := fun w => refCheck_any o w ho
  rw [show ckE o = 0 by simp [ckE, hO]] at HC0
  have HC : Hid _ := HC0
  have HF : Hid _ := fun w => of_yes o.op k w hk
  have hn := name_len hk
  obtain ⟨-, -, d0, d1, a0, a1, b0, b1, i0', i1⟩ := ho
  clear hO hf HC0 hk
  obtain ⟨u0, hu0, zu0, ru0⟩ := cat_rule ⟨#[32, 114]⟩ (itS o.d) 2 20 (by decide) (itS_size o.d (by omega) (by omega)) (by omega)
  obtain ⟨s0, hs0, zs0, rs0⟩ := cat_rule k.s u0 6 22 (kS_size hn) zu0 (by omega)
  obtain ⟨u1, hu1, zu1, ru1⟩ := cat_rule ⟨#[32]⟩ (itS o.b) 1 20 (by decide) (itS_size o.b (by omega) (by omega)) (by omega)
  obtain ⟨s1, hs1, zs1, rs1⟩ := cat_rule s0 u1 28 21 zs0 zu1 (by omega)
  have HX : Hid (s1 = ⟨(textL k o).toArray⟩) := by
    show _ = _
    apply ba_eq
    rw [hs1, hu1, hs0, hu0]
    simp [textL, pD, pA, pB, pI, hD, hA, hB, hN, hI, itS, K.s]
  clear hn hu0 zu0 hs0 zs0 hu1 zu1 hs1 zs1
  rw [← HX.out]
  go_enter Tryd.func32, Tryd.ntmps32
  go_wp2_with (first | (go_at_call 43; refine Calls.mono (HC.out _) ?_; rintro e w1 ⟨rfl, hb⟩; obtain ⟨a1, hb0, hz⟩ := one_new w _ _ hb; have HB : Hid (Below w.heap.size w w1) := hb0; have HO : Hid _ := a1; obtain ⟨o0, o1, o2, o3, o4⟩ := a1.o5; clear hb hb0 a1) | (go_at_call 44; refine Calls.mono (HF.out _) ?_; rintro e w2 ⟨rfl, hb⟩; have HB2 : Hid (Below w.heap.size w w2) := HB.out.trans (hb.mono (Nat.le_of_lt hz)); obtain ⟨o0, o1, o2, o3, o4⟩ := (HO.out.below hb hz).o5; have hz2 : w.heap.size < w2.heap.size := Nat.lt_of_lt_of_le hz hb.size; clear hb) | (go_at_call 45; refine Calls.mono (refDigits_any _ _ (by first | assumption | omega) (by first | assumption | omega)) ?_; rintro e w3 ⟨rfl, hw3⟩; subst w3))
  go_ret2
  exact ⟨rfl, HB2.out.trans ((Below.refl _ _).alloc HB2.out.size _)⟩
set_option maxHeartbeats 2000000 in
theorem refText_10N1 (o : O) (k : K) (w : World) (ho : o.Ok) (hk : kOf o.op = some k) (hf : okF k o = true) (hD : k.D = true) (hA : k.A = false) (hB : k.B = false) (hN : k.N = true) (hI : k.I = true) : Calls Tryd.prog 32 #[o.val] w fun e w' => e = .returned (.tuple #[.string ⟨(textL k o).toArray⟩, .int .i64 0]) ∧ Below w.heap.size w w' := by
  have hO : okO o = true := by rw [okO_some hk]; exact hf
  have HC0 := fun w => refCheck_any o w ho
  rw [show ckE o = 0 by simp [ckE, hO]] at HC0
  have HC : Hid _ := HC0
  have HF : Hid _ := fun w => of_yes o.op k w hk
  have hn := name_len hk
  obtain ⟨-, -, d0, d1, a0, a1, b0, b1, i0', i1⟩ := ho
  clear hO hf HC0 hk
  obtain ⟨u0, hu0, zu0, ru0⟩ := cat_rule ⟨#[32, 114]⟩ (itS o.d) 2 20 (by decide) (itS_size o.d (by omega) (by omega)) (by omega)
  obtain ⟨s0, hs0, zs0, rs0⟩ := cat_rule k.s u0 6 22 (kS_size hn) zu0 (by omega)
  obtain ⟨u1, hu1, zu1, ru1⟩ := cat_rule ⟨#[32]⟩ (itS o.b) 1 20 (by decide) (itS_size o.b (by omega) (by omega)) (by omega)
  obtain ⟨s1, hs1, zs1, rs1⟩ := cat_rule s0 u1 28 21 zs0 zu1 (by omega)
  obtain ⟨u2, hu2, zu2, ru2⟩ := cat_rule ⟨#[32]⟩ (itS o.im) 1 20 (by decide) (itS_size o.im (by omega) (by omega)) (by omega)
  obtain ⟨s2, hs2, zs2, rs2⟩ := cat_rule s1 u2 49 21 zs1 zu2 (by omega)
  have HX : Hid (s2 = ⟨(textL k o).toArray⟩) := by
    show _ = _
    apply ba_eq
    rw [hs2, hu2, hs1, hu1, hs0, hu0]
    simp [textL, pD, pA, pB, pI, hD, hA, hB, hN, hI, itS, K.s]
  clear hn hu0 zu0 hs0 zs0 hu1 zu1 hs1 zs1 hu2 zu2 hs2 zs2
  rw [← HX.out]
  go_enter Tryd.func32, Tryd.ntmps32
  go_wp2_with (first | (go_at_call 43; refine Calls.mono (HC.out _) ?_; rintro e w1 ⟨rfl, hb⟩; obtain ⟨a1, hb0, hz⟩ := one_new w _ _ hb; have HB : Hid (Below w.heap.size w w1) := hb0; have HO : Hid _ := a1; obtain ⟨o0, o1, o2, o3, o4⟩ := a1.o5; clear hb hb0 a1) | (go_at_call 44; refine Calls.mono (HF.out _) ?_; rintro e w2 ⟨rfl, hb⟩; have HB2 : Hid (Below w.heap.size w w2) := HB.out.trans (hb.mono (Nat.le_of_lt hz)); obtain ⟨o0, o1, o2, o3, o4⟩ := (HO.out.below hb hz).o5; have hz2 : w.heap.size < w2.heap.size := Nat.lt_of_lt_of_le hz hb.size; clear hb) | (go_at_call 45; refine Calls.mono (refDigits_any _ _ (by first | assumption | omega) (by first | assumption | omega)) ?_; rintro e w3 ⟨rfl, hw3⟩; subst w3))
  go_ret2
  exact ⟨rfl, HB2.out.trans ((Below.refl _ _).alloc HB2.out.size _)⟩
set_option maxHeartbeats 2000000 in
theorem refText_1000 (o : O) (k : K) (w : World) (ho : o.Ok) (hk : kOf o.op = some k) (hf : okF k o = true) (hD : k.D = true) (hA : k.A = false) (hB : k.B = false) (hN : k.N = false) (hI : k.I = false) : Calls Tryd.prog 32 #[o.val] w fun e w' => e = .returned (.tuple #[.string ⟨(textL k o).toArray⟩, .int .i64 0]) ∧ Below w.heap.size w w' := by
  have hO : okO o = true := by rw [okO_some hk]; exact hf
  have HC0 := fun w => refCheck_any o w ho
  rw [show ckE o = 0 by simp [ckE, hO]] at HC0
  have HC : Hid _ := HC0
  have HF : Hid _ := fun w => of_yes o.op k w hk
  have hn := name_len hk
  obtain ⟨-, -, d0, d1, a0, a1, b0, b1, i0', i1⟩ := ho
  clear hO hf HC0 hk
  obtain ⟨u0, hu0, zu0, ru0⟩ := cat_rule ⟨#[32, 114]⟩ (itS o.d) 2 20 (by decide) (itS_size o.d (by omega) (by omega)) (by omega)
  obtain ⟨s0, hs0, zs0, rs0⟩ := cat_rule k.s u0 6 22 (kS_size hn) zu0 (by omega)
  have HX : Hid (s0 = ⟨(textL k o).toArray⟩) := by
    show _ = _
    apply ba_eq
    rw [hs0, hu0]
    simp [textL, pD, pA, pB, pI, hD, hA, hB, hN, hI, itS, K.s]
  clear hn hu0 zu0 hs0 zs0
  rw [← HX.out]
  go_enter Tryd.func32, Tryd.ntmps32
  go_wp2_with (first | (go_at_call 43; refine Calls.mono (HC.out _) ?_; rintro e w1 ⟨rfl, hb⟩; obtain ⟨a1, hb0, hz⟩ := one_new w _ _ hb; have HB : Hid (Below w.heap.size w w1) := hb0; have HO : Hid _ := a1; obtain ⟨o0, o1, o2, o3, o4⟩ := a1.o5; clear hb hb0 a1) | (go_at_call 44; refine Calls.mono (HF.out _) ?_; rintro e w2 ⟨rfl, hb⟩; have HB2 : Hid (Below w.heap.size w w2) := HB.out.trans (hb.mono (Nat.le_of_lt hz)); obtain ⟨o0, o1, o2, o3, o4⟩ := (HO.out.below hb hz).o5; have hz2 : w.heap.size < w2.heap.size := Nat.lt_of_lt_of_le hz hb.size; clear hb) | (go_at_call 45; refine Calls.mono (refDigits_any _ _ (by first | assumption | omega) (by first | assumption | omega)) ?_; rintro e w3 ⟨rfl, hw3⟩; subst w3))
  go_ret2
  exact ⟨rfl, HB2.out.trans ((Below.refl _ _).alloc HB2.out.size _)⟩
set_option maxHeartbeats 2000000 in
theorem refText_1001 (o : O) (k : K) (w : World) (ho : o.Ok) (hk : kOf o.op = some k) (hf : okF k o = true) (hD : k.D = true) (hA : k.A = false) (hB : k.B = false) (hN : k.N = false) (hI : k.I = true) : Calls Tryd.prog 32 #[o.val] w fun e w' => e = .returned (.tuple #[.string ⟨(textL k o).toArray⟩, .int .i64 0]) ∧ Below w.heap.size w w' := by
  have hO : okO o = true := by rw [okO_some hk]; exact hf
  have HC0 := fun w => refCheck_any o w ho
  rw [show ckE o = 0 by simp [ckE, hO]] at HC0
  have HC : Hid _ := HC0
  have HF : Hid _ := fun w => of_yes o.op k w hk
  have hn := name_len hk
  obtain ⟨-, -, d0, d1, a0, a1, b0, b1, i0', i1⟩ := ho
  clear hO hf HC0 hk
  obtain ⟨u0, hu0, zu0, ru0⟩ := cat_rule ⟨#[32, 114]⟩ (itS o.d) 2 20 (by decide) (itS_size o.d (by omega) (by omega)) (by omega)
  obtain ⟨s0, hs0, zs0, rs0⟩ := cat_rule k.s u0 6 22 (kS_size hn) zu0 (by omega)
  obtain ⟨u1, hu1, zu1, ru1⟩ := cat_rule ⟨#[32]⟩ (itS o.im) 1 20 (by decide) (itS_size o.im (by omega) (by omega)) (by omega)
  obtain ⟨s1, hs1, zs1, rs1⟩ := cat_rule s0 u1 28 21 zs0 zu1 (by omega)
  have HX : Hid (s1 = ⟨(textL k o).toArray⟩) := by
    show _ = _
    apply ba_eq
    rw [hs1, hu1, hs0, hu0]
    simp [textL, pD, pA, pB, pI, hD, hA, hB, hN, hI, itS, K.s]
  clear hn hu0 zu0 hs0 zs0 hu1 zu1 hs1 zs1
  rw [← HX.out]
  go_enter Tryd.func32, Tryd.ntmps32
  go_wp2_with (first | (go_at_call 43; refine Calls.mono (HC.out _) ?_; rintro e w1 ⟨rfl, hb⟩; obtain ⟨a1, hb0, hz⟩ := one_new w _ _ hb; have HB : Hid (Below w.heap.size w w1) := hb0; have HO : Hid _ := a1; obtain ⟨o0, o1, o2, o3, o4⟩ := a1.o5; clear hb hb0 a1) | (go_at_call 44; refine Calls.mono (HF.out _) ?_; rintro e w2 ⟨rfl, hb⟩; have HB2 : Hid (Below w.heap.size w w2) := HB.out.trans (hb.mono (Nat.le_of_lt hz)); obtain ⟨o0, o1, o2, o3, o4⟩ := (HO.out.below hb hz).o5; have hz2 : w.heap.size < w2.heap.size := Nat.lt_of_lt_of_le hz hb.size; clear hb) | (go_at_call 45; refine Calls.mono (refDigits_any _ _ (by first | assumption | omega) (by first | assumption | omega)) ?_; rintro e w3 ⟨rfl, hw3⟩; subst w3))
  go_ret2
  exact ⟨rfl, HB2.out.trans ((Below.refl _ _).alloc HB2.out.size _)⟩
set_option maxHeartbeats 2000000 in
theorem refText_11B0 (o : O) (k : K) (w : World) (ho : o.Ok) (hk : kOf o.op = some k) (hf : okF k o = true) (hD : k.D = true) (hA : k.A = true) (hB : k.B = true) (hN : k.N = false) (hI : k.I = false) : Calls Tryd.prog 32 #[o.val] w fun e w' => e = .returned (.tuple #[.string ⟨(textL k o).toArray⟩, .int .i64 0]) ∧ Below w.heap.size w w' := by
  have hO : okO o = true := by rw [okO_some hk]; exact hf
  have HC0 := fun w => refCheck_any o w ho
  rw [show ckE o = 0 by simp [ckE, hO]] at HC0
  have HC : Hid _ := HC0
  have HF : Hid _ := fun w => of_yes o.op k w hk
  have hn := name_len hk
  obtain ⟨-, -, d0, d1, a0, a1, b0, b1, i0', i1⟩ := ho
  clear hO hf HC0 hk
  obtain ⟨u0, hu0, zu0, ru0⟩ := cat_rule ⟨#[32, 114]⟩ (itS o.d) 2 20 (by decide) (itS_size o.d (by omega) (by omega)) (by omega)
  obtain ⟨s0, hs0, zs0, rs0⟩ := cat_rule k.s u0 6 22 (kS_size hn) zu0 (by omega)
  obtain ⟨u1, hu1, zu1, ru1⟩ := cat_rule ⟨#[32, 114]⟩ (itS o.a) 2 20 (by decide) (itS_size o.a (by omega) (by omega)) (by omega)
  obtain ⟨s1, hs1, zs1, rs1⟩ := cat_rule s0 u1 28 22 zs0 zu1 (by omega)
  obtain ⟨u2, hu2, zu2, ru2⟩ := cat_rule ⟨#[32, 114]⟩ (itS o.b) 2 20 (by decide) (itS_size o.b (by omega) (by omega)) (by omega)
  obtain ⟨s2, hs2, zs2, rs2⟩ := cat_rule s1 u2 50 22 zs1 zu2 (by omega)
  have HX : Hid (s2 = ⟨(textL k o).toArray⟩) := by
    show _ = _
    apply ba_eq
    rw [hs2, hu2, hs1, hu1, hs0, hu0]
    simp [textL, pD, pA, pB, pI, hD, hA, hB, hI, itS, K.s]
  clear hn hu0 zu0 hs0 zs0 hu1 zu1 hs1 zs1 hu2 zu2 hs2 zs2
  rw [← HX.out]
  go_enter Tryd.func32, Tryd.ntmps32
  go_wp2_with (first | (go_at_call 43; refine Calls.mono (HC.out _) ?_; rintro e w1 ⟨rfl, hb⟩; obtain ⟨a1, hb0, hz⟩ := one_new w _ _ hb; have HB : Hid (Below w.heap.size w w1) := hb0; have HO : Hid _ := a1; obtain ⟨o0, o1, o2, o3, o4⟩ := a1.o5; clear hb hb0 a1) | (go_at_call 44; refine Calls.mono (HF.out _) ?_; rintro e w2 ⟨rfl, hb⟩; have HB2 : Hid (Below w.heap.size w w2) := HB.out.trans (hb.mono (Nat.le_of_lt hz)); obtain ⟨o0, o1, o2, o3, o4⟩ := (HO.out.below hb hz).o5; have hz2 : w.heap.size < w2.heap.size := Nat.lt_of_lt_of_le hz hb.size; clear hb) | (go_at_call 45; refine Calls.mono (refDigits_any _ _ (by first | assumption | omega) (by first | assumption | omega)) ?_; rintro e w3 ⟨rfl, hw3⟩; subst w3))
  go_ret2
  exact ⟨rfl, HB2.out.trans ((Below.refl _ _).alloc HB2.out.size _)⟩
set_option maxHeartbeats 2000000 in
theorem refText_11B1 (o : O) (k : K) (w : World) (ho : o.Ok) (hk : kOf o.op = some k) (hf : okF k o = true) (hD : k.D = true) (hA : k.A = true) (hB : k.B = true) (hN : k.N = false) (hI : k.I = true) : Calls Tryd.prog 32 #[o.val] w fun e w' => e = .returned (.tuple #[.string ⟨(textL k o).toArray⟩, .int .i64 0]) ∧ Below w.heap.size w w' := by
  have hO : okO o = true := by rw [okO_some hk]; exact hf
  have HC0 := fun w => refCheck_any o w ho
  rw [show ckE o = 0 by simp [ckE, hO]] at HC0
  have HC : Hid _ := HC0
  have HF : Hid _ := fun w => of_yes o.op k w hk
  have hn := name_len hk
  obtain ⟨-, -, d0, d1, a0, a1, b0, b1, i0', i1⟩ := ho
  clear hO hf HC0 hk
  obtain ⟨u0, hu0, zu0, ru0⟩ := cat_rule ⟨#[32, 114]⟩ (itS o.d) 2 20 (by decide) (itS_size o.d (by omega) (by omega)) (by omega)
  obtain ⟨s0, hs0, zs0, rs0⟩ := cat_rule k.s u0 6 22 (kS_size hn) zu0 (by omega)
  obtain ⟨u1, hu1, zu1, ru1⟩ := cat_rule ⟨#[32, 114]⟩ (itS o.a) 2 20 (by decide) (itS_size o.a (by omega) (by omega)) (by omega)
  obtain ⟨s1, hs1, zs1, rs1⟩ := cat_rule s0 u1 28 22 zs0 zu1 (by omega)
  obtain ⟨u2, hu2, zu2, ru2⟩ := cat_rule ⟨#[32, 114]⟩ (itS o.b) 2 20 (by decide) (itS_size o.b (by omega) (by omega)) (by omega)
  obtain ⟨s2, hs2, zs2, rs2⟩ := cat_rule s1 u2 50 22 zs1 zu2 (by omega)
  obtain ⟨u3, hu3, zu3, ru3⟩ := cat_rule ⟨#[32]⟩ (itS o.im) 1 20 (by decide) (itS_size o.im (by omega) (by omega)) (by omega)
  obtain ⟨s3, hs3, zs3, rs3⟩ := cat_rule s2 u3 72 21 zs2 zu3 (by omega)
  have HX : Hid (s3 = ⟨(textL k o).toArray⟩) := by
    show _ = _
    apply ba_eq
    rw [hs3, hu3, hs2, hu2, hs1, hu1, hs0, hu0]
    simp [textL, pD, pA, pB, pI, hD, hA, hB, hI, itS, K.s]
  clear hn hu0 zu0 hs0 zs0 hu1 zu1 hs1 zs1 hu2 zu2 hs2 zs2 hu3 zu3 hs3 zs3
  rw [← HX.out]
  go_enter Tryd.func32, Tryd.ntmps32
  go_wp2_with (first | (go_at_call 43; refine Calls.mono (HC.out _) ?_; rintro e w1 ⟨rfl, hb⟩; obtain ⟨a1, hb0, hz⟩ := one_new w _ _ hb; have HB : Hid (Below w.heap.size w w1) := hb0; have HO : Hid _ := a1; obtain ⟨o0, o1, o2, o3, o4⟩ := a1.o5; clear hb hb0 a1) | (go_at_call 44; refine Calls.mono (HF.out _) ?_; rintro e w2 ⟨rfl, hb⟩; have HB2 : Hid (Below w.heap.size w w2) := HB.out.trans (hb.mono (Nat.le_of_lt hz)); obtain ⟨o0, o1, o2, o3, o4⟩ := (HO.out.below hb hz).o5; have hz2 : w.heap.size < w2.heap.size := Nat.lt_of_lt_of_le hz hb.size; clear hb) | (go_at_call 45; refine Calls.mono (refDigits_any _ _ (by first | assumption | omega) (by first | assumption | omega)) ?_; rintro e w3 ⟨rfl, hw3⟩; subst w3))
  go_ret2
  exact ⟨rfl, HB2.out.trans ((Below.refl _ _).alloc HB2.out.size _)⟩
set_option maxHeartbeats 2000000 in
theorem refText_11N0 (o : O) (k : K) (w : World) (ho : o.Ok) (hk : kOf o.op = some k) (hf : okF k o = true) (hD : k.D = true) (hA : k.A = true) (hB : k.B = false) (hN : k.N = true) (hI : k.I = false) : Calls Tryd.prog 32 #[o.val] w fun e w' => e = .returned (.tuple #[.string ⟨(textL k o).toArray⟩, .int .i64 0]) ∧ Below w.heap.size w w' := by
  have hO : okO o = true := by rw [okO_some hk]; exact hf
  have HC0 := fun w => refCheck_any o w ho
  rw [show ckE o = 0 by simp [ckE, hO]] at HC0
  have HC : Hid _ := HC0
  have HF : Hid _ := fun w => of_yes o.op k w hk
  have hn := name_len hk
  obtain ⟨-, -, d0, d1, a0, a1, b0, b1, i0', i1⟩ := ho
  clear hO hf HC0 hk
  obtain ⟨u0, hu0, zu0, ru0⟩ := cat_rule ⟨#[32, 114]⟩ (itS o.d) 2 20 (by decide) (itS_size o.d (by omega) (by omega)) (by omega)
  obtain ⟨s0, hs0, zs0, rs0⟩ := cat_rule k.s u0 6 22 (kS_size hn) zu0 (by omega)
  obtain ⟨u1, hu1, zu1, ru1⟩ := cat_rule ⟨#[32, 114]⟩ (itS o.a) 2 20 (by decide) (itS_size o.a (by omega) (by omega)) (by omega)
  obtain ⟨s1, hs1, zs1, rs1⟩ := cat_rule s0 u1 28 22 zs0 zu1 (by omega)
  obtain ⟨u2, hu2, zu2, ru2⟩ := cat_rule ⟨#[32]⟩ (itS o.b) 1 20 (by decide) (itS_size o.b (by omega) (by omega)) (by omega)
  obtain ⟨s2, hs2, zs2, rs2⟩ := cat_rule s1 u2 50 21 zs1 zu2 (by omega)
  have HX : Hid (s2 = ⟨(textL k o).toArray⟩) := by
    show _ = _
    apply ba_eq
    rw [hs2, hu2, hs1, hu1, hs0, hu0]
    simp [textL, pD, pA, pB, pI, hD, hA, hB, hN, hI, itS, K.s]
  clear hn hu0 zu0 hs0 zs0 hu1 zu1 hs1 zs1 hu2 zu2 hs2 zs2
  rw [← HX.out]
  go_enter Tryd.func32, Tryd.ntmps32
  go_wp2_with (first | (go_at_call 43; refine Calls.mono (HC.out _) ?_; rintro e w1 ⟨rfl, hb⟩; obtain ⟨a1, hb0, hz⟩ := one_new w _ _ hb; have HB : Hid (Below w.heap.size w w1) := hb0; have HO : Hid _ := a1; obtain ⟨o0, o1, o2, o3, o4⟩ := a1.o5; clear hb hb0 a1) | (go_at_call 44; refine Calls.mono (HF.out _) ?_; rintro e w2 ⟨rfl, hb⟩; have HB2 : Hid (Below w.heap.size w w2) := HB.out.trans (hb.mono (Nat.le_of_lt hz)); obtain ⟨o0, o1, o2, o3, o4⟩ := (HO.out.below hb hz).o5; have hz2 : w.heap.size < w2.heap.size := Nat.lt_of_lt_of_le hz hb.size; clear hb) | (go_at_call 45; refine Calls.mono (refDigits_any _ _ (by first | assumption | omega) (by first | assumption | omega)) ?_; rintro e w3 ⟨rfl, hw3⟩; subst w3))
  go_ret2
  exact ⟨rfl, HB2.out.trans ((Below.refl _ _).alloc HB2.out.size _)⟩
set_option maxHeartbeats 2000000 in
theorem refText_11N1 (o : O) (k : K) (w : World) (ho : o.Ok) (hk : kOf o.op = some k) (hf : okF k o = true) (hD : k.D = true) (hA : k.A = true) (hB : k.B = false) (hN : k.N = true) (hI : k.I = true) : Calls Tryd.prog 32 #[o.val] w fun e w' => e = .returned (.tuple #[.string ⟨(textL k o).toArray⟩, .int .i64 0]) ∧ Below w.heap.size w w' := by
  have hO : okO o = true := by rw [okO_some hk]; exact hf
  have HC0 := fun w => refCheck_any o w ho
  rw [show ckE o = 0 by simp [ckE, hO]] at HC0
  have HC : Hid _ := HC0
  have HF : Hid _ := fun w => of_yes o.op k w hk
  have hn := name_len hk
  obtain ⟨-, -, d0, d1, a0, a1, b0, b1, i0', i1⟩ := ho
  clear hO hf HC0 hk
  obtain ⟨u0, hu0, zu0, ru0⟩ := cat_rule ⟨#[32, 114]⟩ (itS o.d) 2 20 (by decide) (itS_size o.d (by omega) (by omega)) (by omega)
  obtain ⟨s0, hs0, zs0, rs0⟩ := cat_rule k.s u0 6 22 (kS_size hn) zu0 (by omega)
  obtain ⟨u1, hu1, zu1, ru1⟩ := cat_rule ⟨#[32, 114]⟩ (itS o.a) 2 20 (by decide) (itS_size o.a (by omega) (by omega)) (by omega)
  obtain ⟨s1, hs1, zs1, rs1⟩ := cat_rule s0 u1 28 22 zs0 zu1 (by omega)
  obtain ⟨u2, hu2, zu2, ru2⟩ := cat_rule ⟨#[32]⟩ (itS o.b) 1 20 (by decide) (itS_size o.b (by omega) (by omega)) (by omega)
  obtain ⟨s2, hs2, zs2, rs2⟩ := cat_rule s1 u2 50 21 zs1 zu2 (by omega)
  obtain ⟨u3, hu3, zu3, ru3⟩ := cat_rule ⟨#[32]⟩ (itS o.im) 1 20 (by decide) (itS_size o.im (by omega) (by omega)) (by omega)
  obtain ⟨s3, hs3, zs3, rs3⟩ := cat_rule s2 u3 71 21 zs2 zu3 (by omega)
  have HX : Hid (s3 = ⟨(textL k o).toArray⟩) := by
    show _ = _
    apply ba_eq
    rw [hs3, hu3, hs2, hu2, hs1, hu1, hs0, hu0]
    simp [textL, pD, pA, pB, pI, hD, hA, hB, hN, hI, itS, K.s]
  clear hn hu0 zu0 hs0 zs0 hu1 zu1 hs1 zs1 hu2 zu2 hs2 zs2 hu3 zu3 hs3 zs3
  rw [← HX.out]
  go_enter Tryd.func32, Tryd.ntmps32
  go_wp2_with (first | (go_at_call 43; refine Calls.mono (HC.out _) ?_; rintro e w1 ⟨rfl, hb⟩; obtain ⟨a1, hb0, hz⟩ := one_new w _ _ hb; have HB : Hid (Below w.heap.size w w1) := hb0; have HO : Hid _ := a1; obtain ⟨o0, o1, o2, o3, o4⟩ := a1.o5; clear hb hb0 a1) | (go_at_call 44; refine Calls.mono (HF.out _) ?_; rintro e w2 ⟨rfl, hb⟩; have HB2 : Hid (Below w.heap.size w w2) := HB.out.trans (hb.mono (Nat.le_of_lt hz)); obtain ⟨o0, o1, o2, o3, o4⟩ := (HO.out.below hb hz).o5; have hz2 : w.heap.size < w2.heap.size := Nat.lt_of_lt_of_le hz hb.size; clear hb) | (go_at_call 45; refine Calls.mono (refDigits_any _ _ (by first | assumption | omega) (by first | assumption | omega)) ?_; rintro e w3 ⟨rfl, hw3⟩; subst w3))
  go_ret2
  exact ⟨rfl, HB2.out.trans ((Below.refl _ _).alloc HB2.out.size _)⟩
set_option maxHeartbeats 2000000 in
theorem refText_1100 (o : O) (k : K) (w : World) (ho : o.Ok) (hk : kOf o.op = some k) (hf : okF k o = true) (hD : k.D = true) (hA : k.A = true) (hB : k.B = false) (hN : k.N = false) (hI : k.I = false) : Calls Tryd.prog 32 #[o.val] w fun e w' => e = .returned (.tuple #[.string ⟨(textL k o).toArray⟩, .int .i64 0]) ∧ Below w.heap.size w w' := by
  have hO : okO o = true := by rw [okO_some hk]; exact hf
  have HC0 := fun w => refCheck_any o w ho
  rw [show ckE o = 0 by simp [ckE, hO]] at HC0
  have HC : Hid _ := HC0
  have HF : Hid _ := fun w => of_yes o.op k w hk
  have hn := name_len hk
  obtain ⟨-, -, d0, d1, a0, a1, b0, b1, i0', i1⟩ := ho
  clear hO hf HC0 hk
  obtain ⟨u0, hu0, zu0, ru0⟩ := cat_rule ⟨#[32, 114]⟩ (itS o.d) 2 20 (by decide) (itS_size o.d (by omega) (by omega)) (by omega)
  obtain ⟨s0, hs0, zs0, rs0⟩ := cat_rule k.s u0 6 22 (kS_size hn) zu0 (by omega)
  obtain ⟨u1, hu1, zu1, ru1⟩ := cat_rule ⟨#[32, 114]⟩ (itS o.a) 2 20 (by decide) (itS_size o.a (by omega) (by omega)) (by omega)
  obtain ⟨s1, hs1, zs1, rs1⟩ := cat_rule s0 u1 28 22 zs0 zu1 (by omega)
  have HX : Hid (s1 = ⟨(textL k o).toArray⟩) := by
    show _ = _
    apply ba_eq
    rw [hs1, hu1, hs0, hu0]
    simp [textL, pD, pA, pB, pI, hD, hA, hB, hN, hI, itS, K.s]
  clear hn hu0 zu0 hs0 zs0 hu1 zu1 hs1 zs1
  rw [← HX.out]
  go_enter Tryd.func32, Tryd.ntmps32
  go_wp2_with (first | (go_at_call 43; refine Calls.mono (HC.out _) ?_; rintro e w1 ⟨rfl, hb⟩; obtain ⟨a1, hb0, hz⟩ := one_new w _ _ hb; have HB : Hid (Below w.heap.size w w1) := hb0; have HO : Hid _ := a1; obtain ⟨o0, o1, o2, o3, o4⟩ := a1.o5; clear hb hb0 a1) | (go_at_call 44; refine Calls.mono (HF.out _) ?_; rintro e w2 ⟨rfl, hb⟩; have HB2 : Hid (Below w.heap.size w w2) := HB.out.trans (hb.mono (Nat.le_of_lt hz)); obtain ⟨o0, o1, o2, o3, o4⟩ := (HO.out.below hb hz).o5; have hz2 : w.heap.size < w2.heap.size := Nat.lt_of_lt_of_le hz hb.size; clear hb) | (go_at_call 45; refine Calls.mono (refDigits_any _ _ (by first | assumption | omega) (by first | assumption | omega)) ?_; rintro e w3 ⟨rfl, hw3⟩; subst w3))
  go_ret2
  exact ⟨rfl, HB2.out.trans ((Below.refl _ _).alloc HB2.out.size _)⟩
set_option maxHeartbeats 2000000 in
theorem refText_1101 (o : O) (k : K) (w : World) (ho : o.Ok) (hk : kOf o.op = some k) (hf : okF k o = true) (hD : k.D = true) (hA : k.A = true) (hB : k.B = false) (hN : k.N = false) (hI : k.I = true) : Calls Tryd.prog 32 #[o.val] w fun e w' => e = .returned (.tuple #[.string ⟨(textL k o).toArray⟩, .int .i64 0]) ∧ Below w.heap.size w w' := by
  have hO : okO o = true := by rw [okO_some hk]; exact hf
  have HC0 := fun w => refCheck_any o w ho
  rw [show ckE o = 0 by simp [ckE, hO]] at HC0
  have HC : Hid _ := HC0
  have HF : Hid _ := fun w => of_yes o.op k w hk
  have hn := name_len hk
  obtain ⟨-, -, d0, d1, a0, a1, b0, b1, i0', i1⟩ := ho
  clear hO hf HC0 hk
  obtain ⟨u0, hu0, zu0, ru0⟩ := cat_rule ⟨#[32, 114]⟩ (itS o.d) 2 20 (by decide) (itS_size o.d (by omega) (by omega)) (by omega)
  obtain ⟨s0, hs0, zs0, rs0⟩ := cat_rule k.s u0 6 22 (kS_size hn) zu0 (by omega)
  obtain ⟨u1, hu1, zu1, ru1⟩ := cat_rule ⟨#[32, 114]⟩ (itS o.a) 2 20 (by decide) (itS_size o.a (by omega) (by omega)) (by omega)
  obtain ⟨s1, hs1, zs1, rs1⟩ := cat_rule s0 u1 28 22 zs0 zu1 (by omega)
  obtain ⟨u2, hu2, zu2, ru2⟩ := cat_rule ⟨#[32]⟩ (itS o.im) 1 20 (by decide) (itS_size o.im (by omega) (by omega)) (by omega)
  obtain ⟨s2, hs2, zs2, rs2⟩ := cat_rule s1 u2 50 21 zs1 zu2 (by omega)
  have HX : Hid (s2 = ⟨(textL k o).toArray⟩) := by
    show _ = _
    apply ba_eq
    rw [hs2, hu2, hs1, hu1, hs0, hu0]
    simp [textL, pD, pA, pB, pI, hD, hA, hB, hN, hI, itS, K.s]
  clear hn hu0 zu0 hs0 zs0 hu1 zu1 hs1 zs1 hu2 zu2 hs2 zs2
  rw [← HX.out]
  go_enter Tryd.func32, Tryd.ntmps32
  go_wp2_with (first | (go_at_call 43; refine Calls.mono (HC.out _) ?_; rintro e w1 ⟨rfl, hb⟩; obtain ⟨a1, hb0, hz⟩ := one_new w _ _ hb; have HB : Hid (Below w.heap.size w w1) := hb0; have HO : Hid _ := a1; obtain ⟨o0, o1, o2, o3, o4⟩ := a1.o5; clear hb hb0 a1) | (go_at_call 44; refine Calls.mono (HF.out _) ?_; rintro e w2 ⟨rfl, hb⟩; have HB2 : Hid (Below w.heap.size w w2) := HB.out.trans (hb.mono (Nat.le_of_lt hz)); obtain ⟨o0, o1, o2, o3, o4⟩ := (HO.out.below hb hz).o5; have hz2 : w.heap.size < w2.heap.size := Nat.lt_of_lt_of_le hz hb.size; clear hb) | (go_at_call 45; refine Calls.mono (refDigits_any _ _ (by first | assumption | omega) (by first | assumption | omega)) ?_; rintro e w3 ⟨rfl, hw3⟩; subst w3))
  go_ret2
  exact ⟨rfl, HB2.out.trans ((Below.refl _ _).alloc HB2.out.size _)⟩
theorem bn_all : (kindL.all fun k => !(k.B && k.N)) = true := by decide
theorem refText_yes (o : O) (k : K) (w : World) (ho : o.Ok) (hk : kOf o.op = some k) (hf : okF k o = true) : Calls Tryd.prog 32 #[o.val] w fun e w' => e = .returned (.tuple #[.string ⟨(textL k o).toArray⟩, .int .i64 0]) ∧ Below w.heap.size w w' := by
  have hbn : k.B = true → k.N = false := by
    obtain ⟨n, hn, -, rfl⟩ := kOf_some hk
    have := List.all_eq_true.1 bn_all _ (List.getElem_mem (l := kindL) hn)
    intro hB
    simp [hB] at this
    exact this
  cases hD : k.D <;> cases hA : k.A <;> cases hB : k.B <;> cases hI : k.I <;> cases hN : k.N
  · exact refText_0000 o k w ho hk hf hD hA hB hN hI
  · exact refText_00N0 o k w ho hk hf hD hA hB hN hI
  · exact refText_0001 o k w ho hk hf hD hA hB hN hI
  · exact refText_00N1 o k w ho hk hf hD hA hB hN hI
  · exact refText_00B0 o k w ho hk hf hD hA hB hN hI
  · rw [hbn hB] at hN; cases hN
  · exact refText_00B1 o k w ho hk hf hD hA hB hN hI
  · rw [hbn hB] at hN; cases hN
  · exact refText_0100 o k w ho hk hf hD hA hB hN hI
  · exact refText_01N0 o k w ho hk hf hD hA hB hN hI
  · exact refText_0101 o k w ho hk hf hD hA hB hN hI
  · exact refText_01N1 o k w ho hk hf hD hA hB hN hI
  · exact refText_01B0 o k w ho hk hf hD hA hB hN hI
  · rw [hbn hB] at hN; cases hN
  · exact refText_01B1 o k w ho hk hf hD hA hB hN hI
  · rw [hbn hB] at hN; cases hN
  · exact refText_1000 o k w ho hk hf hD hA hB hN hI
  · exact refText_10N0 o k w ho hk hf hD hA hB hN hI
  · exact refText_1001 o k w ho hk hf hD hA hB hN hI
  · exact refText_10N1 o k w ho hk hf hD hA hB hN hI
  · exact refText_10B0 o k w ho hk hf hD hA hB hN hI
  · rw [hbn hB] at hN; cases hN
  · exact refText_10B1 o k w ho hk hf hD hA hB hN hI
  · rw [hbn hB] at hN; cases hN
  · exact refText_1100 o k w ho hk hf hD hA hB hN hI
  · exact refText_11N0 o k w ho hk hf hD hA hB hN hI
  · exact refText_1101 o k w ho hk hf hD hA hB hN hI
  · exact refText_11N1 o k w ho hk hf hD hA hB hN hI
  · exact refText_11B0 o k w ho hk hf hD hA hB hN hI
  · rw [hbn hB] at hN; cases hN
  · exact refText_11B1 o k w ho hk hf hD hA hB hN hI
  · rw [hbn hB] at hN; cases hN
end Go.Proofs.YthjpddjfckdefaaDoor.Op
