/- The statement that fields keep what is put into them, its ways one by one: no field; a field, and the other one is none, meets it, or lies beside it. Conditions: words from 0 to 2^64 - 1. -/
import Derived.Test.YtoejiloflclpdaaLaws
namespace Go.Proofs.Ytoejiloflclpdaa.Bt
open Go.ChangeShapes Go.WideShapes Go.ChangeAt Go.RowKit

theorem back_none (a0 a1 a2 a3 a4 a5 a6 : Int) (w : World) (b0 : 0 ≤ a0) (b1 : a0 < 18446744073709551616) (c0 : 0 ≤ a3) (hf : fieldB a1 a2 = false) :
    Calls Try.prog 4 #[.int .u64 a0, .int .i64 a1, .int .i64 a2, .int .u64 a3, .int .i64 a4, .int .i64 a5, .int .u64 a6] w fun e w' => e = .returned (.bool true) ∧ Grown w w' := by
  have q : (putI a0 a1 a2 a3 == a0) = true := by rw [putI_not _ _ _ _ hf]; exact beq_self_eq_true _
  have hn : ¬ (1 ≤ a2 ∧ a2 ≤ 64 ∧ 0 ≤ a1 ∧ a1 ≤ 64 - a2) := by rw [← field_iff, hf]; decide
  clear hf
  by_cases h1 : a2 < 1
  · clear hn
    go_enter Try.func4, Try.ntmps4
    go_wp2_with (first
      | (go_at_call 6; refine (put_any _ _ _ _ _ (by omega) (by omega) (by omega)).mono ?_; rintro e w' ⟨rfl, rfl⟩)
      | (go_at_call 8; refine (get_any _ _ _ _ (by omega) (by omega)).mono ?_; rintro e w' ⟨rfl, rfl⟩)
      | (go_at_call 14; refine (wakes_any _).mono ?_; rintro e w' ⟨rfl, rfl⟩))
    go_ret
    exact ⟨rfl, Grown.refl _⟩
  · by_cases h2 : 64 < a2
    · clear hn
      go_enter Try.func4, Try.ntmps4
      go_wp2_with (first
        | (go_at_call 6; refine (put_any _ _ _ _ _ (by omega) (by omega) (by omega)).mono ?_; rintro e w' ⟨rfl, rfl⟩)
        | (go_at_call 8; refine (get_any _ _ _ _ (by omega) (by omega)).mono ?_; rintro e w' ⟨rfl, rfl⟩)
        | (go_at_call 14; refine (wakes_any _).mono ?_; rintro e w' ⟨rfl, rfl⟩))
      go_ret
      exact ⟨rfl, Grown.refl _⟩
    · by_cases h3 : a1 < 0
      · clear hn
        go_enter Try.func4, Try.ntmps4
        go_wp2_with (first
          | (go_at_call 6; refine (put_any _ _ _ _ _ (by omega) (by omega) (by omega)).mono ?_; rintro e w' ⟨rfl, rfl⟩)
          | (go_at_call 8; refine (get_any _ _ _ _ (by omega) (by omega)).mono ?_; rintro e w' ⟨rfl, rfl⟩)
          | (go_at_call 14; refine (wakes_any _).mono ?_; rintro e w' ⟨rfl, rfl⟩))
        go_ret
        exact ⟨rfl, Grown.refl _⟩
      · have h4 : 64 - a2 < a1 := by omega
        clear hn
        go_enter Try.func4, Try.ntmps4
        go_wp2_with (first
          | (go_at_call 6; refine (put_any _ _ _ _ _ (by omega) (by omega) (by omega)).mono ?_; rintro e w' ⟨rfl, rfl⟩)
          | (go_at_call 8; refine (get_any _ _ _ _ (by omega) (by omega)).mono ?_; rintro e w' ⟨rfl, rfl⟩)
          | (go_at_call 14; refine (wakes_any _).mono ?_; rintro e w' ⟨rfl, rfl⟩))
        go_ret
        exact ⟨rfl, Grown.refl _⟩

theorem back_lo_k1 (a0 a1 a2 a3 a4 a5 a6 : Int) (w : World) (b0 : 0 ≤ a0) (b1 : a0 < 18446744073709551616) (c0 : 0 ≤ a3) (c1 : a3 < 18446744073709551616) (hf : fieldB a1 a2 = true) (hn : a2 < 64) (g : a5 < 1) :
    Calls Try.prog 4 #[.int .u64 a0, .int .i64 a1, .int .i64 a2, .int .u64 a3, .int .i64 a4, .int .i64 a5, .int .u64 a6] w fun e w' => e = .returned (.bool true) ∧ Grown w w' := by
  have q : (getI (putI a0 a1 a2 a3) a1 a2 != bits BinOp.and IntKind.u64 a3 (IntKind.u64.wrap (IntKind.u64.wrap (2 ^ a2.toNat) - 1))) = false := by
    rw [back_some a0 a1 a2 a3 c0 c1 hf hn]; simp
  have p0 := putI_lo a0 a1 a2 a3 b0
  have p1 := putI_hi a0 a1 a2 a3 b0 b1
  obtain ⟨h1, h2, h3, h4⟩ := (field_iff a1 a2).1 hf
  clear hf
  go_enter Try.func4, Try.ntmps4
  go_wp2_with (first
    | (go_at_call 6; refine (put_any _ _ _ _ _ (by omega) (by omega) (by omega)).mono ?_; rintro e w' ⟨rfl, rfl⟩)
    | (go_at_call 8; refine (get_any _ _ _ _ (by omega) (by omega)).mono ?_; rintro e w' ⟨rfl, rfl⟩)
    | (go_at_call 14; refine (wakes_any _).mono ?_; rintro e w' ⟨rfl, rfl⟩))
  go_ret
  exact ⟨rfl, Grown.refl _⟩

theorem back_lo_k2 (a0 a1 a2 a3 a4 a5 a6 : Int) (w : World) (b0 : 0 ≤ a0) (b1 : a0 < 18446744073709551616) (c0 : 0 ≤ a3) (c1 : a3 < 18446744073709551616) (hf : fieldB a1 a2 = true) (hn : a2 < 64) (g0 : 1 ≤ a5) (g : 64 < a5) :
    Calls Try.prog 4 #[.int .u64 a0, .int .i64 a1, .int .i64 a2, .int .u64 a3, .int .i64 a4, .int .i64 a5, .int .u64 a6] w fun e w' => e = .returned (.bool true) ∧ Grown w w' := by
  have q : (getI (putI a0 a1 a2 a3) a1 a2 != bits BinOp.and IntKind.u64 a3 (IntKind.u64.wrap (IntKind.u64.wrap (2 ^ a2.toNat) - 1))) = false := by
    rw [back_some a0 a1 a2 a3 c0 c1 hf hn]; simp
  have p0 := putI_lo a0 a1 a2 a3 b0
  have p1 := putI_hi a0 a1 a2 a3 b0 b1
  obtain ⟨h1, h2, h3, h4⟩ := (field_iff a1 a2).1 hf
  clear hf
  go_enter Try.func4, Try.ntmps4
  go_wp2_with (first
    | (go_at_call 6; refine (put_any _ _ _ _ _ (by omega) (by omega) (by omega)).mono ?_; rintro e w' ⟨rfl, rfl⟩)
    | (go_at_call 8; refine (get_any _ _ _ _ (by omega) (by omega)).mono ?_; rintro e w' ⟨rfl, rfl⟩)
    | (go_at_call 14; refine (wakes_any _).mono ?_; rintro e w' ⟨rfl, rfl⟩))
  go_ret
  exact ⟨rfl, Grown.refl _⟩

theorem back_lo_t1 (a0 a1 a2 a3 a4 a5 a6 : Int) (w : World) (b0 : 0 ≤ a0) (b1 : a0 < 18446744073709551616) (c0 : 0 ≤ a3) (c1 : a3 < 18446744073709551616) (hf : fieldB a1 a2 = true) (hn : a2 < 64) (g0 : 1 ≤ a5) (g1 : a5 ≤ 64) (g : a4 < 0) :
    Calls Try.prog 4 #[.int .u64 a0, .int .i64 a1, .int .i64 a2, .int .u64 a3, .int .i64 a4, .int .i64 a5, .int .u64 a6] w fun e w' => e = .returned (.bool true) ∧ Grown w w' := by
  have q : (getI (putI a0 a1 a2 a3) a1 a2 != bits BinOp.and IntKind.u64 a3 (IntKind.u64.wrap (IntKind.u64.wrap (2 ^ a2.toNat) - 1))) = false := by
    rw [back_some a0 a1 a2 a3 c0 c1 hf hn]; simp
  have p0 := putI_lo a0 a1 a2 a3 b0
  have p1 := putI_hi a0 a1 a2 a3 b0 b1
  obtain ⟨h1, h2, h3, h4⟩ := (field_iff a1 a2).1 hf
  clear hf
  go_enter Try.func4, Try.ntmps4
  go_wp2_with (first
    | (go_at_call 6; refine (put_any _ _ _ _ _ (by omega) (by omega) (by omega)).mono ?_; rintro e w' ⟨rfl, rfl⟩)
    | (go_at_call 8; refine (get_any _ _ _ _ (by omega) (by omega)).mono ?_; rintro e w' ⟨rfl, rfl⟩)
    | (go_at_call 14; refine (wakes_any _).mono ?_; rintro e w' ⟨rfl, rfl⟩))
  go_ret
  exact ⟨rfl, Grown.refl _⟩

theorem back_lo_t2 (a0 a1 a2 a3 a4 a5 a6 : Int) (w : World) (b0 : 0 ≤ a0) (b1 : a0 < 18446744073709551616) (c0 : 0 ≤ a3) (c1 : a3 < 18446744073709551616) (hf : fieldB a1 a2 = true) (hn : a2 < 64) (g0 : 1 ≤ a5) (g1 : a5 ≤ 64) (g2 : 0 ≤ a4) (g : 64 - a5 < a4) :
    Calls Try.prog 4 #[.int .u64 a0, .int .i64 a1, .int .i64 a2, .int .u64 a3, .int .i64 a4, .int .i64 a5, .int .u64 a6] w fun e w' => e = .returned (.bool true) ∧ Grown w w' := by
  have q : (getI (putI a0 a1 a2 a3) a1 a2 != bits BinOp.and IntKind.u64 a3 (IntKind.u64.wrap (IntKind.u64.wrap (2 ^ a2.toNat) - 1))) = false := by
    rw [back_some a0 a1 a2 a3 c0 c1 hf hn]; simp
  have p0 := putI_lo a0 a1 a2 a3 b0
  have p1 := putI_hi a0 a1 a2 a3 b0 b1
  obtain ⟨h1, h2, h3, h4⟩ := (field_iff a1 a2).1 hf
  clear hf
  go_enter Try.func4, Try.ntmps4
  go_wp2_with (first
    | (go_at_call 6; refine (put_any _ _ _ _ _ (by omega) (by omega) (by omega)).mono ?_; rintro e w' ⟨rfl, rfl⟩)
    | (go_at_call 8; refine (get_any _ _ _ _ (by omega) (by omega)).mono ?_; rintro e w' ⟨rfl, rfl⟩)
    | (go_at_call 14; refine (wakes_any _).mono ?_; rintro e w' ⟨rfl, rfl⟩))
  go_ret
  exact ⟨rfl, Grown.refl _⟩

theorem back_lo_meet (a0 a1 a2 a3 a4 a5 a6 : Int) (w : World) (b0 : 0 ≤ a0) (b1 : a0 < 18446744073709551616) (c0 : 0 ≤ a3) (c1 : a3 < 18446744073709551616) (hf : fieldB a1 a2 = true) (hn : a2 < 64) (g0 : 1 ≤ a5) (g1 : a5 ≤ 64) (g2 : 0 ≤ a4) (g3 : a4 ≤ 64 - a5) (g4 : a4 < a1 + a2) (g : a1 < a4 + a5) :
    Calls Try.prog 4 #[.int .u64 a0, .int .i64 a1, .int .i64 a2, .int .u64 a3, .int .i64 a4, .int .i64 a5, .int .u64 a6] w fun e w' => e = .returned (.bool true) ∧ Grown w w' := by
  have q : (getI (putI a0 a1 a2 a3) a1 a2 != bits BinOp.and IntKind.u64 a3 (IntKind.u64.wrap (IntKind.u64.wrap (2 ^ a2.toNat) - 1))) = false := by
    rw [back_some a0 a1 a2 a3 c0 c1 hf hn]; simp
  have p0 := putI_lo a0 a1 a2 a3 b0
  have p1 := putI_hi a0 a1 a2 a3 b0 b1
  obtain ⟨h1, h2, h3, h4⟩ := (field_iff a1 a2).1 hf
  clear hf
  go_enter Try.func4, Try.ntmps4
  go_wp2_with (first
    | (go_at_call 6; refine (put_any _ _ _ _ _ (by omega) (by omega) (by omega)).mono ?_; rintro e w' ⟨rfl, rfl⟩)
    | (go_at_call 8; refine (get_any _ _ _ _ (by omega) (by omega)).mono ?_; rintro e w' ⟨rfl, rfl⟩)
    | (go_at_call 14; refine (wakes_any _).mono ?_; rintro e w' ⟨rfl, rfl⟩))
  go_ret
  exact ⟨rfl, Grown.refl _⟩

theorem back_lo_right (a0 a1 a2 a3 a4 a5 a6 : Int) (w : World) (b0 : 0 ≤ a0) (b1 : a0 < 18446744073709551616) (c0 : 0 ≤ a3) (c1 : a3 < 18446744073709551616) (d0 : 0 ≤ a6) (hf : fieldB a1 a2 = true) (hn : a2 < 64) (hg : fieldB a4 a5 = true) (g0 : 1 ≤ a5) (g1 : a5 ≤ 64) (g2 : 0 ≤ a4) (g3 : a4 ≤ 64 - a5) (g : a1 + a2 ≤ a4) :
    Calls Try.prog 4 #[.int .u64 a0, .int .i64 a1, .int .i64 a2, .int .u64 a3, .int .i64 a4, .int .i64 a5, .int .u64 a6] w fun e w' => e = .returned (.bool true) ∧ Grown w w' := by
  have q : (getI (putI a0 a1 a2 a3) a1 a2 != bits BinOp.and IntKind.u64 a3 (IntKind.u64.wrap (IntKind.u64.wrap (2 ^ a2.toNat) - 1))) = false := by
    rw [back_some a0 a1 a2 a3 c0 c1 hf hn]; simp
  have p0 := putI_lo a0 a1 a2 a3 b0
  have p1 := putI_hi a0 a1 a2 a3 b0 b1
  obtain ⟨h1, h2, h3, h4⟩ := (field_iff a1 a2).1 hf
  have r1 : (getI (putI a0 a1 a2 a3) a4 a5 == getI a0 a4 a5) = true := by rw [beside a0 a1 a2 a3 a4 a5 hf hg (Or.inl g)]; exact beq_self_eq_true _
  have r2 : (getI (putI (putI a0 a1 a2 a3) a4 a5 a6) a1 a2 == getI (putI a0 a1 a2 a3) a1 a2) = true := by rw [beside (putI a0 a1 a2 a3) a4 a5 a6 a1 a2 hg hf (by omega)]; exact beq_self_eq_true _
  have r3 : (putI (putI a0 a1 a2 a3) a4 a5 a6 == putI (putI a0 a4 a5 a6) a1 a2 a3) = true := by rw [order a0 a1 a2 a3 a4 a5 a6 hf hg (Or.inl g)]; exact beq_self_eq_true _
  have p2 := putI_lo (putI a0 a1 a2 a3) a4 a5 a6 p0
  have p3 := putI_hi (putI a0 a1 a2 a3) a4 a5 a6 p0 p1
  have p4 := putI_lo a0 a4 a5 a6 b0
  have p5 := putI_hi a0 a4 a5 a6 b0 b1
  clear hf hg
  go_enter Try.func4, Try.ntmps4
  go_wp2_with (first
    | (go_at_call 6; refine (put_any _ _ _ _ _ (by omega) (by omega) (by omega)).mono ?_; rintro e w' ⟨rfl, rfl⟩)
    | (go_at_call 8; refine (get_any _ _ _ _ (by omega) (by omega)).mono ?_; rintro e w' ⟨rfl, rfl⟩)
    | (go_at_call 14; refine (wakes_any _).mono ?_; rintro e w' ⟨rfl, rfl⟩))
  go_ret
  exact ⟨rfl, Grown.refl _⟩

theorem back_lo_left (a0 a1 a2 a3 a4 a5 a6 : Int) (w : World) (b0 : 0 ≤ a0) (b1 : a0 < 18446744073709551616) (c0 : 0 ≤ a3) (c1 : a3 < 18446744073709551616) (d0 : 0 ≤ a6) (hf : fieldB a1 a2 = true) (hn : a2 < 64) (hg : fieldB a4 a5 = true) (g0 : 1 ≤ a5) (g1 : a5 ≤ 64) (g2 : 0 ≤ a4) (g3 : a4 ≤ 64 - a5) (g4 : a4 < a1 + a2) (g : a4 + a5 ≤ a1) :
    Calls Try.prog 4 #[.int .u64 a0, .int .i64 a1, .int .i64 a2, .int .u64 a3, .int .i64 a4, .int .i64 a5, .int .u64 a6] w fun e w' => e = .returned (.bool true) ∧ Grown w w' := by
  have q : (getI (putI a0 a1 a2 a3) a1 a2 != bits BinOp.and IntKind.u64 a3 (IntKind.u64.wrap (IntKind.u64.wrap (2 ^ a2.toNat) - 1))) = false := by
    rw [back_some a0 a1 a2 a3 c0 c1 hf hn]; simp
  have p0 := putI_lo a0 a1 a2 a3 b0
  have p1 := putI_hi a0 a1 a2 a3 b0 b1
  obtain ⟨h1, h2, h3, h4⟩ := (field_iff a1 a2).1 hf
  have r1 : (getI (putI a0 a1 a2 a3) a4 a5 == getI a0 a4 a5) = true := by rw [beside a0 a1 a2 a3 a4 a5 hf hg (Or.inr g)]; exact beq_self_eq_true _
  have r2 : (getI (putI (putI a0 a1 a2 a3) a4 a5 a6) a1 a2 == getI (putI a0 a1 a2 a3) a1 a2) = true := by rw [beside (putI a0 a1 a2 a3) a4 a5 a6 a1 a2 hg hf (by omega)]; exact beq_self_eq_true _
  have r3 : (putI (putI a0 a1 a2 a3) a4 a5 a6 == putI (putI a0 a4 a5 a6) a1 a2 a3) = true := by rw [order a0 a1 a2 a3 a4 a5 a6 hf hg (Or.inr g)]; exact beq_self_eq_true _
  have p2 := putI_lo (putI a0 a1 a2 a3) a4 a5 a6 p0
  have p3 := putI_hi (putI a0 a1 a2 a3) a4 a5 a6 p0 p1
  have p4 := putI_lo a0 a4 a5 a6 b0
  have p5 := putI_hi a0 a4 a5 a6 b0 b1
  clear hf hg
  go_enter Try.func4, Try.ntmps4
  go_wp2_with (first
    | (go_at_call 6; refine (put_any _ _ _ _ _ (by omega) (by omega) (by omega)).mono ?_; rintro e w' ⟨rfl, rfl⟩)
    | (go_at_call 8; refine (get_any _ _ _ _ (by omega) (by omega)).mono ?_; rintro e w' ⟨rfl, rfl⟩)
    | (go_at_call 14; refine (wakes_any _).mono ?_; rintro e w' ⟨rfl, rfl⟩))
  go_ret
  exact ⟨rfl, Grown.refl _⟩

theorem back_hi_k1 (a0 a3 a4 a5 a6 : Int) (w : World) (b0 : 0 ≤ a0) (b1 : a0 < 18446744073709551616) (c0 : 0 ≤ a3) (c1 : a3 < 18446744073709551616) (g : a5 < 1) :
    Calls Try.prog 4 #[.int .u64 a0, .int .i64 0, .int .i64 64, .int .u64 a3, .int .i64 a4, .int .i64 a5, .int .u64 a6] w fun e w' => e = .returned (.bool true) ∧ Grown w w' := by
  have q : (putI a0 0 64 a3 != a3) = false := by rw [back_whole a0 0 64 a3 b0 b1 c0 c1 (by decide) rfl]; simp
  go_enter Try.func4, Try.ntmps4
  go_wp2_with (first
    | (go_at_call 6; refine (put_any _ _ _ _ _ (by omega) (by omega) (by omega)).mono ?_; rintro e w' ⟨rfl, rfl⟩)
    | (go_at_call 8; refine (get_any _ _ _ _ (by omega) (by omega)).mono ?_; rintro e w' ⟨rfl, rfl⟩)
    | (go_at_call 14; refine (wakes_any _).mono ?_; rintro e w' ⟨rfl, rfl⟩))
  go_ret
  exact ⟨rfl, Grown.refl _⟩

theorem back_hi_k2 (a0 a3 a4 a5 a6 : Int) (w : World) (b0 : 0 ≤ a0) (b1 : a0 < 18446744073709551616) (c0 : 0 ≤ a3) (c1 : a3 < 18446744073709551616) (g0 : 1 ≤ a5) (g : 64 < a5) :
    Calls Try.prog 4 #[.int .u64 a0, .int .i64 0, .int .i64 64, .int .u64 a3, .int .i64 a4, .int .i64 a5, .int .u64 a6] w fun e w' => e = .returned (.bool true) ∧ Grown w w' := by
  have q : (putI a0 0 64 a3 != a3) = false := by rw [back_whole a0 0 64 a3 b0 b1 c0 c1 (by decide) rfl]; simp
  go_enter Try.func4, Try.ntmps4
  go_wp2_with (first
    | (go_at_call 6; refine (put_any _ _ _ _ _ (by omega) (by omega) (by omega)).mono ?_; rintro e w' ⟨rfl, rfl⟩)
    | (go_at_call 8; refine (get_any _ _ _ _ (by omega) (by omega)).mono ?_; rintro e w' ⟨rfl, rfl⟩)
    | (go_at_call 14; refine (wakes_any _).mono ?_; rintro e w' ⟨rfl, rfl⟩))
  go_ret
  exact ⟨rfl, Grown.refl _⟩

theorem back_hi_t1 (a0 a3 a4 a5 a6 : Int) (w : World) (b0 : 0 ≤ a0) (b1 : a0 < 18446744073709551616) (c0 : 0 ≤ a3) (c1 : a3 < 18446744073709551616) (g0 : 1 ≤ a5) (g1 : a5 ≤ 64) (g : a4 < 0) :
    Calls Try.prog 4 #[.int .u64 a0, .int .i64 0, .int .i64 64, .int .u64 a3, .int .i64 a4, .int .i64 a5, .int .u64 a6] w fun e w' => e = .returned (.bool true) ∧ Grown w w' := by
  have q : (putI a0 0 64 a3 != a3) = false := by rw [back_whole a0 0 64 a3 b0 b1 c0 c1 (by decide) rfl]; simp
  go_enter Try.func4, Try.ntmps4
  go_wp2_with (first
    | (go_at_call 6; refine (put_any _ _ _ _ _ (by omega) (by omega) (by omega)).mono ?_; rintro e w' ⟨rfl, rfl⟩)
    | (go_at_call 8; refine (get_any _ _ _ _ (by omega) (by omega)).mono ?_; rintro e w' ⟨rfl, rfl⟩)
    | (go_at_call 14; refine (wakes_any _).mono ?_; rintro e w' ⟨rfl, rfl⟩))
  go_ret
  exact ⟨rfl, Grown.refl _⟩

theorem back_hi_t2 (a0 a3 a4 a5 a6 : Int) (w : World) (b0 : 0 ≤ a0) (b1 : a0 < 18446744073709551616) (c0 : 0 ≤ a3) (c1 : a3 < 18446744073709551616) (g0 : 1 ≤ a5) (g1 : a5 ≤ 64) (g2 : 0 ≤ a4) (g : 64 - a5 < a4) :
    Calls Try.prog 4 #[.int .u64 a0, .int .i64 0, .int .i64 64, .int .u64 a3, .int .i64 a4, .int .i64 a5, .int .u64 a6] w fun e w' => e = .returned (.bool true) ∧ Grown w w' := by
  have q : (putI a0 0 64 a3 != a3) = false := by rw [back_whole a0 0 64 a3 b0 b1 c0 c1 (by decide) rfl]; simp
  go_enter Try.func4, Try.ntmps4
  go_wp2_with (first
    | (go_at_call 6; refine (put_any _ _ _ _ _ (by omega) (by omega) (by omega)).mono ?_; rintro e w' ⟨rfl, rfl⟩)
    | (go_at_call 8; refine (get_any _ _ _ _ (by omega) (by omega)).mono ?_; rintro e w' ⟨rfl, rfl⟩)
    | (go_at_call 14; refine (wakes_any _).mono ?_; rintro e w' ⟨rfl, rfl⟩))
  go_ret
  exact ⟨rfl, Grown.refl _⟩

theorem back_hi_meet (a0 a3 a4 a5 a6 : Int) (w : World) (b0 : 0 ≤ a0) (b1 : a0 < 18446744073709551616) (c0 : 0 ≤ a3) (c1 : a3 < 18446744073709551616) (g0 : 1 ≤ a5) (g1 : a5 ≤ 64) (g2 : 0 ≤ a4) (g3 : a4 ≤ 64 - a5) (g4 : a4 < 64) (g : 0 < a4 + a5) :
    Calls Try.prog 4 #[.int .u64 a0, .int .i64 0, .int .i64 64, .int .u64 a3, .int .i64 a4, .int .i64 a5, .int .u64 a6] w fun e w' => e = .returned (.bool true) ∧ Grown w w' := by
  have q : (putI a0 0 64 a3 != a3) = false := by rw [back_whole a0 0 64 a3 b0 b1 c0 c1 (by decide) rfl]; simp
  go_enter Try.func4, Try.ntmps4
  go_wp2_with (first
    | (go_at_call 6; refine (put_any _ _ _ _ _ (by omega) (by omega) (by omega)).mono ?_; rintro e w' ⟨rfl, rfl⟩)
    | (go_at_call 8; refine (get_any _ _ _ _ (by omega) (by omega)).mono ?_; rintro e w' ⟨rfl, rfl⟩)
    | (go_at_call 14; refine (wakes_any _).mono ?_; rintro e w' ⟨rfl, rfl⟩))
  go_ret
  exact ⟨rfl, Grown.refl _⟩

theorem back_all (a0 a1 a2 a3 a4 a5 a6 : Int) (w : World) (b0 : 0 ≤ a0) (b1 : a0 < 18446744073709551616) (c0 : 0 ≤ a3) (c1 : a3 < 18446744073709551616) (d0 : 0 ≤ a6) :
    Calls Try.prog 4 #[.int .u64 a0, .int .i64 a1, .int .i64 a2, .int .u64 a3, .int .i64 a4, .int .i64 a5, .int .u64 a6] w fun e w' => e = .returned (.bool true) ∧ Grown w w' := by
  cases hf : fieldB a1 a2
  · exact back_none a0 a1 a2 a3 a4 a5 a6 w b0 b1 c0 hf
  · have hf' := (field_iff a1 a2).1 hf
    by_cases hn : a2 < 64
    · by_cases g0 : a5 < 1
      · exact back_lo_k1 a0 a1 a2 a3 a4 a5 a6 w b0 b1 c0 c1 hf hn g0
      · by_cases g1 : 64 < a5
        · exact back_lo_k2 a0 a1 a2 a3 a4 a5 a6 w b0 b1 c0 c1 hf hn (by omega) g1
        · by_cases g2 : a4 < 0
          · exact back_lo_t1 a0 a1 a2 a3 a4 a5 a6 w b0 b1 c0 c1 hf hn (by omega) (by omega) g2
          · by_cases g3 : 64 - a5 < a4
            · exact back_lo_t2 a0 a1 a2 a3 a4 a5 a6 w b0 b1 c0 c1 hf hn (by omega) (by omega) (by omega) g3
            · have hg : fieldB a4 a5 = true := (field_iff a4 a5).2 (by omega)
              by_cases g4 : a4 < a1 + a2
              · by_cases g5 : a1 < a4 + a5
                · exact back_lo_meet a0 a1 a2 a3 a4 a5 a6 w b0 b1 c0 c1 hf hn (by omega) (by omega) (by omega) (by omega) g4 g5
                · exact back_lo_left a0 a1 a2 a3 a4 a5 a6 w b0 b1 c0 c1 d0 hf hn hg (by omega) (by omega) (by omega) (by omega) g4 (by omega)
              · exact back_lo_right a0 a1 a2 a3 a4 a5 a6 w b0 b1 c0 c1 d0 hf hn hg (by omega) (by omega) (by omega) (by omega) (by omega)
    · have e2 : a2 = 64 := by omega
      have e1 : a1 = 0 := by omega
      subst e2
      subst e1
      by_cases g0 : a5 < 1
      · exact back_hi_k1 a0 a3 a4 a5 a6 w b0 b1 c0 c1 g0
      · by_cases g1 : 64 < a5
        · exact back_hi_k2 a0 a3 a4 a5 a6 w b0 b1 c0 c1 (by omega) g1
        · by_cases g2 : a4 < 0
          · exact back_hi_t1 a0 a3 a4 a5 a6 w b0 b1 c0 c1 (by omega) (by omega) g2
          · by_cases g3 : 64 - a5 < a4
            · exact back_hi_t2 a0 a3 a4 a5 a6 w b0 b1 c0 c1 (by omega) (by omega) (by omega) g3
            · exact back_hi_meet a0 a3 a4 a5 a6 w b0 b1 c0 c1 (by omega) (by omega) (by omega) (by omega) (by omega) (by omega)
end Go.Proofs.Ytoejiloflclpdaa.Bt
