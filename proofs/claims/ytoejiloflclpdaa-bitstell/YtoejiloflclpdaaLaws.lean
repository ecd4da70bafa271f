/- The few words that the document's examples say, and the plain laws of fields that the statements ask, in the spelling of the walk. Conditions: the words are from 0 to 2^64 - 1; places and widths are any. -/
import Derived.Test.YtoejiloflclpdaaCalls
namespace Go.Proofs.Ytoejiloflclpdaa.Bt
open Go.ChangeShapes Go.WideShapes Go.ChangeAt Go.RowKit

theorem wakes_any (w : World) : Calls Try.prog 14 #[] w fun e w' => e = .returned (.bool true) ∧ w' = w := by
  have e1 : (putI 0 4 3 15 == 112) = true := by decide +kernel
  have e2 : (getI 112 4 3 == 7) = true := by decide +kernel
  have e3 : (sgI 7 3 == -1) = true := by decide +kernel
  have e4 : fitsI (-4) 3 = true := by decide +kernel
  have e5 : fitsI 4 3 = false := by decide +kernel
  go_enter Try.func14, Try.ntmps14
  go_wp2_with (first
    | (go_at_call 6; refine (put_any _ _ _ _ _ (by omega) (by omega) (by omega)).mono ?_; rintro e w' ⟨rfl, rfl⟩)
    | (go_at_call 8; refine (get_any _ _ _ _ (by omega) (by omega)).mono ?_; rintro e w' ⟨rfl, rfl⟩)
    | (go_at_call 10; refine (signed_any _ _ _).mono ?_; rintro e w' ⟨rfl, rfl⟩)
    | (go_at_call 12; refine (fits_any _ _ _).mono ?_; rintro e w' ⟨rfl, rfl⟩))
  go_ret
  exact ⟨rfl, rfl⟩

/-- the lowest bits of a number, put into a field and read out again, are the same number in two's complement -/
theorem sgI_wrap (x n : Int) : sgI (IntKind.u64.wrap x) n = sgI x n := by
  have h1 := cl_lo n; have h2 := cl_hi n
  unfold sgI
  rw [IntKind.wrap_u64, ← sg_mod x (cl n).toNat 64 (by omega)]
  rfl
theorem fits_sg (x n : Int) : fitsI (sgI x n) n = true := by
  have h1 := cl_lo n
  unfold fitsI sgI
  rw [decide_eq_true_eq, sg_sg _ _ (by omega)]
theorem sg_back (y n a : Int) (hf : fieldB a n = true) : sgI (getI (putI 0 a n (IntKind.u64.wrap y)) a n) n = sgI y n := by
  obtain ⟨h1, h2, h3, h4⟩ := (field_iff a n).1 hf
  rw [← sgI_wrap y n]
  have hw : 0 ≤ IntKind.u64.wrap y := by rw [IntKind.wrap_u64]; omega
  generalize IntKind.u64.wrap y = z at *
  obtain ⟨Z, rfl⟩ := Int.eq_ofNat_of_zero_le hw
  unfold getI putI sgI
  rw [if_pos hf, if_pos hf, cl_id n h1 h2]
  simp only [Int.toNat_natCast]
  rw [get_put, Int.natCast_emod, ← pow_cast, sg_mod _ _ _ (Nat.le_refl _)]

theorem putI_not (x a n y : Int) (h : fieldB a n = false) : putI x a n y = x := by unfold putI; rw [if_neg (by rw [h]; decide)]
theorem back_some (x a n y : Int) (y0 : 0 ≤ y) (y1 : y < 18446744073709551616) (hf : fieldB a n = true) (hn : n < 64) :
    getI (putI x a n y) a n = bits BinOp.and IntKind.u64 y (IntKind.u64.wrap (IntKind.u64.wrap (2 ^ n.toNat) - 1)) := by
  obtain ⟨h1, h2, h3, h4⟩ := (field_iff a n).1 hf
  obtain ⟨Y, rfl⟩ := Int.eq_ofNat_of_zero_le y0
  have hp : 2 ^ n.toNat < 2 ^ 64 := Nat.pow_lt_pow_right (by decide) (by omega)
  have hq : 0 < 2 ^ n.toNat := Nat.two_pow_pos _
  have e : IntKind.u64.wrap (IntKind.u64.wrap (2 ^ n.toNat) - 1) = ((2 ^ n.toNat - 1 : Nat) : Int) := by
    rw [IntKind.wrap_u64, IntKind.wrap_u64, pow_cast]
    generalize 2 ^ n.toNat = p at *
    omega
  rw [e, u64_and_nat _ _ (by omega) (by omega), Nat.and_two_pow_sub_one_eq_mod]
  unfold getI putI
  rw [if_pos hf, if_pos hf]
  simp only [Int.toNat_natCast]
  rw [get_put]
theorem back_whole (x a n y : Int) (x0 : 0 ≤ x) (x1 : x < 18446744073709551616) (y0 : 0 ≤ y) (y1 : y < 18446744073709551616)
    (hf : fieldB a n = true) (hn : n = 64) : putI x a n y = y := by
  obtain ⟨h1, h2, h3, h4⟩ := (field_iff a n).1 hf
  have ha : a = 0 := by omega
  subst hn; subst ha
  unfold putI
  rw [if_pos hf, show (64 : Int).toNat = 64 from rfl, show (0 : Int).toNat = 0 from rfl, put_whole _ _ (by omega) (by omega)]
  omega
theorem beside (x a n y b k : Int) (hf : fieldB a n = true) (hg : fieldB b k = true) (hd : a + n ≤ b ∨ b + k ≤ a) :
    getI (putI x a n y) b k = getI x b k := by
  obtain ⟨h1, h2, h3, h4⟩ := (field_iff a n).1 hf
  obtain ⟨g1, g2, g3, g4⟩ := (field_iff b k).1 hg
  unfold getI putI
  rw [if_pos hf, if_pos hg, if_pos hg]
  simp only [Int.toNat_natCast]
  rw [get_put_other _ _ _ _ _ _ (by omega)]
theorem order (x a n y b k z : Int) (hf : fieldB a n = true) (hg : fieldB b k = true) (hd : a + n ≤ b ∨ b + k ≤ a) :
    putI (putI x a n y) b k z = putI (putI x b k z) a n y := by
  obtain ⟨h1, h2, h3, h4⟩ := (field_iff a n).1 hf
  obtain ⟨g1, g2, g3, g4⟩ := (field_iff b k).1 hg
  unfold putI
  rw [if_pos hf, if_pos hg, if_pos hg, if_pos hf]
  simp only [Int.toNat_natCast]
  rw [put_comm _ _ _ _ _ _ _ (by omega)]

/-- the bounds of a word, off its form -/
theorem word_of (x : Int) (h : (Lit.int .u64 x).wf = true) : 0 ≤ x ∧ x < 18446744073709551616 := by
  have := bounds_u64 h; omega
theorem num_of (x : Int) (h : (Lit.int .i64 x).wf = true) : -9223372036854775808 ≤ x ∧ x < 9223372036854775808 := by
  have := bounds_i64 h; omega
end Go.Proofs.Ytoejiloflclpdaa.Bt
