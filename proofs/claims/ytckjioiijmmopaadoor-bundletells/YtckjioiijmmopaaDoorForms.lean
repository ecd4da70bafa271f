/- What the walk over the program spells (bits, wraps, shifts) against the plain mathematics of fields. Conditions: each lemma names the bounds of its numbers. -/
import Derived.Test.YtckjioiijmmopaaDoorMath
import Derived.WalkKit
import Derived.ProofKit
import Derived.Laws.BitsAllLaws
namespace Go.Proofs.YtckjioiijmmopaaDoor.Op
open Go.RowKit

/-- the four calls of the layer, over the integers -/
def putI (x a n y : Int) : Int := if fieldB a n = true then ((putN x.toNat a.toNat n.toNat y.toNat : Nat) : Int) else x
def getI (x a n : Int) : Int := if fieldB a n = true then ((getN x.toNat a.toNat n.toNat : Nat) : Int) else 0
def sgI (x n : Int) : Int := sg x (cl n).toNat
def fitsI (x n : Int) : Bool := decide (sgI x n = x)

theorem field_iff (a n : Int) : fieldB a n = true ↔ 1 ≤ n ∧ n ≤ 64 ∧ 0 ≤ a ∧ a ≤ 64 - n := by unfold fieldB; simp

theorem putI_lo (x a n y : Int) (h : 0 ≤ x) : 0 ≤ putI x a n y := by unfold putI; split <;> omega
theorem putI_hi (x a n y : Int) (h0 : 0 ≤ x) (h : x < 18446744073709551616) : putI x a n y < 18446744073709551616 := by
  unfold putI; split
  · rename_i hf
    rw [field_iff] at hf
    have := putN_lt x.toNat a.toNat n.toNat y.toNat (by omega) (by omega)
    omega
  · exact h
theorem getI_lo (x a n : Int) : 0 ≤ getI x a n := by unfold getI; split <;> omega
theorem getI_hi (x a n : Int) : getI x a n < 18446744073709551616 := by
  unfold getI; split
  · rename_i hf
    rw [field_iff] at hf
    have := getN_lt x.toNat a.toNat n.toNat (by omega)
    omega
  · omega
theorem sgI_lo (x n : Int) : -9223372036854775808 ≤ sgI x n := by
  unfold sgI
  have h1 := cl_lo n; have h2 := cl_hi n
  have := sg_lo x (cl n).toNat
  have := pow_le63 (cl n).toNat (by omega)
  omega
theorem sgI_hi (x n : Int) : sgI x n < 9223372036854775808 := by
  unfold sgI
  have h1 := cl_lo n; have h2 := cl_hi n
  have := sg_hi x (cl n).toNat (by omega)
  have := pow_le63 (cl n).toNat (by omega)
  omega

theorem pow_cast (k : Nat) : ((2 : Int) ^ k) = ((2 ^ k : Nat) : Int) := by simp

theorem ones_int (n : Int) (h1 : 1 ≤ n) (h2 : n ≤ 64) : (18446744073709551615 : Int) / 2 ^ (64 - n).toNat = ((2 ^ n.toNat - 1 : Nat) : Int) := by
  rw [pow_cast, show (18446744073709551615 : Int) = ((18446744073709551615 : Nat) : Int) from rfl, ← Int.natCast_ediv,
    show (64 - n).toNat = 64 - n.toNat by omega, ones_div n.toNat (by omega)]

theorem put_form (x a n y : Int) (h1 : 1 ≤ n) (h2 : n ≤ 64) (h3 : 0 ≤ a) (h4 : a ≤ 64 - n)
    (x0 : 0 ≤ x) (x1 : x < 18446744073709551616) (y0 : 0 ≤ y) :
    bits BinOp.or IntKind.u64
      (bits BinOp.andNot IntKind.u64 x (IntKind.u64.wrap (18446744073709551615 / 2 ^ (64 - n).toNat * 2 ^ a.toNat)))
      (bits BinOp.and IntKind.u64 (IntKind.u64.wrap (y * 2 ^ a.toNat)) (IntKind.u64.wrap (18446744073709551615 / 2 ^ (64 - n).toNat * 2 ^ a.toNat))) = putI x a n y := by
  unfold putI
  rw [if_pos ((field_iff a n).2 ⟨h1, h2, h3, h4⟩), ones_int n h1 h2]
  obtain ⟨X, rfl⟩ := Int.eq_ofNat_of_zero_le x0
  obtain ⟨Y, rfl⟩ := Int.eq_ofNat_of_zero_le y0
  obtain ⟨A, rfl⟩ := Int.eq_ofNat_of_zero_le h3
  obtain ⟨N, rfl⟩ := Int.eq_ofNat_of_zero_le (show 0 ≤ n by omega)
  simp only [Int.toNat_natCast, IntKind.wrap_u64]
  have hX : X < 2 ^ 64 := by omega
  have hm := mask_lt A N (by omega)
  rw [pow_cast A, ← Int.natCast_mul, ← Int.natCast_mul, show (18446744073709551616 : Int) = ((18446744073709551616 : Nat) : Int) from rfl, ← Int.natCast_emod, ← Int.natCast_emod,
    Nat.mod_eq_of_lt (show (2 ^ N - 1) * 2 ^ A < 18446744073709551616 by omega),
    u64_andNot_nat _ _ (by omega) (by omega), u64_and_nat _ _ (Nat.mod_lt _ (by decide)) (by omega)]
  have hp := put_masks X A N Y (by omega) hX
  have hlt := putN_lt X A N Y (by omega) hX
  rw [← hp] at hlt
  rw [u64_or_nat _ _ (Nat.lt_of_le_of_lt (Nat.and_le_left) (by omega)) (Nat.lt_of_le_of_lt (Nat.and_le_right) (by omega)), ← hp]

theorem get_form (x a n : Int) (h1 : 1 ≤ n) (h2 : n ≤ 64) (h3 : 0 ≤ a) (h4 : a ≤ 64 - n)
    (x0 : 0 ≤ x) (x1 : x < 18446744073709551616) :
    bits BinOp.and IntKind.u64 (x / 2 ^ a.toNat) (18446744073709551615 / 2 ^ (64 - n).toNat) = getI x a n := by
  unfold getI
  rw [if_pos ((field_iff a n).2 ⟨h1, h2, h3, h4⟩), ones_int n h1 h2]
  obtain ⟨X, rfl⟩ := Int.eq_ofNat_of_zero_le x0
  have hq : X / 2 ^ a.toNat ≤ X := Nat.div_le_self _ _
  have hn : 2 ^ n.toNat ≤ 2 ^ 64 := Nat.pow_le_pow_right (by decide) (by omega)
  rw [pow_cast, ← Int.natCast_ediv, u64_and_nat _ _ (by omega) (by omega), get_masks, Int.toNat_natCast]

theorem sg_form (x n : Int) : wrap64 (IntKind.u64.wrap (x * 2 ^ (64 - cl n).toNat)) / 2 ^ (64 - cl n).toNat = sgI x n := by
  have h1 := cl_lo n; have h2 := cl_hi n
  have := sg_shift x (cl n).toNat (by omega) (by omega)
  rw [show 64 - (cl n).toNat = (64 - cl n).toNat by omega] at this
  unfold sgI
  rw [← this, IntKind.wrap_u64, wrap64]
theorem fits_form (x n : Int) : (sgI (IntKind.u64.wrap x) n == x) = fitsI x n := by
  have h1 := cl_lo n; have h2 := cl_hi n
  have e : sgI (IntKind.u64.wrap x) n = sgI x n := by
    unfold sgI
    rw [IntKind.wrap_u64, ← sg_mod x (cl n).toNat 64 (by omega)]
    rfl
  rw [e]; unfold fitsI; rw [Bool.eq_iff_iff]; simp
end Go.Proofs.YtckjioiijmmopaaDoor.Op
