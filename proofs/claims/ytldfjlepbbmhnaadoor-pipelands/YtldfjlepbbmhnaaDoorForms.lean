/- What the walk over the program spells (bits, wraps, shifts) against the plain mathematics of fields. Conditions: each lemma names the bounds of its numbers. -/
import Derived.Test.YtldfjlepbbmhnaaDoorMath
import Derived.WalkKit
import Derived.ProofKit
import Derived.Laws.BitsAllLaws
namespace Go.Proofs.YtldfjlepbbmhnaaDoor.Op
open Go.RowKit

def getI (x a n : Int) : Int := if fieldB a n = true then ((getN x.toNat a.toNat n.toNat : Nat) : Int) else 0
def sgI (x n : Int) : Int := sg x (cl n).toNat
def fitsI (x n : Int) : Bool := decide (sgI x n = x)

theorem field_iff (a n : Int) : fieldB a n = true ↔ 1 ≤ n ∧ n ≤ 64 ∧ 0 ≤ a ∧ a ≤ 64 - n := by unfold fieldB; simp

theorem pow_cast (k : Nat) : ((2 : Int) ^ k) = ((2 ^ k : Nat) : Int) := by simp

theorem ones_int (n : Int) (h1 : 1 ≤ n) (h2 : n ≤ 64) : (18446744073709551615 : Int) / 2 ^ (64 - n).toNat = ((2 ^ n.toNat - 1 : Nat) : Int) := by
  rw [pow_cast, show (18446744073709551615 : Int) = ((18446744073709551615 : Nat) : Int) from rfl, ← Int.natCast_ediv,
    show (64 - n).toNat = 64 - n.toNat by omega, ones_div n.toNat (by omega)]

theorem get_form (x a n : Int) (h1 : 1 ≤ n) (h2 : n ≤ 64) (h3 : 0 ≤ a) (h4 : a ≤ 64 - n)
    (x0 : 0 ≤ x) (x1 : x < 18446744073709551616) :
    bits BinOp.and IntKind.u64 (x / 2 ^ a.toNat) (18446744073709551615 / 2 ^ (64 - n).toNat) = getI x a n := by
  unfold getI
  rw [if_pos ((field_iff a n).2 ⟨h1, h2, h3, h4⟩), ones_int n h1 h2]
  obtain ⟨X, rfl⟩ := Int.eq_ofNat_of_zero_le x0
  have hq : X / 2 ^ a.toNat ≤ X := Nat.div_le_self _ _
  have hn : 2 ^ n.toNat ≤ 2 ^ 64 := Nat.pow_le_pow_right (by decide) (by omega)
  rw [pow_cast, ← Int.natCast_ediv, u64_and_nat _ _ (by omega) (by omega), get_masks, Int.toNat_natCast]

theorem sg_form (x n : Int) : wrap64 (IntKind.u64.wrap (x * 2 ^ (64 - cl n).toNat)) / 2 ^ (64 - cl n).toNat = sgI x n := by
  have h1 := cl_lo n; have h2 := cl_hi n
  have := sg_shift x (cl n).toNat (by omega) (by omega)
  rw [show 64 - (cl n).toNat = (64 - cl n).toNat by omega] at this
  unfold sgI
  rw [← this, IntKind.wrap_u64, wrap64]
theorem fits_form (x n : Int) : (sgI (IntKind.u64.wrap x) n == x) = fitsI x n := by
  have h1 := cl_lo n; have h2 := cl_hi n
  have e : sgI (IntKind.u64.wrap x) n = sgI x n := by
    unfold sgI
    rw [IntKind.wrap_u64, ← sg_mod x (cl n).toNat 64 (by omega)]
    rfl
  rw [e]; unfold fitsI; rw [Bool.eq_iff_iff]; simp
end Go.Proofs.YtldfjlepbbmhnaaDoor.Op
