/- The rounds of the document's own loops (a bit after another), in the spelling of the walk. Conditions: each lemma names the bounds of its numbers. -/
import Derived.Test.YtckjioiijmmopaaDoorForms
namespace Go.Proofs.YtckjioiijmmopaaDoor.Op
open Go.RowKit

def putTo (x a y : Int) (k : Nat) : Int := ((putN x.toNat a.toNat k y.toNat : Nat) : Int)
def getTo (x a n : Int) (k : Nat) : Int := ((getN x.toNat (a.toNat + k) (n.toNat - k) : Nat) : Int)
def sgTo (x c : Int) (k : Nat) : Int := sg (x / 2 ^ k) (c.toNat - k)

theorem bit_form (x : Int) (k : Nat) (x0 : 0 ≤ x) (x1 : x < 18446744073709551616) :
    bits BinOp.and IntKind.u64 (x / 2 ^ k) 1 = x / 2 ^ k % 2 := by
  obtain ⟨X, rfl⟩ := Int.eq_ofNat_of_zero_le x0
  have hq : X / 2 ^ k ≤ X := Nat.div_le_self _ _
  rw [pow_cast, ← Int.natCast_ediv, show (1 : Int) = ((1 : Nat) : Int) from rfl, u64_and_nat _ _ (by omega) (by omega), nat_mask1]
  omega

theorem pow_wrap (k : Nat) (h : k < 64) : IntKind.u64.wrap (2 ^ k) = ((2 ^ k : Nat) : Int) := by
  have h1 : 2 ^ k < 2 ^ 64 := Nat.pow_lt_pow_right (by decide) h
  rw [IntKind.wrap_u64, pow_cast]
  generalize 2 ^ k = p at *
  omega

theorem put_round_yes (x a n y : Int) (k : Nat) (x0 : 0 ≤ x) (x1 : x < 18446744073709551616) (y0 : 0 ≤ y) (y1 : y < 18446744073709551616)
    (h2 : n ≤ 64) (h3 : 0 ≤ a) (h4 : a ≤ 64 - n) (hk : (k : Int) < n) (hb : (bits BinOp.and IntKind.u64 (y / 2 ^ k) 1 == 1) = true) :
    bits BinOp.or IntKind.u64 (bits BinOp.andNot IntKind.u64 (putTo x a y k) (IntKind.u64.wrap (2 ^ (a + k).toNat))) (IntKind.u64.wrap (2 ^ (a + k).toNat)) = putTo x a y (k + 1) := by
  unfold putTo
  rw [bit_form y k y0 y1, beq_iff_eq] at hb
  obtain ⟨X, rfl⟩ := Int.eq_ofNat_of_zero_le x0
  obtain ⟨Y, rfl⟩ := Int.eq_ofNat_of_zero_le y0
  obtain ⟨A, rfl⟩ := Int.eq_ofNat_of_zero_le h3
  rw [pow_cast] at hb
  have hb' : Y / 2 ^ k % 2 = 1 := by omega
  have hs := put_step X A k Y (by omega) (by omega)
  rw [if_pos hb'] at hs
  have hX := putN_lt X A k Y (by omega) (by omega)
  have hp : 2 ^ (A + k) < 2 ^ 64 := Nat.pow_lt_pow_right (by decide) (by omega)
  simp only [Int.toNat_natCast]
  rw [show ((A : Int) + (k : Int)).toNat = A + k by omega, pow_wrap _ (by omega), u64_andNot_nat _ _ (by omega) (by omega),
    u64_or_nat _ _ (Nat.lt_of_le_of_lt Nat.and_le_left (by omega)) (by omega), hs]

theorem put_round_no (x a n y : Int) (k : Nat) (x0 : 0 ≤ x) (x1 : x < 18446744073709551616) (y0 : 0 ≤ y) (y1 : y < 18446744073709551616)
    (h2 : n ≤ 64) (h3 : 0 ≤ a) (h4 : a ≤ 64 - n) (hk : (k : Int) < n) (hb : (bits BinOp.and IntKind.u64 (y / 2 ^ k) 1 == 1) = false) :
    bits BinOp.andNot IntKind.u64 (putTo x a y k) (IntKind.u64.wrap (2 ^ (a + k).toNat)) = putTo x a y (k + 1) := by
  unfold putTo
  rw [bit_form y k y0 y1, beq_eq_false_iff_ne] at hb
  obtain ⟨X, rfl⟩ := Int.eq_ofNat_of_zero_le x0
  obtain ⟨Y, rfl⟩ := Int.eq_ofNat_of_zero_le y0
  obtain ⟨A, rfl⟩ := Int.eq_ofNat_of_zero_le h3
  rw [pow_cast] at hb
  have hb' : ¬ Y / 2 ^ k % 2 = 1 := by omega
  have hs := put_step X A k Y (by omega) (by omega)
  rw [if_neg hb', Nat.or_zero] at hs
  have hX := putN_lt X A k Y (by omega) (by omega)
  have hp : 2 ^ (A + k) < 2 ^ 64 := Nat.pow_lt_pow_right (by decide) (by omega)
  simp only [Int.toNat_natCast]
  rw [show ((A : Int) + (k : Int)).toNat = A + k by omega, pow_wrap _ (by omega), u64_andNot_nat _ _ (by omega) (by omega), hs]

theorem get_round (x a n : Int) (k : Nat) (x0 : 0 ≤ x) (x1 : x < 18446744073709551616)
    (h2 : n ≤ 64) (h3 : 0 ≤ a) (h4 : a ≤ 64 - n) (hk : (k : Int) ≤ n) (h1 : 1 ≤ (k : Int)) :
    IntKind.u64.wrap (IntKind.u64.wrap (getTo x a n k * 2) + bits BinOp.and IntKind.u64 (x / 2 ^ (a + ((k : Int) - 1)).toNat) 1) = getTo x a n (k - 1) := by
  rw [bit_form x _ x0 x1]
  unfold getTo
  obtain ⟨X, rfl⟩ := Int.eq_ofNat_of_zero_le x0
  obtain ⟨A, rfl⟩ := Int.eq_ofNat_of_zero_le h3
  obtain ⟨j, rfl⟩ : ∃ j, k = j + 1 := ⟨k - 1, by omega⟩
  simp only [Int.toNat_natCast, Nat.add_sub_cancel]
  have hs := get_step X (A + j) (n.toNat - (j + 1))
  rw [show n.toNat - (j + 1) + 1 = n.toNat - j by omega] at hs
  have hl := getN_lt X (A + j) (n.toNat - j) (by omega)
  rw [show (A : Int) + (((j + 1 : Nat) : Int) - 1) = ((A + j : Nat) : Int) by omega, Int.toNat_natCast, pow_cast, IntKind.wrap_u64, IntKind.wrap_u64,
    show A + (j + 1) = A + j + 1 by omega]
  have e : ((X : Int) / ((2 ^ (A + j) : Nat) : Int) % 2) = ((X / 2 ^ (A + j) % 2 : Nat) : Int) := by simp
  rw [e]
  omega

theorem sg_first (x n : Int) (x0 : 0 ≤ x) (x1 : x < 18446744073709551616) (h1 : 1 ≤ n) :
    wrap64 (-wrap64 (bits BinOp.and IntKind.u64 (x / 2 ^ (n.toNat - 1)) 1)) = sgTo x n (n.toNat - 1) := by
  rw [bit_form x _ x0 x1]
  unfold sgTo
  rw [show n.toNat - (n.toNat - 1) = 1 by omega, sg_one]
  unfold wrap64
  omega

theorem sg_round (x n : Int) (k : Nat) (x0 : 0 ≤ x) (x1 : x < 18446744073709551616) (h2 : n ≤ 64) (hk : (k : Int) < n) (h1 : 1 ≤ (k : Int)) :
    wrap64 (wrap64 (sgTo x n k * 2) + wrap64 (bits BinOp.and IntKind.u64 (x / 2 ^ (k - 1)) 1)) = sgTo x n (k - 1) := by
  rw [bit_form x _ x0 x1]
  unfold sgTo
  obtain ⟨j, rfl⟩ : ∃ j, k = j + 1 := ⟨k - 1, by omega⟩
  rw [Nat.add_sub_cancel]
  have hs := sg_step (x / 2 ^ j) (n.toNat - (j + 1)) (by omega)
  rw [show n.toNat - (j + 1) + 1 = n.toNat - j by omega, Int.ediv_ediv_of_nonneg (Int.le_of_lt (pow_pos' j)), ← Int.pow_succ] at hs
  rw [Nat.succ_eq_add_one] at hs
  have l := sg_lo (x / 2 ^ j) (n.toNat - j)
  have g := sg_hi (x / 2 ^ j) (n.toNat - j) (by omega)
  have p := pow_le63 (n.toNat - j) (by omega)
  unfold wrap64
  omega

theorem fits_in (x n : Int) (h1 : 1 ≤ n) (h2 : n < 64) : fitsI x n = (decide (wrap64 (-wrap64 (2 ^ (n.toNat - 1))) ≤ x) && decide (x ≤ wrap64 (wrap64 (2 ^ (n.toNat - 1)) - 1))) := by
  have p : (2 : Int) ^ (n.toNat - 1) ≤ 4611686018427387904 := by
    have h1 : 2 ^ (n.toNat - 1) ≤ 2 ^ 62 := Nat.pow_le_pow_right (by decide : 0 < 2) (by omega : n.toNat - 1 ≤ 62)
    rw [pow_cast]; omega
  have q := pow_pos' (n.toNat - 1)
  have e1 : wrap64 (-wrap64 (2 ^ (n.toNat - 1))) = -(2 ^ (n.toNat - 1)) := by unfold wrap64; omega
  have e2 : wrap64 (wrap64 (2 ^ (n.toNat - 1)) - 1) = 2 ^ (n.toNat - 1) - 1 := by unfold wrap64; omega
  rw [e1, e2, Bool.eq_iff_iff]
  unfold fitsI sgI
  rw [cl_id n h1 (by omega), decide_eq_true_eq, sg_iff x n.toNat (by omega)]
  simp; omega
theorem fits_lo (x n : Int) (h : n < 1) : fitsI x n = (decide (-1 ≤ x) && decide (x ≤ 0)) := by
  unfold fitsI sgI
  rw [show cl n = 1 by unfold cl; rw [if_pos h], Bool.eq_iff_iff, decide_eq_true_eq, show (1 : Int).toNat = 1 from rfl, sg_iff x 1 (by omega)]
  simp; omega
theorem fits_hi (x n : Int) (h : 64 ≤ n) (x0 : -9223372036854775808 ≤ x) (x1 : x < 9223372036854775808) : fitsI x n = true := by
  unfold fitsI sgI
  rw [show cl n = 64 by unfold cl; rw [if_neg (by omega)]; split <;> omega, decide_eq_true_eq, show (64 : Int).toNat = 64 from rfl, sg_iff x 64 (by omega)]
  exact ⟨x0, x1⟩
end Go.Proofs.YtckjioiijmmopaaDoor.Op
