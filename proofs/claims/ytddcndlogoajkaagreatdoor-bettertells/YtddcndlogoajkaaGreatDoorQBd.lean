/- Fields of a word, as package bits reads them. Conditions: said at each. -/
import Derived.WalkKit
import Derived.ProofKit
import Derived.Laws.BitsAllLaws
import Derived.Test.YtddcndlogoajkaaGreatDoorProg
import Derived.OpenShut
namespace Go.Proofs.YtddcndlogoajkaaGreatDoor.L8.Op

/-- brought into 1 to 64 -/
def cl (n : Int) : Int := if n < 1 then 1 else if 64 < n then 64 else n
theorem cl_lo (n : Int) : 1 ≤ cl n := by unfold cl; split <;> (try split) <;> omega
theorem cl_hi (n : Int) : cl n ≤ 64 := by unfold cl; split <;> (try split) <;> omega
/-! ### masks -/
/-! ### one bit after another: the document's own way -/
/-! ### two's complement -/
/-- the lowest c bits of x as a number with a sign -/
def sg (x : Int) (c : Nat) : Int := (x + 2 ^ (c - 1)) % 2 ^ c - 2 ^ (c - 1)
theorem pow_split (c : Nat) (h : 1 ≤ c) : (2 : Int) ^ c = 2 * 2 ^ (c - 1) := by
  obtain ⟨d, rfl⟩ : ∃ d, c = d + 1 := ⟨c - 1, by omega⟩
  rw [Nat.add_sub_cancel, Int.pow_succ]; omega
theorem pow_pos' (c : Nat) : (0 : Int) < 2 ^ c := Int.pow_pos (by decide)
theorem sg_lo (x : Int) (c : Nat) : -(2 ^ (c - 1)) ≤ sg x c := by
  unfold sg
  have := Int.emod_nonneg (x + 2 ^ (c - 1)) (Int.ne_of_gt (pow_pos' c)); omega
theorem sg_hi (x : Int) (c : Nat) (h : 1 ≤ c) : sg x c < 2 ^ (c - 1) := by
  unfold sg
  have := Int.emod_lt_of_pos (x + 2 ^ (c - 1)) (pow_pos' c)
  have := pow_split c h; omega
theorem sg_id (x : Int) (c : Nat) (h : 1 ≤ c) (h1 : -(2 ^ (c - 1)) ≤ x) (h2 : x < 2 ^ (c - 1)) : sg x c = x := by
  unfold sg
  have := pow_split c h
  rw [Int.emod_eq_of_lt (by omega) (by omega)]; omega
theorem sg_iff (x : Int) (c : Nat) (h : 1 ≤ c) : sg x c = x ↔ -(2 ^ (c - 1)) ≤ x ∧ x < 2 ^ (c - 1) := by
  constructor
  · intro e; have h1 := sg_lo x c; have h2 := sg_hi x c h; rw [e] at h1 h2; exact ⟨h1, h2⟩
  · intro e; exact sg_id x c h e.1 e.2
theorem sg_mod (x : Int) (c d : Nat) (h : c ≤ d) : sg (x % 2 ^ d) c = sg x c := by
  unfold sg
  have e : (2 : Int) ^ c ∣ 2 ^ d := ⟨2 ^ (d - c), by rw [← Int.pow_add]; congr 1; omega⟩
  rw [Int.add_emod, Int.emod_emod_of_dvd x e, ← Int.add_emod]
theorem sg_shift (x : Int) (c : Nat) (h : 1 ≤ c) (h64 : c ≤ 64) :
    ((x * 2 ^ (64 - c) % 18446744073709551616 + 9223372036854775808) % 18446744073709551616 - 9223372036854775808) / 2 ^ (64 - c) = sg x c := by
  have e64 : (18446744073709551616 : Int) = 2 ^ c * 2 ^ (64 - c) := by
    rw [← Int.pow_add, show c + (64 - c) = 64 by omega]; rfl
  have e63 : (9223372036854775808 : Int) = 2 ^ (c - 1) * 2 ^ (64 - c) := by
    rw [← Int.pow_add, show c - 1 + (64 - c) = 63 by omega]; rfl
  have hp := pow_pos' (64 - c)
  rw [Int.emod_add_emod, e64, e63, ← Int.add_mul, Int.mul_comm _ (2 ^ (64 - c)), Int.mul_comm (2 ^ c) (2 ^ (64 - c)), Int.mul_emod_mul_of_pos _ _ hp,
    Int.mul_comm (2 ^ (c - 1)) (2 ^ (64 - c)), ← Int.mul_sub, Int.mul_ediv_cancel_left _ (Int.ne_of_gt hp)]
  rfl
end Go.Proofs.YtddcndlogoajkaaGreatDoor.L8.Op
namespace Go.Proofs.YtddcndlogoajkaaGreatDoor.L8.Op
open Go.RowKit

def sgI (x n : Int) : Int := sg x (cl n).toNat
def fitsI (x n : Int) : Bool := decide (sgI x n = x)

theorem sg_form (x n : Int) : wrap64 (IntKind.u64.wrap (x * 2 ^ (64 - cl n).toNat)) / 2 ^ (64 - cl n).toNat = sgI x n := by
  have h1 := cl_lo n; have h2 := cl_hi n
  have := sg_shift x (cl n).toNat (by omega) (by omega)
  rw [show 64 - (cl n).toNat = (64 - cl n).toNat by omega] at this
  unfold sgI
  rw [← this, IntKind.wrap_u64, wrap64]
theorem fits_form (x n : Int) : (sgI (IntKind.u64.wrap x) n == x) = fitsI x n := by
  have h1 := cl_lo n; have h2 := cl_hi n
  have e : sgI (IntKind.u64.wrap x) n = sgI x n := by
    unfold sgI
    rw [IntKind.wrap_u64, ← sg_mod x (cl n).toNat 64 (by omega)]
    rfl
  rw [e]; unfold fitsI; rw [Bool.eq_iff_iff]; simp
end Go.Proofs.YtddcndlogoajkaaGreatDoor.L8.Op
namespace Go.Proofs.YtddcndlogoajkaaGreatDoor.L8.Op
open Go.ChangeShapes Go.WideShapes Go.ChangeAt Go.RowKit

theorem ret_bool {a b : Bool} (h : a = b) : Ending.returned (.bool a) = .returned (.bool b) := by rw [h]
theorem ret_int {k : IntKind} {a b : Int} (h : a = b) : Ending.returned (.int k a) = .returned (.int k b) := by rw [h]

theorem count_any (n : Int) (w : World) :
    Calls Tryz.prog 137 #[.int .i64 n] w fun e w' => e = .returned (.int .i64 (cl n)) ∧ w' = w := by
  go_enter Tryz.func137, Tryz.ntmps137
  go_wp2
  all_goals
    go_ret
    refine ⟨ret_int ?_, rfl⟩
    unfold cl
    split at * <;> (try split) <;> omega

theorem signed_any (x n : Int) (w : World) :
    Calls Tryz.prog 135 #[.int .u64 x, .int .i64 n] w fun e w' => e = .returned (.int .i64 (sgI x n)) ∧ w' = w := by
  have hlo := cl_lo n
  have hhi := cl_hi n
  have H : Hid _ := (sg_form x n)
  go_enter Tryz.func135, Tryz.ntmps135
  go_wp2_with (go_at_call 137; refine (count_any _ _).mono ?_; rintro e w' ⟨rfl, rfl⟩)
  go_ret
  exact ⟨ret_int (H.out), rfl⟩

theorem fits_any (x n : Int) (w : World) :
    Calls Tryz.prog 132 #[.int .i64 x, .int .i64 n] w fun e w' => e = .returned (.bool (fitsI x n)) ∧ w' = w := by
  have H : Hid _ := (fits_form x n)
  go_enter Tryz.func132, Tryz.ntmps132
  go_wp2_with (go_at_call 135; refine (signed_any _ _ _).mono ?_; rintro e w' ⟨rfl, rfl⟩)
  go_ret
  exact ⟨ret_bool (H.out), rfl⟩

end Go.Proofs.YtddcndlogoajkaaGreatDoor.L8.Op
namespace Go.Proofs.YtddcndlogoajkaaGreatDoor.L8.Op

set_option maxRecDepth 20000
/-- is it a field? -/
def fieldB (a n : Int) : Bool := decide (1 ≤ n ∧ n ≤ 64 ∧ 0 ≤ a ∧ a ≤ 64 - n)
/-- what stands in the field -/
def getN (X a n : Nat) : Nat := X / 2 ^ a % 2 ^ n

theorem ones_div (n : Nat) (h : n ≤ 64) : 18446744073709551615 / 2 ^ (64 - n) = 2 ^ n - 1 := by
  have e : (18446744073709551616 : Nat) = 2 ^ n * 2 ^ (64 - n) := by
    rw [← Nat.pow_add, show n + (64 - n) = 64 by omega]
  have hp : 0 < 2 ^ (64 - n) := Nat.two_pow_pos _
  have hn : 0 < 2 ^ n := Nat.two_pow_pos _
  refine Nat.div_eq_of_lt_le ?_ ?_
  · rw [Nat.sub_mul, ← e]; omega
  · rw [Nat.sub_add_cancel hn, ← e]; omega
theorem get_masks (X a n : Nat) : X / 2 ^ a &&& (2 ^ n - 1) = getN X a n := by
  unfold getN; exact Nat.and_two_pow_sub_one_eq_mod _ _

end Go.Proofs.YtddcndlogoajkaaGreatDoor.L8.Op
namespace Go.Proofs.YtddcndlogoajkaaGreatDoor.L8.Op
open Go.RowKit
set_option maxRecDepth 20000
def getI (x a n : Int) : Int := if fieldB a n = true then ((getN x.toNat a.toNat n.toNat : Nat) : Int) else 0
theorem field_iff (a n : Int) : fieldB a n = true ↔ 1 ≤ n ∧ n ≤ 64 ∧ 0 ≤ a ∧ a ≤ 64 - n := by unfold fieldB; simp

theorem pow_cast (k : Nat) : ((2 : Int) ^ k) = ((2 ^ k : Nat) : Int) := by simp

theorem ones_int (n : Int) (h1 : 1 ≤ n) (h2 : n ≤ 64) : (18446744073709551615 : Int) / 2 ^ (64 - n).toNat = ((2 ^ n.toNat - 1 : Nat) : Int) := by
  rw [pow_cast, show (18446744073709551615 : Int) = ((18446744073709551615 : Nat) : Int) from rfl, ← Int.natCast_ediv,
    show (64 - n).toNat = 64 - n.toNat by omega, ones_div n.toNat (by omega)]

theorem get_form (x a n : Int) (h1 : 1 ≤ n) (h2 : n ≤ 64) (h3 : 0 ≤ a) (h4 : a ≤ 64 - n)
    (x0 : 0 ≤ x) (x1 : x < 18446744073709551616) :
    bits BinOp.and IntKind.u64 (x / 2 ^ a.toNat) (18446744073709551615 / 2 ^ (64 - n).toNat) = getI x a n := by
  unfold getI
  rw [if_pos ((field_iff a n).2 ⟨h1, h2, h3, h4⟩), ones_int n h1 h2]
  obtain ⟨X, rfl⟩ := Int.eq_ofNat_of_zero_le x0
  have hq : X / 2 ^ a.toNat ≤ X := Nat.div_le_self _ _
  have hn : 2 ^ n.toNat ≤ 2 ^ 64 := Nat.pow_le_pow_right (by decide) (by omega)
  rw [pow_cast, ← Int.natCast_ediv, u64_and_nat _ _ (by omega) (by omega), get_masks, Int.toNat_natCast]

end Go.Proofs.YtddcndlogoajkaaGreatDoor.L8.Op
namespace Go.Proofs.YtddcndlogoajkaaGreatDoor.L8.Op
open Go.ChangeShapes Go.WideShapes Go.ChangeAt Go.RowKit
set_option maxRecDepth 20000
theorem isField_any (a n : Int) (w : World) :
    Calls Tryz.prog 128 #[.int .i64 a, .int .i64 n] w fun e w' => e = .returned (.bool (fieldB a n)) ∧ w' = w := by
  by_cases h1 : 1 ≤ n
  · by_cases h2 : n ≤ 64
    · by_cases h3 : 0 ≤ a
      all_goals
        go_enter Tryz.func128, Tryz.ntmps128
        go_wp2
        go_ret
        refine ⟨ret_bool ?_, rfl⟩
        rw [Bool.eq_iff_iff, field_iff]; simp; omega
    · go_enter Tryz.func128, Tryz.ntmps128
      go_wp2
      go_ret
      refine ⟨ret_bool ?_, rfl⟩
      rw [Bool.eq_iff_iff, field_iff]; simp; omega
  · go_enter Tryz.func128, Tryz.ntmps128
    go_wp2
    go_ret
    refine ⟨ret_bool ?_, rfl⟩
    rw [Bool.eq_iff_iff, field_iff]; simp; omega

theorem lowest_any (n : Int) (w : World) (h1 : 1 ≤ n) (h2 : n ≤ 64) :
    Calls Tryz.prog 129 #[.int .i64 n] w fun e w' => e = .returned (.int .u64 (18446744073709551615 / 2 ^ (64 - n).toNat)) ∧ w' = w := by
  go_enter Tryz.func129, Tryz.ntmps129
  go_wp2
  go_ret
  exact ⟨rfl, rfl⟩

theorem get_any (x a n : Int) (w : World) (x0 : 0 ≤ x) (x1 : x < 18446744073709551616) :
    Calls Tryz.prog 114 #[.int .u64 x, .int .i64 a, .int .i64 n] w fun e w' => e = .returned (.int .u64 (getI x a n)) ∧ w' = w := by
  cases h : fieldB a n
  · have H0 : getI x a n = 0 := by unfold getI; rw [if_neg (by rw [h]; decide)]
    have H : Hid (getI x a n = 0) := H0
    clear H0
    go_enter Tryz.func114, Tryz.ntmps114
    go_wp2_with (go_at_call 128; refine (isField_any _ _ _).mono ?_; rintro e w' ⟨rfl, rfl⟩)
    go_ret
    exact ⟨ret_int H.out.symm, rfl⟩
  · obtain ⟨h1, h2, h3, h4⟩ := (field_iff a n).1 h
    have H : Hid _ := (get_form x a n h1 h2 h3 h4 x0 x1)
    go_enter Tryz.func114, Tryz.ntmps114
    go_wp2_with (first | (go_at_call 128; refine (isField_any _ _ _).mono ?_; rintro e w' ⟨rfl, rfl⟩) | (go_at_call 129; refine (lowest_any _ _ (by omega) (by omega)).mono ?_; rintro e w' ⟨rfl, rfl⟩))
    go_ret
    exact ⟨ret_int (H.out), rfl⟩

end Go.Proofs.YtddcndlogoajkaaGreatDoor.L8.Op
