/- What package ops makes of two numbers (Reckon), and what the document's answer makes of them, read off the program by the walk; the two are one. Conditions: the numbers are of 64 bits, the kind of 8. -/
import Derived.Test.YtddcndlogoajkaaGreatDoorQBd
import Derived.Laws.Bits128
namespace Go.Proofs.YtddcndlogoajkaaGreatDoor.L8.Op
open Go.ChangeShapes Go.WideShapes Go.ChangeAt Go.RowKit

set_option maxRecDepth 20000
theorem get6 (b : Int) : getI (IntKind.u64.wrap b) 0 6 = b % 64 := by
  unfold getI
  rw [if_pos (by decide), getN, IntKind.wrap_u64]
  have h : 0 ≤ b % 18446744073709551616 := by omega
  simp
  omega
theorem wm (x : Int) : wrap64 x % 18446744073709551616 = x % 18446744073709551616 := by unfold wrap64; omega
theorem we {x y : Int} (h : x % 18446744073709551616 = y % 18446744073709551616) : wrap64 x = wrap64 y := by unfold wrap64; omega
theorem wid {x : Int} (h1 : -9223372036854775808 ≤ x) (h2 : x ≤ 9223372036854775807) : wrap64 x = x := by unfold wrap64; omega
theorem tmod_le (a b : Int) (h1 : -9223372036854775808 ≤ a) (h2 : a ≤ 9223372036854775807) : -9223372036854775808 ≤ a.tmod b ∧ a.tmod b ≤ 9223372036854775807 := by
  have h := Int.natAbs_tmod a b
  have h3 : a.natAbs % b.natAbs ≤ a.natAbs := Nat.mod_le _ _
  rcases Int.le_total 0 a with h0 | h0
  · have := Int.tmod_nonneg b h0
    omega
  · have : a.tmod b ≤ 0 := by
      have := Int.tmod_nonneg b (show 0 ≤ -a by omega)
      rw [Int.neg_tmod] at this
      omega
    omega
theorem rest_form (a b : Int) (h1 : -9223372036854775808 ≤ a) (h2 : a ≤ 9223372036854775807) :
    wrap64 (a - wrap64 (wrap64 (a.tdiv b) * b)) = a.tmod b := by
  have e : wrap64 (a - wrap64 (wrap64 (a.tdiv b) * b)) = wrap64 (a.tmod b) := by
    refine we ?_
    rw [Int.tmod_def, Int.sub_emod, wm, Int.mul_emod, wm, ← Int.mul_emod, ← Int.sub_emod, Int.mul_comm]
  have h := tmod_le a b h1 h2
  rw [e, wid h.1 h.2]

/-- 1 or 0 -/
def b2i (x : Bool) : Int := if x then 1 else 0
/-- what D becomes of A and B -/
def rkV (d a b : Int) : Int :=
  if d = 2 then wrap64 (a + b) else if d = 3 then wrap64 (a - b) else if d = 4 then bits .and .i64 a b else if d = 5 then bits .or .i64 a b else if d = 6 then bits .xor .i64 a b
  else if d = 7 then wrap64 (a * 2 ^ (b % 64).toNat) else if d = 8 then a / 2 ^ (b % 64).toNat else if d = 9 then b2i (decide (a < b)) else if d = 10 then b2i (a == b) else if d = 11 then a
  else if d = 12 then wrap64 (a * b) else if d = 13 then (if b = 0 then 0 else wrap64 (a.tdiv b)) else if d = 14 then (if b = 0 then 0 else a.tmod b) else 0
/-- and the error -/
def rkE (d b : Int) : Int := if 2 ≤ d ∧ d ≤ 12 then 0 else if d = 13 ∨ d = 14 then (if b = 0 then 101 else 0) else 2

theorem dist_any (b : Int) (w : World) :
    Calls Tryz.prog 99 #[.int .i64 b] w fun e w' => e = .returned (.int .u64 (b % 64)) ∧ w' = w := by
  go_enter Tryz.func99, Tryz.ntmps99
  go_wp2_with (first | (go_at_call 114; refine (get_any _ _ _ _ (by rw [IntKind.wrap_u64]; omega) (by rw [IntKind.wrap_u64]; omega)).mono ?_; rintro e w' ⟨rfl, rfl⟩))
  go_ret
  exact ⟨ret_int (get6 b), rfl⟩
theorem oneIf_any (x : Bool) (w : World) : Calls Tryz.prog 100 #[.bool x] w fun e w' => e = .returned (.int .i64 (b2i x)) ∧ w' = w := by
  cases x
  all_goals
    go_enter Tryz.func100, Tryz.ntmps100
    go_wp2
    go_ret
    exact ⟨rfl, rfl⟩
theorem rk2 (a b : Int) (w : World) : Calls Tryz.prog 79 #[.int .i8 2, .int .i64 a, .int .i64 b] w fun e w' => e = .returned (.tuple #[.int .i64 (rkV 2 a b), .int .i64 (rkE 2 b)]) ∧ w' = w := by
  go_enter Tryz.func79, Tryz.ntmps79
  go_wp2_with (first | (go_at_call 99; refine (dist_any _ _).mono ?_; rintro e w' ⟨rfl, rfl⟩) | (go_at_call 100; refine (oneIf_any _ _).mono ?_; rintro e w' ⟨rfl, rfl⟩) | go_in)
  go_ret2
  exact ⟨rfl, rfl⟩
theorem rk3 (a b : Int) (w : World) : Calls Tryz.prog 79 #[.int .i8 3, .int .i64 a, .int .i64 b] w fun e w' => e = .returned (.tuple #[.int .i64 (rkV 3 a b), .int .i64 (rkE 3 b)]) ∧ w' = w := by
  go_enter Tryz.func79, Tryz.ntmps79
  go_wp2_with (first | (go_at_call 99; refine (dist_any _ _).mono ?_; rintro e w' ⟨rfl, rfl⟩) | (go_at_call 100; refine (oneIf_any _ _).mono ?_; rintro e w' ⟨rfl, rfl⟩) | go_in)
  go_ret2
  exact ⟨rfl, rfl⟩
theorem rk4 (a b : Int) (w : World) : Calls Tryz.prog 79 #[.int .i8 4, .int .i64 a, .int .i64 b] w fun e w' => e = .returned (.tuple #[.int .i64 (rkV 4 a b), .int .i64 (rkE 4 b)]) ∧ w' = w := by
  go_enter Tryz.func79, Tryz.ntmps79
  go_wp2_with (first | (go_at_call 99; refine (dist_any _ _).mono ?_; rintro e w' ⟨rfl, rfl⟩) | (go_at_call 100; refine (oneIf_any _ _).mono ?_; rintro e w' ⟨rfl, rfl⟩) | go_in)
  go_ret2
  exact ⟨rfl, rfl⟩
theorem rk5 (a b : Int) (w : World) : Calls Tryz.prog 79 #[.int .i8 5, .int .i64 a, .int .i64 b] w fun e w' => e = .returned (.tuple #[.int .i64 (rkV 5 a b), .int .i64 (rkE 5 b)]) ∧ w' = w := by
  go_enter Tryz.func79, Tryz.ntmps79
  go_wp2_with (first | (go_at_call 99; refine (dist_any _ _).mono ?_; rintro e w' ⟨rfl, rfl⟩) | (go_at_call 100; refine (oneIf_any _ _).mono ?_; rintro e w' ⟨rfl, rfl⟩) | go_in)
  go_ret2
  exact ⟨rfl, rfl⟩
theorem rk6 (a b : Int) (w : World) : Calls Tryz.prog 79 #[.int .i8 6, .int .i64 a, .int .i64 b] w fun e w' => e = .returned (.tuple #[.int .i64 (rkV 6 a b), .int .i64 (rkE 6 b)]) ∧ w' = w := by
  go_enter Tryz.func79, Tryz.ntmps79
  go_wp2_with (first | (go_at_call 99; refine (dist_any _ _).mono ?_; rintro e w' ⟨rfl, rfl⟩) | (go_at_call 100; refine (oneIf_any _ _).mono ?_; rintro e w' ⟨rfl, rfl⟩) | go_in)
  go_ret2
  exact ⟨rfl, rfl⟩
theorem rk7 (a b : Int) (w : World) : Calls Tryz.prog 79 #[.int .i8 7, .int .i64 a, .int .i64 b] w fun e w' => e = .returned (.tuple #[.int .i64 (rkV 7 a b), .int .i64 (rkE 7 b)]) ∧ w' = w := by
  have hd : 0 ≤ b % 64 := by omega
  have hd2 : b % 64 < 64 := by omega
  go_enter Tryz.func79, Tryz.ntmps79
  go_wp2_with (first | (go_at_call 99; refine (dist_any _ _).mono ?_; rintro e w' ⟨rfl, rfl⟩) | (go_at_call 100; refine (oneIf_any _ _).mono ?_; rintro e w' ⟨rfl, rfl⟩) | go_in)
  go_ret2
  exact ⟨rfl, rfl⟩
theorem rk8 (a b : Int) (w : World) : Calls Tryz.prog 79 #[.int .i8 8, .int .i64 a, .int .i64 b] w fun e w' => e = .returned (.tuple #[.int .i64 (rkV 8 a b), .int .i64 (rkE 8 b)]) ∧ w' = w := by
  have hd : 0 ≤ b % 64 := by omega
  have hd2 : b % 64 < 64 := by omega
  go_enter Tryz.func79, Tryz.ntmps79
  go_wp2_with (first | (go_at_call 99; refine (dist_any _ _).mono ?_; rintro e w' ⟨rfl, rfl⟩) | (go_at_call 100; refine (oneIf_any _ _).mono ?_; rintro e w' ⟨rfl, rfl⟩) | go_in)
  go_ret2
  exact ⟨rfl, rfl⟩
theorem rk9 (a b : Int) (w : World) : Calls Tryz.prog 79 #[.int .i8 9, .int .i64 a, .int .i64 b] w fun e w' => e = .returned (.tuple #[.int .i64 (rkV 9 a b), .int .i64 (rkE 9 b)]) ∧ w' = w := by
  go_enter Tryz.func79, Tryz.ntmps79
  go_wp2_with (first | (go_at_call 99; refine (dist_any _ _).mono ?_; rintro e w' ⟨rfl, rfl⟩) | (go_at_call 100; refine (oneIf_any _ _).mono ?_; rintro e w' ⟨rfl, rfl⟩) | go_in)
  go_ret2
  exact ⟨rfl, rfl⟩
theorem rk10 (a b : Int) (w : World) : Calls Tryz.prog 79 #[.int .i8 10, .int .i64 a, .int .i64 b] w fun e w' => e = .returned (.tuple #[.int .i64 (rkV 10 a b), .int .i64 (rkE 10 b)]) ∧ w' = w := by
  go_enter Tryz.func79, Tryz.ntmps79
  go_wp2_with (first | (go_at_call 99; refine (dist_any _ _).mono ?_; rintro e w' ⟨rfl, rfl⟩) | (go_at_call 100; refine (oneIf_any _ _).mono ?_; rintro e w' ⟨rfl, rfl⟩) | go_in)
  go_ret2
  exact ⟨rfl, rfl⟩
theorem rk11 (a b : Int) (w : World) : Calls Tryz.prog 79 #[.int .i8 11, .int .i64 a, .int .i64 b] w fun e w' => e = .returned (.tuple #[.int .i64 (rkV 11 a b), .int .i64 (rkE 11 b)]) ∧ w' = w := by
  go_enter Tryz.func79, Tryz.ntmps79
  go_wp2_with (first | (go_at_call 99; refine (dist_any _ _).mono ?_; rintro e w' ⟨rfl, rfl⟩) | (go_at_call 100; refine (oneIf_any _ _).mono ?_; rintro e w' ⟨rfl, rfl⟩) | go_in)
  go_ret2
  exact ⟨rfl, rfl⟩
theorem rk12 (a b : Int) (w : World) : Calls Tryz.prog 79 #[.int .i8 12, .int .i64 a, .int .i64 b] w fun e w' => e = .returned (.tuple #[.int .i64 (rkV 12 a b), .int .i64 (rkE 12 b)]) ∧ w' = w := by
  go_enter Tryz.func79, Tryz.ntmps79
  go_wp2_with (first | (go_at_call 99; refine (dist_any _ _).mono ?_; rintro e w' ⟨rfl, rfl⟩) | (go_at_call 100; refine (oneIf_any _ _).mono ?_; rintro e w' ⟨rfl, rfl⟩) | go_in)
  go_ret2
  exact ⟨rfl, rfl⟩
theorem rk13 (a b : Int) (w : World) (h1 : -9223372036854775808 ≤ a) (h2 : a ≤ 9223372036854775807) : Calls Tryz.prog 79 #[.int .i8 13, .int .i64 a, .int .i64 b] w fun e w' => e = .returned (.tuple #[.int .i64 (rkV 13 a b), .int .i64 (rkE 13 b)]) ∧ w' = w := by
  have hr : Hid (wrap64 (a - wrap64 (wrap64 (a.tdiv b) * b)) = a.tmod b) := rest_form a b h1 h2
  clear h1 h2
  by_cases hb : b = 0
  · have e1 : rkV 13 a b = 0 := by subst hb; rfl
    have e2 : rkE 13 b = 101 := by subst hb; rfl
    rw [e1, e2]
    subst hb
    clear hr e1 e2
    go_enter Tryz.func79, Tryz.ntmps79
    go_wp2_with (first | (go_at_call 99; refine (dist_any _ _).mono ?_; rintro e w' ⟨rfl, rfl⟩) | (go_at_call 100; refine (oneIf_any _ _).mono ?_; rintro e w' ⟨rfl, rfl⟩) | go_in)
    go_ret2
    exact ⟨rfl, rfl⟩
  · have e1 : rkV 13 a b = wrap64 (a.tdiv b) := by unfold rkV; simp [hb]
    have e2 : rkE 13 b = 0 := by unfold rkE; simp [hb]
    rw [e1, e2]
    clear e1 e2
    have hq : (b == 0) = false := by simp [hb]
    go_enter Tryz.func79, Tryz.ntmps79
    go_wp2_with (first | (go_at_call 99; refine (dist_any _ _).mono ?_; rintro e w' ⟨rfl, rfl⟩) | (go_at_call 100; refine (oneIf_any _ _).mono ?_; rintro e w' ⟨rfl, rfl⟩) | go_in)
    go_ret2
    exact ⟨rfl, rfl⟩
theorem rk14 (a b : Int) (w : World) (h1 : -9223372036854775808 ≤ a) (h2 : a ≤ 9223372036854775807) : Calls Tryz.prog 79 #[.int .i8 14, .int .i64 a, .int .i64 b] w fun e w' => e = .returned (.tuple #[.int .i64 (rkV 14 a b), .int .i64 (rkE 14 b)]) ∧ w' = w := by
  have hr : Hid (wrap64 (a - wrap64 (wrap64 (a.tdiv b) * b)) = a.tmod b) := rest_form a b h1 h2
  clear h1 h2
  by_cases hb : b = 0
  · have e1 : rkV 14 a b = 0 := by subst hb; rfl
    have e2 : rkE 14 b = 101 := by subst hb; rfl
    rw [e1, e2]
    subst hb
    clear hr e1 e2
    go_enter Tryz.func79, Tryz.ntmps79
    go_wp2_with (first | (go_at_call 99; refine (dist_any _ _).mono ?_; rintro e w' ⟨rfl, rfl⟩) | (go_at_call 100; refine (oneIf_any _ _).mono ?_; rintro e w' ⟨rfl, rfl⟩) | go_in)
    go_ret2
    exact ⟨rfl, rfl⟩
  · have e1 : rkV 14 a b = a.tmod b := by unfold rkV; simp [hb]
    have e2 : rkE 14 b = 0 := by unfold rkE; simp [hb]
    rw [e1, e2]
    clear e1 e2
    have hq : (b == 0) = false := by simp [hb]
    go_enter Tryz.func79, Tryz.ntmps79
    go_wp2_with (first | (go_at_call 99; refine (dist_any _ _).mono ?_; rintro e w' ⟨rfl, rfl⟩) | (go_at_call 100; refine (oneIf_any _ _).mono ?_; rintro e w' ⟨rfl, rfl⟩) | go_in)
    go_ret2
    exact ⟨rfl, rfl⟩
theorem rkNone (d a b : Int) (w : World) (h : d < 2 ∨ 14 < d) : Calls Tryz.prog 79 #[.int .i8 d, .int .i64 a, .int .i64 b] w fun e w' => e = .returned (.tuple #[.int .i64 (rkV d a b), .int .i64 (rkE d b)]) ∧ w' = w := by
  have e1 : rkV d a b = 0 := by unfold rkV; repeat (rw [if_neg (by omega)])
  have e2 : rkE d b = 2 := by unfold rkE; repeat (rw [if_neg (by omega)])
  rw [e1, e2]
  clear e1 e2
  have g2 : (d == 2) = false := by simp; omega
  have g3 : (d == 3) = false := by simp; omega
  have g4 : (d == 4) = false := by simp; omega
  have g5 : (d == 5) = false := by simp; omega
  have g6 : (d == 6) = false := by simp; omega
  have g7 : (d == 7) = false := by simp; omega
  have g8 : (d == 8) = false := by simp; omega
  have g9 : (d == 9) = false := by simp; omega
  have g10 : (d == 10) = false := by simp; omega
  have g11 : (d == 11) = false := by simp; omega
  have g12 : (d == 12) = false := by simp; omega
  have g13 : (d == 13) = false := by simp; omega
  have g14 : (d == 14) = false := by simp; omega
  clear h
  go_enter Tryz.func79, Tryz.ntmps79
  go_wp2
  go_ret2
  exact ⟨rfl, rfl⟩
theorem rk_any (d a b : Int) (w : World) (h1 : -9223372036854775808 ≤ a) (h2 : a ≤ 9223372036854775807) : Calls Tryz.prog 79 #[.int .i8 d, .int .i64 a, .int .i64 b] w fun e w' => e = .returned (.tuple #[.int .i64 (rkV d a b), .int .i64 (rkE d b)]) ∧ w' = w := by
  by_cases h : d < 2 ∨ 14 < d
  · exact rkNone d a b w h
  · have hh : d = 2 ∨ d = 3 ∨ d = 4 ∨ d = 5 ∨ d = 6 ∨ d = 7 ∨ d = 8 ∨ d = 9 ∨ d = 10 ∨ d = 11 ∨ d = 12 ∨ d = 13 ∨ d = 14 := by omega
    rcases hh with rfl | rfl | rfl | rfl | rfl | rfl | rfl | rfl | rfl | rfl | rfl | rfl | rfl
    · exact rk2 a b w
    · exact rk3 a b w
    · exact rk4 a b w
    · exact rk5 a b w
    · exact rk6 a b w
    · exact rk7 a b w
    · exact rk8 a b w
    · exact rk9 a b w
    · exact rk10 a b w
    · exact rk11 a b w
    · exact rk12 a b w
    · exact rk13 a b w h1 h2
    · exact rk14 a b w h1 h2
end Go.Proofs.YtddcndlogoajkaaGreatDoor.L8.Op
