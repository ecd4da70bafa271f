/- What the document makes of two numbers (its Reckon), read off the program by the walk: the same as package ops. Conditions: the numbers are of 64 bits. -/
import Derived.Test.YtldfjlepbbmhnaaDoorRk
namespace Go.Proofs.YtldfjlepbbmhnaaDoor.Op
open Go.ChangeShapes Go.WideShapes Go.ChangeAt Go.RowKit
set_option maxRecDepth 20000
theorem truth_any (x : Bool) (w : World) : Calls Tryd.prog 85 #[.bool x] w fun e w' => e = .returned (.int .i64 (b2i x)) ∧ w' = w := by
  cases x
  all_goals
    go_enter Tryd.func85, Tryd.ntmps85
    go_wp2
    go_ret
    exact ⟨rfl, rfl⟩
theorem rf2 (a b : Int) (w : World) : Calls Tryd.prog 67 #[.int .i8 2, .int .i64 a, .int .i64 b] w fun e w' => e = .returned (.tuple #[.int .i64 (rkV 2 a b), .int .i64 (rkE 2 b)]) ∧ w' = w := by
  go_enter Tryd.func67, Tryd.ntmps67
  go_wp2_with (first | (go_at_call 85; refine (truth_any _ _).mono ?_; rintro e w' ⟨rfl, rfl⟩))
  go_ret2
  exact ⟨rfl, rfl⟩
theorem rf3 (a b : Int) (w : World) : Calls Tryd.prog 67 #[.int .i8 3, .int .i64 a, .int .i64 b] w fun e w' => e = .returned (.tuple #[.int .i64 (rkV 3 a b), .int .i64 (rkE 3 b)]) ∧ w' = w := by
  go_enter Tryd.func67, Tryd.ntmps67
  go_wp2_with (first | (go_at_call 85; refine (truth_any _ _).mono ?_; rintro e w' ⟨rfl, rfl⟩))
  go_ret2
  exact ⟨rfl, rfl⟩
theorem rf4 (a b : Int) (w : World) : Calls Tryd.prog 67 #[.int .i8 4, .int .i64 a, .int .i64 b] w fun e w' => e = .returned (.tuple #[.int .i64 (rkV 4 a b), .int .i64 (rkE 4 b)]) ∧ w' = w := by
  go_enter Tryd.func67, Tryd.ntmps67
  go_wp2_with (first | (go_at_call 85; refine (truth_any _ _).mono ?_; rintro e w' ⟨rfl, rfl⟩))
  go_ret2
  exact ⟨rfl, rfl⟩
theorem rf5 (a b : Int) (w : World) : Calls Tryd.prog 67 #[.int .i8 5, .int .i64 a, .int .i64 b] w fun e w' => e = .returned (.tuple #[.int .i64 (rkV 5 a b), .int .i64 (rkE 5 b)]) ∧ w' = w := by
  go_enter Tryd.func67, Tryd.ntmps67
  go_wp2_with (first | (go_at_call 85; refine (truth_any _ _).mono ?_; rintro e w' ⟨rfl, rfl⟩))
  go_ret2
  exact ⟨rfl, rfl⟩
theorem rf6 (a b : Int) (w : World) : Calls Tryd.prog 67 #[.int .i8 6, .int .i64 a, .int .i64 b] w fun e w' => e = .returned (.tuple #[.int .i64 (rkV 6 a b), .int .i64 (rkE 6 b)]) ∧ w' = w := by
  go_enter Tryd.func67, Tryd.ntmps67
  go_wp2_with (first | (go_at_call 85; refine (truth_any _ _).mono ?_; rintro e w' ⟨rfl, rfl⟩))
  go_ret2
  exact ⟨rfl, rfl⟩
theorem rf7 (a b : Int) (w : World) : Calls Tryd.prog 67 #[.int .i8 7, .int .i64 a, .int .i64 b] w fun e w' => e = .returned (.tuple #[.int .i64 (rkV 7 a b), .int .i64 (rkE 7 b)]) ∧ w' = w := by
  have H63 := and63 b
  have hd : 0 ≤ b % 64 := by omega
  have hd2 : b % 64 < 64 := by omega
  go_enter Tryd.func67, Tryd.ntmps67
  go_wp2_with (first | (go_at_call 85; refine (truth_any _ _).mono ?_; rintro e w' ⟨rfl, rfl⟩))
  go_ret2
  exact ⟨rfl, rfl⟩
theorem rf8 (a b : Int) (w : World) : Calls Tryd.prog 67 #[.int .i8 8, .int .i64 a, .int .i64 b] w fun e w' => e = .returned (.tuple #[.int .i64 (rkV 8 a b), .int .i64 (rkE 8 b)]) ∧ w' = w := by
  have H63 := and63 b
  have hd : 0 ≤ b % 64 := by omega
  have hd2 : b % 64 < 64 := by omega
  go_enter Tryd.func67, Tryd.ntmps67
  go_wp2_with (first | (go_at_call 85; refine (truth_any _ _).mono ?_; rintro e w' ⟨rfl, rfl⟩))
  go_ret2
  exact ⟨rfl, rfl⟩
theorem rf9 (a b : Int) (w : World) : Calls Tryd.prog 67 #[.int .i8 9, .int .i64 a, .int .i64 b] w fun e w' => e = .returned (.tuple #[.int .i64 (rkV 9 a b), .int .i64 (rkE 9 b)]) ∧ w' = w := by
  go_enter Tryd.func67, Tryd.ntmps67
  go_wp2_with (first | (go_at_call 85; refine (truth_any _ _).mono ?_; rintro e w' ⟨rfl, rfl⟩))
  go_ret2
  exact ⟨rfl, rfl⟩
theorem rf10 (a b : Int) (w : World) : Calls Tryd.prog 67 #[.int .i8 10, .int .i64 a, .int .i64 b] w fun e w' => e = .returned (.tuple #[.int .i64 (rkV 10 a b), .int .i64 (rkE 10 b)]) ∧ w' = w := by
  go_enter Tryd.func67, Tryd.ntmps67
  go_wp2_with (first | (go_at_call 85; refine (truth_any _ _).mono ?_; rintro e w' ⟨rfl, rfl⟩))
  go_ret2
  exact ⟨rfl, rfl⟩
theorem rf11 (a b : Int) (w : World) : Calls Tryd.prog 67 #[.int .i8 11, .int .i64 a, .int .i64 b] w fun e w' => e = .returned (.tuple #[.int .i64 (rkV 11 a b), .int .i64 (rkE 11 b)]) ∧ w' = w := by
  go_enter Tryd.func67, Tryd.ntmps67
  go_wp2_with (first | (go_at_call 85; refine (truth_any _ _).mono ?_; rintro e w' ⟨rfl, rfl⟩))
  go_ret2
  exact ⟨rfl, rfl⟩
theorem rf12 (a b : Int) (w : World) : Calls Tryd.prog 67 #[.int .i8 12, .int .i64 a, .int .i64 b] w fun e w' => e = .returned (.tuple #[.int .i64 (rkV 12 a b), .int .i64 (rkE 12 b)]) ∧ w' = w := by
  go_enter Tryd.func67, Tryd.ntmps67
  go_wp2_with (first | (go_at_call 85; refine (truth_any _ _).mono ?_; rintro e w' ⟨rfl, rfl⟩))
  go_ret2
  exact ⟨rfl, rfl⟩
theorem rf13 (a b : Int) (w : World) (h1 : -9223372036854775808 ≤ a) (h2 : a ≤ 9223372036854775807) : Calls Tryd.prog 67 #[.int .i8 13, .int .i64 a, .int .i64 b] w fun e w' => e = .returned (.tuple #[.int .i64 (rkV 13 a b), .int .i64 (rkE 13 b)]) ∧ w' = w := by
  have hr : Hid (wrap64 (a - wrap64 (wrap64 (a.tdiv b) * b)) = a.tmod b) := rest_form a b h1 h2
  clear h1 h2
  by_cases hb : b = 0
  · have e1 : rkV 13 a b = 0 := by subst hb; rfl
    have e2 : rkE 13 b = 101 := by subst hb; rfl
    rw [e1, e2]
    subst hb
    clear hr e1 e2
    go_enter Tryd.func67, Tryd.ntmps67
    go_wp2_with (first | (go_at_call 85; refine (truth_any _ _).mono ?_; rintro e w' ⟨rfl, rfl⟩))
    go_ret2
    exact ⟨rfl, rfl⟩
  · have e1 : rkV 13 a b = wrap64 (a.tdiv b) := by unfold rkV; simp [hb]
    have e2 : rkE 13 b = 0 := by unfold rkE; simp [hb]
    rw [e1, e2]
    clear e1 e2
    have hq : (b == 0) = false := by simp [hb]
    go_enter Tryd.func67, Tryd.ntmps67
    go_wp2_with (first | (go_at_call 85; refine (truth_any _ _).mono ?_; rintro e w' ⟨rfl, rfl⟩))
    go_ret2
    exact ⟨rfl, rfl⟩
theorem rf14 (a b : Int) (w : World) (h1 : -9223372036854775808 ≤ a) (h2 : a ≤ 9223372036854775807) : Calls Tryd.prog 67 #[.int .i8 14, .int .i64 a, .int .i64 b] w fun e w' => e = .returned (.tuple #[.int .i64 (rkV 14 a b), .int .i64 (rkE 14 b)]) ∧ w' = w := by
  have hr : Hid (wrap64 (a - wrap64 (wrap64 (a.tdiv b) * b)) = a.tmod b) := rest_form a b h1 h2
  clear h1 h2
  by_cases hb : b = 0
  · have e1 : rkV 14 a b = 0 := by subst hb; rfl
    have e2 : rkE 14 b = 101 := by subst hb; rfl
    rw [e1, e2]
    subst hb
    clear hr e1 e2
    go_enter Tryd.func67, Tryd.ntmps67
    go_wp2_with (first | (go_at_call 85; refine (truth_any _ _).mono ?_; rintro e w' ⟨rfl, rfl⟩))
    go_ret2
    exact ⟨rfl, rfl⟩
  · have e1 : rkV 14 a b = a.tmod b := by unfold rkV; simp [hb]
    have e2 : rkE 14 b = 0 := by unfold rkE; simp [hb]
    rw [e1, e2]
    clear e1 e2
    have hq : (b == 0) = false := by simp [hb]
    go_enter Tryd.func67, Tryd.ntmps67
    go_wp2_with (first | (go_at_call 85; refine (truth_any _ _).mono ?_; rintro e w' ⟨rfl, rfl⟩))
    go_ret2
    exact ⟨ret_two hr.out rfl, rfl⟩
theorem rfNone (d a b : Int) (w : World) (h : d < 2 ∨ 14 < d) : Calls Tryd.prog 67 #[.int .i8 d, .int .i64 a, .int .i64 b] w fun e w' => e = .returned (.tuple #[.int .i64 (rkV d a b), .int .i64 (rkE d b)]) ∧ w' = w := by
  have e1 : rkV d a b = 0 := by unfold rkV; repeat (rw [if_neg (by omega)])
  have e2 : rkE d b = 2 := by unfold rkE; repeat (rw [if_neg (by omega)])
  rw [e1, e2]
  clear e1 e2
  have g2 : (d == 2) = false := by simp; omega
  have g3 : (d == 3) = false := by simp; omega
  have g4 : (d == 4) = false := by simp; omega
  have g5 : (d == 5) = false := by simp; omega
  have g6 : (d == 6) = false := by simp; omega
  have g7 : (d == 7) = false := by simp; omega
  have g8 : (d == 8) = false := by simp; omega
  have g9 : (d == 9) = false := by simp; omega
  have g10 : (d == 10) = false := by simp; omega
  have g11 : (d == 11) = false := by simp; omega
  have g12 : (d == 12) = false := by simp; omega
  have g13 : (d == 13) = false := by simp; omega
  have g14 : (d == 14) = false := by simp; omega
  clear h
  go_enter Tryd.func67, Tryd.ntmps67
  go_wp2
  go_ret2
  exact ⟨rfl, rfl⟩
theorem rf_any (d a b : Int) (w : World) (h1 : -9223372036854775808 ≤ a) (h2 : a ≤ 9223372036854775807) : Calls Tryd.prog 67 #[.int .i8 d, .int .i64 a, .int .i64 b] w fun e w' => e = .returned (.tuple #[.int .i64 (rkV d a b), .int .i64 (rkE d b)]) ∧ w' = w := by
  by_cases h : d < 2 ∨ 14 < d
  · exact rfNone d a b w h
  · have hh : d = 2 ∨ d = 3 ∨ d = 4 ∨ d = 5 ∨ d = 6 ∨ d = 7 ∨ d = 8 ∨ d = 9 ∨ d = 10 ∨ d = 11 ∨ d = 12 ∨ d = 13 ∨ d = 14 := by omega
    rcases hh with rfl | rfl | rfl | rfl | rfl | rfl | rfl | rfl | rfl | rfl | rfl | rfl | rfl
    · exact rf2 a b w
    · exact rf3 a b w
    · exact rf4 a b w
    · exact rf5 a b w
    · exact rf6 a b w
    · exact rf7 a b w
    · exact rf8 a b w
    · exact rf9 a b w
    · exact rf10 a b w
    · exact rf11 a b w
    · exact rf12 a b w
    · exact rf13 a b w h1 h2
    · exact rf14 a b w h1 h2
end Go.Proofs.YtldfjlepbbmhnaaDoor.Op
