/- What the document's own Put, Get and Signed answer, read off its loops by the walk. Conditions: the words are from 0 to 2^64 - 1. -/
import Derived.Test.YtckjioiijmmopaaDoorBc
import Derived.Test.YtckjioiijmmopaaDoorBa
namespace Go.Proofs.YtckjioiijmmopaaDoor.Op
open Go.ChangeShapes Go.WideShapes Go.ChangeAt Go.RowKit

theorem one_any (a n : Int) (w : World) :
    Calls Tryd.prog 36 #[.int .i64 a, .int .i64 n] w fun e w' => e = .returned (.bool (fieldB a n)) ∧ w' = w := by
  by_cases h1 : 1 ≤ n
  · by_cases h2 : n ≤ 64
    · by_cases h3 : 0 ≤ a
      all_goals
        go_enter Tryd.func36, Tryd.ntmps36
        go_wp2
        go_ret
        refine ⟨ret_bool ?_, rfl⟩
        rw [Bool.eq_iff_iff, field_iff]; simp; omega
    · go_enter Tryd.func36, Tryd.ntmps36
      go_wp2
      go_ret
      refine ⟨ret_bool ?_, rfl⟩
      rw [Bool.eq_iff_iff, field_iff]; simp; omega
  · go_enter Tryd.func36, Tryd.ntmps36
    go_wp2
    go_ret
    refine ⟨ret_bool ?_, rfl⟩
    rw [Bool.eq_iff_iff, field_iff]; simp; omega

set_option maxRecDepth 10000 in
theorem rput_any (x a n y : Int) (w : World) (x0 : 0 ≤ x) (x1 : x < 18446744073709551616) (y0 : 0 ≤ y) (y1 : y < 18446744073709551616) :
    Calls Tryd.prog 31 #[.int .u64 x, .int .i64 a, .int .i64 n, .int .u64 y] w fun e w' => e = .returned (.int .u64 (putI x a n y)) ∧ w' = w := by
  cases h : fieldB a n
  · have H0 : putI x a n y = x := by unfold putI; rw [if_neg (by rw [h]; decide)]
    have H : Hid (putI x a n y = x) := H0
    clear H0
    go_enter Tryd.func31, Tryd.ntmps31
    go_wp2_with (go_at_call 36; refine (one_any _ _ _).mono ?_; rintro e w' ⟨rfl, rfl⟩)
    go_ret
    exact ⟨ret_int H.out.symm, rfl⟩
  · obtain ⟨h1, h2, h3, h4⟩ := (field_iff a n).1 h
    have H0 : putTo x a y n.toNat = putI x a n y := by unfold putI putTo; rw [if_pos h]
    have H : Hid (putTo x a y n.toNat = putI x a n y) := H0
    clear H0
    go_enter Tryd.func31, Tryd.ntmps31
    go_wp2_with (go_at_call 36; refine (one_any _ _ _).mono ?_; rintro e w' ⟨rfl, rfl⟩)
    go_loop [0, 9] (fun v i => ∃ k : Nat, (k : Int) ≤ n ∧ i = .int .i64 k ∧ v = .int .u64 (putTo x a y k)) (fun _ i => (n - intOf i).toNat)
    case atStart => exact ⟨0, by omega, rfl, by unfold putTo; rw [put_none, Int.toNat_of_nonneg x0]⟩
    case round =>
      obtain ⟨k, hk, rfl, rfl⟩ := hrel
      by_cases hlt : (k : Int) < n
      · have HY : Hid _ := put_round_yes x a n y k x0 x1 y0 y1 h2 h3 h4 hlt
        have HN : Hid _ := put_round_no x a n y k x0 x1 y0 y1 h2 h3 h4 hlt
        generalize hv : putTo x a y k = v at *
        clear hv
        go_wp2
        all_goals
          go_round
          case rel =>
            refine ⟨k + 1, by omega, by go_num, ?_⟩
            first | rw [HY.out (by assumption)] | rw [HN.out (by assumption)]
          case measure => simp [intOf]; omega
      · go_wp2
        go_ret
        refine ⟨ret_int ?_, rfl⟩
        rw [← H.out, show n.toNat = k by omega]

set_option maxRecDepth 10000 in
theorem rget_any (x a n : Int) (w : World) (x0 : 0 ≤ x) (x1 : x < 18446744073709551616) :
    Calls Tryd.prog 39 #[.int .u64 x, .int .i64 a, .int .i64 n] w fun e w' => e = .returned (.int .u64 (getI x a n)) ∧ w' = w := by
  cases h : fieldB a n
  · have H0 : getI x a n = 0 := by unfold getI; rw [if_neg (by rw [h]; decide)]
    have H : Hid (getI x a n = 0) := H0
    clear H0
    go_enter Tryd.func39, Tryd.ntmps39
    go_wp2_with (go_at_call 36; refine (one_any _ _ _).mono ?_; rintro e w' ⟨rfl, rfl⟩)
    go_ret
    exact ⟨ret_int H.out.symm, rfl⟩
  · obtain ⟨h1, h2, h3, h4⟩ := (field_iff a n).1 h
    have H0 : getTo x a n 0 = getI x a n := by unfold getI getTo; rw [if_pos h, Nat.add_zero, Nat.sub_zero]
    have H : Hid (getTo x a n 0 = getI x a n) := H0
    clear H0
    go_enter Tryd.func39, Tryd.ntmps39
    go_wp2_with (go_at_call 36; refine (one_any _ _ _).mono ?_; rintro e w' ⟨rfl, rfl⟩)
    go_loop [7, 8] (fun v i => ∃ k : Nat, (k : Int) ≤ n ∧ i = .int .i64 ((k : Int) - 1) ∧ v = .int .u64 (getTo x a n k)) (fun _ i => (intOf i + 1).toNat)
    case atStart => exact ⟨n.toNat, by omega, by rw [Int.toNat_of_nonneg (by omega)], by simp [getTo, getN, Nat.mod_one]⟩
    case round =>
      obtain ⟨k, hk, rfl, rfl⟩ := hrel
      by_cases hlt : 1 ≤ (k : Int)
      · have HR : Hid _ := get_round x a n k x0 x1 h2 h3 h4 hk hlt
        generalize hv : getTo x a n k = v at *
        clear hv
        go_wp2
        go_round
        case rel => exact ⟨k - 1, by omega, by rw [show (((k - 1 : Nat) : Int)) = (k : Int) - 1 by omega], by rw [HR.out]⟩
        case measure => simp [intOf]; omega
      · go_wp2
        go_ret
        refine ⟨ret_int ?_, rfl⟩
        rw [← H.out, show k = 0 by omega]

set_option maxRecDepth 10000 in
theorem rsigned_mid (x n : Int) (w : World) (x0 : 0 ≤ x) (x1 : x < 18446744073709551616) (h1 : 1 ≤ n) (h2 : n ≤ 64) :
    Calls Tryd.prog 40 #[.int .u64 x, .int .i64 n] w fun e w' => e = .returned (.int .i64 (sgI x n)) ∧ w' = w := by
  have H0 : sgTo x n 0 = sgI x n := by unfold sgI sgTo; rw [cl_id n h1 h2, Int.pow_zero, Int.ediv_one, Nat.sub_zero]
  have H : Hid (sgTo x n 0 = sgI x n) := H0
  have HF : Hid _ := sg_first x n x0 x1 h1
  clear H0
  go_enter Tryd.func40, Tryd.ntmps40
  go_wp2
  go_loop [5, 6] (fun v i => ∃ k : Nat, (k : Int) < n ∧ i = .int .i64 ((k : Int) - 1) ∧ v = .int .i64 (sgTo x n k)) (fun _ i => (intOf i + 1).toNat)
  case atStart => exact ⟨n.toNat - 1, by omega, by rw [show (((n.toNat - 1 : Nat) : Int)) - 1 = n - 2 by omega], by rw [HF.out]⟩
  case round =>
    obtain ⟨k, hk, rfl, rfl⟩ := hrel
    by_cases hlt : 1 ≤ (k : Int)
    · have HR : Hid _ := sg_round x n k x0 x1 h2 hk hlt
      generalize hv : sgTo x n k = v at *
      clear hv
      go_wp2
      go_round
      case rel => exact ⟨k - 1, by omega, by rw [show (((k - 1 : Nat) : Int)) = (k : Int) - 1 by omega], by rw [HR.out]⟩
      case measure => simp [intOf]; omega
    · go_wp2
      go_ret
      refine ⟨ret_int ?_, rfl⟩
      rw [← H.out, show k = 0 by omega]


end Go.Proofs.YtckjioiijmmopaaDoor.Op
