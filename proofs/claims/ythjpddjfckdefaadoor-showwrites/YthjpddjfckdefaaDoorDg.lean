/- The document's answer on a number's digits (Digits), read off the program by the walk. Conditions: numbers of 64 bits. -/
import Derived.Test.YthjpddjfckdefaaDoorTe
namespace Go.Proofs.YthjpddjfckdefaaDoor.Op
open Go.ChangeShapes Go.WideShapes Go.ChangeAt Go.RowKit
set_option maxRecDepth 20000

def dg (m : Nat) : UInt8 := UInt8.ofNat (48 + m % 10)
theorem encode_dg (m : Nat) : Utf8.encode (48 + (m : Int) % 10) = ⟨#[dg m]⟩ := by
  have h : m % 10 < 10 := by omega
  have e : (48 + (m : Int) % 10) = ((48 + m % 10 : Nat) : Int) := by omega
  rw [e]
  unfold dg
  generalize m % 10 = r at *
  match r, h with
  | 0, _ => rfl
  | 1, _ => rfl
  | 2, _ => rfl
  | 3, _ => rfl
  | 4, _ => rfl
  | 5, _ => rfl
  | 6, _ => rfl
  | 7, _ => rfl
  | 8, _ => rfl
  | 9, _ => rfl
  | _ + 10, h => exact absurd h (by omega)
/-- the digits ahead of the last -/
def pre (m : Nat) : List UInt8 := if m < 10 then [] else Lib.decDigits (m / 10)
theorem dec_pre (m : Nat) : Lib.decDigits m = pre m ++ [dg m] := by
  unfold pre dg
  rw [Lib.decDigits]
  split
  · rename_i h; rw [Nat.mod_eq_of_lt h]; rfl
  · rfl
theorem pre_step {m : Nat} {L t : List UInt8} (h : pre m ++ t = L) (hm : 9 < m) : pre (m / 10) ++ (dg (m / 10) :: t) = L := by
  rw [← h]
  have : pre m = Lib.decDigits (m / 10) := by unfold pre; rw [if_neg (by omega)]
  rw [this, dec_pre (m / 10)]
  simp
theorem digits_nat (n : Nat) (w : World) (h1 : n ≤ 9223372036854775807) : Calls Tryd.prog 45 #[.int .i64 (n : Int)] w fun e w' => e = .returned (.string (itS n)) ∧ w' = w := by
  have HI : Hid (itS n = ⟨(Lib.decDigits n).toArray⟩) := by
    show _ = _
    unfold itS Lib.itoa
    rw [if_neg (by omega)]; rfl
  have HL : Hid ((Lib.decDigits n).length ≤ 19) := dec_len 18 n (by omega)
  have ht : (n : Int).tmod 10 = (n : Int) % 10 := Int.tmod_eq_emod_of_nonneg (by omega)
  have he := encode_dg n
  have n0 : ¬ ((n : Int) < 0) := by omega
  go_enter Tryd.func45, Tryd.ntmps45
  go_wp2
  go_loop [0, 3] (fun v s => ∃ (m : Nat) (t : ByteArray), m ≤ n ∧ v = .int .i64 m ∧ s = .string t ∧ Hid (pre m ++ t.data.toList = Lib.decDigits n)) (fun v _ => (intOf v).toNat)
  case atStart => exact ⟨n, ⟨#[dg n]⟩, by omega, rfl, rfl, (by rw [dec_pre n] : pre n ++ [dg n] = Lib.decDigits n)⟩
  case round =>
    obtain ⟨m, t, hm, rfl, rfl, HP⟩ := hrel
    by_cases hlt : 9 < m
    · have hq : (m : Int).tdiv 10 = ((m / 10 : Nat) : Int) := by rw [Int.tdiv_eq_ediv_of_nonneg (by omega)]; omega
      have hr : ((m / 10 : Nat) : Int).tmod 10 = ((m / 10 : Nat) : Int) % 10 := Int.tmod_eq_emod_of_nonneg (by omega)
      have he2 := encode_dg (m / 10)
      have i1 : (9 : Int) < (m : Int) := by omega
      have hts : t.size ≤ 19 := by
        have h := HP.out
        have hl := HL.out
        rw [← h, List.length_append] at hl
        show t.data.toList.length ≤ 19
        omega
      obtain ⟨c, hc, hz, hcr⟩ := cat_rule ⟨#[dg (m / 10)]⟩ t 1 19 (Nat.le_refl _) hts (by omega)
      have HN : Hid (pre (m / 10) ++ c.data.toList = Lib.decDigits n) := by
        show _ = _
        rw [hc]
        exact pre_step HP.out hlt
      clear hc hz HP
      have hq0 : (0 : Int) ≤ ((m / 10 : Nat) : Int) := by omega
      have hq1 : ((m / 10 : Nat) : Int) ≤ 9223372036854775807 := by omega
      have hmm : m / 10 < m := by omega
      generalize hqn : m / 10 = q at *
      go_wp2
      go_round
      case rel => exact ⟨q, c, by omega, rfl, rfl, HN⟩
      case measure => simp [intOf]; omega
    · have i1 : ¬ ((9 : Int) < (m : Int)) := by omega
      have h := HP.out
      rw [show pre m = [] by unfold pre; rw [if_pos (by omega)], List.nil_append] at h
      have ht2 : t = itS n := by rw [HI.out]; exact ba_eq h
      clear HP h
      subst ht2
      go_wp2
      go_ret
      exact ⟨rfl, rfl⟩
theorem digits_neg (n : Int) (w : World) (h0 : -9223372036854775808 < n) (h1 : n < 0) : Calls Tryd.prog 45 #[.int .i64 n] w fun e w' => e = .returned (.string (itS n)) ∧ w' = w := by
  have hm : (-n) = ((-n).toNat : Int) := by omega
  have HD : Hid (∀ w, Calls Tryd.prog 45 #[.int .i64 (-n)] w fun e w' => e = .returned (.string (itS (-n))) ∧ w' = w) := fun w => by
    have := digits_nat (-n).toNat w (by omega)
    rw [← hm] at this; exact this
  have hl := itoa_len (-n) (by omega) (by omega)
  obtain ⟨c, hc, hz, hcr⟩ := cat_rule ⟨#[45]⟩ (itS (-n)) 1 20 (by decide) (by rw [itS, ba_size]; exact hl) (by omega)
  have HC : Hid (c = itS n) := by
    show _ = _
    apply ba_eq
    rw [hc]
    unfold itS Lib.itoa
    rw [if_neg (by omega), if_pos h1]
    simp
    congr 1
    omega
  clear hc hz hl hm
  have e1 : (n == -9223372036854775808) = false := by simp; omega
  go_enter Tryd.func45, Tryd.ntmps45
  go_wp2_with (first | (go_at_call 45; refine Calls.mono (HD.out _) ?_; rintro e w1 ⟨rfl, rfl⟩))
  go_ret
  exact ⟨by rw [← HC.out]; rfl, rfl⟩
theorem min_digits : itS (-9223372036854775808) = ⟨#[45, 57, 50, 50, 51, 51, 55, 50, 48, 51, 54, 56, 53, 52, 55, 55, 53, 56, 48, 56]⟩ := by
  unfold itS Lib.itoa
  rw [if_pos (by decide), show (-9223372036854775808 : Int).natAbs = 9223372036854775808 from rfl]
  simp [Lib.decDigits]
theorem refDigits_any (n : Int) (w : World) (h0 : -9223372036854775808 ≤ n) (h1 : n ≤ 9223372036854775807) : Calls Tryd.prog 45 #[.int .i64 n] w fun e w' => e = .returned (.string (itS n)) ∧ w' = w := by
  rcases Int.lt_or_le n 0 with h | h
  · by_cases hm : n = -9223372036854775808
    · subst hm
      rw [min_digits]
      go_enter Tryd.func45, Tryd.ntmps45
      go_wp2
      go_ret
      exact ⟨rfl, rfl⟩
    · exact digits_neg n w (by omega) h
  · obtain ⟨m, rfl⟩ := Int.eq_ofNat_of_zero_le h
    exact digits_nat m w (by omega)
end Go.Proofs.YthjpddjfckdefaaDoor.Op
