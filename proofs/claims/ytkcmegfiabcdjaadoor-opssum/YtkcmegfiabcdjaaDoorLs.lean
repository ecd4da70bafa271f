/- The law OpsSum: sums go both ways and back, a quotient and what is left make the number again, read off the program by the walk. Conditions: the table of powers lies in memory; numbers of 64 bits. -/
import Derived.Test.YtkcmegfiabcdjaaDoorWk
namespace Go.Proofs.YtkcmegfiabcdjaaDoor.Op
open Go.ChangeShapes Go.WideShapes Go.ChangeAt Go.RowKit
set_option maxRecDepth 20000

/-- a number of 64 bits -/
def I64 (a : Int) : Prop := -9223372036854775808 ≤ a ∧ a ≤ 9223372036854775807
theorem is_any (d a b : Int) (w : World) (h : I64 a) : Calls Tryd.prog 21 #[.int .i8 d, .int .i64 a, .int .i64 b] w fun e w' => e = .returned (.int .i64 (rkV d a b)) ∧ w' = w := by
  have H : Hid _ := rk_any d a b w h.1 h.2
  clear h
  generalize rkV d a b = v at *
  generalize rkE d b = u at *
  go_enter Tryd.func21, Tryd.ntmps21
  go_wp2_with (first | (go_at_call 19; refine Calls.mono H.out ?_; rintro e w1 ⟨rfl, rfl⟩))
  go_ret
  exact ⟨rfl, rfl⟩

/-! ### the numbers -/
theorem comm_add (a b : Int) : rkV 2 a b = rkV 2 b a := by show wrap64 (a + b) = wrap64 (b + a); rw [Int.add_comm]
theorem comm_and (a b : Int) : rkV 4 a b = rkV 4 b a := by show bits .and .i64 a b = bits .and .i64 b a; simp only [bits, BitVec.and_comm]
theorem comm_or (a b : Int) : rkV 5 a b = rkV 5 b a := by show bits .or .i64 a b = bits .or .i64 b a; simp only [bits, BitVec.or_comm]
theorem comm_xor (a b : Int) : rkV 6 a b = rkV 6 b a := by show bits .xor .i64 a b = bits .xor .i64 b a; simp only [bits, BitVec.xor_comm]
theorem comm_mul (a b : Int) : rkV 12 a b = rkV 12 b a := by show wrap64 (a * b) = wrap64 (b * a); rw [Int.mul_comm]
theorem comm_eq (a b : Int) : rkV 10 a b = rkV 10 b a := by
  show b2i (a == b) = b2i (b == a)
  rw [show (a == b) = (b == a) by rw [Bool.eq_iff_iff]; simp; omega]
theorem sub_add {a b : Int} (h : I64 a) : rkV 3 (rkV 2 a b) b = a := by
  show wrap64 (wrap64 (a + b) - b) = a
  obtain ⟨h1, h2⟩ := h
  unfold wrap64; omega
theorem shl_mod (a b : Int) : rkV 7 a b = rkV 7 a (bits .and .i64 b 63) := by
  show wrap64 (a * 2 ^ (b % 64).toNat) = wrap64 (a * 2 ^ (bits .and .i64 b 63 % 64).toNat)
  rw [and63, Int.emod_emod]
theorem shr_64 (a : Int) : rkV 8 a 64 = a := by
  show a / 2 ^ ((64 : Int) % 64).toNat = a
  simp
theorem move_eq (a b : Int) : rkV 11 a b = a := rfl
theorem add_i64 (a b : Int) : I64 (rkV 2 a b) := by
  show I64 (wrap64 (a + b))
  unfold wrap64 I64; omega
theorem quo_form {a b : Int} (h : I64 a) : wrap64 (wrap64 (wrap64 (a.tdiv b) * b) + a.tmod b) = a := by
  have e : wrap64 (wrap64 (wrap64 (a.tdiv b) * b) + a.tmod b) = wrap64 a := by
    refine we ?_
    rw [Int.add_emod, wm, Int.mul_emod, wm, ← Int.mul_emod, ← Int.add_emod, Int.mul_comm, Int.mul_tdiv_add_tmod]
  rw [e, wid h.1 h.2]
theorem rest_sign (a b : Int) : (a.tmod b == 0) = false → (decide (a.tmod b < 0)) = (decide (a < 0)) := by
  intro h
  have h0 : a.tmod b ≠ 0 := by simpa using h
  rcases Int.le_total 0 a with ha | ha
  · have := Int.tmod_nonneg b ha
    rw [Bool.eq_iff_iff]; simp; omega
  · have : a.tmod b ≤ 0 := by
      have := Int.tmod_nonneg b (show 0 ≤ -a by omega)
      rw [Int.neg_tmod] at this
      omega
    have ha2 : a ≠ 0 := by
      rintro rfl
      simp at h0
    rw [Bool.eq_iff_iff]; simp; omega
theorem one_of (a b : Int) : wrap64 (wrap64 (rkV 9 a b + rkV 9 b a) + rkV 10 a b) = 1 := by
  show wrap64 (wrap64 (b2i (decide (a < b)) + b2i (decide (b < a))) + b2i (a == b)) = 1
  rcases Int.lt_trichotomy a b with h | h | h
  · have h1 : ¬ b < a := by omega
    have h2 : ¬ a = b := by omega
    simp [h, h1, h2, b2i, wrap64]
  · subst h; simp [b2i, wrap64]
  · have h1 : ¬ a < b := by omega
    have h2 : ¬ a = b := by omega
    simp [h, h1, h2, b2i, wrap64]
theorem quo_zero (a : Int) : rkV 13 a 0 = 0 ∧ rkV 14 a 0 = 0 ∧ rkE 13 0 = 101 ∧ rkE 14 0 = 101 := ⟨rfl, rfl, rfl, rfl⟩
theorem quo_not {a b : Int} (h : b ≠ 0) : rkV 13 a b = wrap64 (a.tdiv b) ∧ rkV 14 a b = a.tmod b ∧ rkE 13 b = 0 ∧ rkE 14 b = 0 := by
  refine ⟨?_, ?_, ?_, ?_⟩
  · show (if b = 0 then 0 else wrap64 (a.tdiv b)) = _
    rw [if_neg h]
  · show (if b = 0 then 0 else a.tmod b) = _
    rw [if_neg h]
  · show (if b = 0 then (101 : Int) else 0) = _
    rw [if_neg h]
  · show (if b = 0 then (101 : Int) else 0) = _
    rw [if_neg h]
def dos : List Int := [2, 4, 5, 6, 12, 10]
theorem comm_all (a b : Int) (i : Nat) (h : i < 6) : rkV (dos[i]'h) a b = rkV (dos[i]'h) b a := by
  match i, h with
  | 0, _ => exact comm_add a b
  | 1, _ => exact comm_and a b
  | 2, _ => exact comm_or a b
  | 3, _ => exact comm_xor a b
  | 4, _ => exact comm_mul a b
  | 5, _ => exact comm_eq a b

set_option maxHeartbeats 2000000 in
theorem law_sum (a b : Int) (w : World) (ha : I64 a) (hb : I64 b) (hE : Env w) :
    Calls Tryd.prog 5 #[.int .i64 a, .int .i64 b] w fun e w' => e = .returned (.bool true) ∧ Below w.heap.size w w' := by
  have HE : Hid (Env w) := hE
  have HA : Hid (I64 a) := ha
  have HB : Hid (I64 b) := hb
  clear hE ha hb
  have hround : ∀ k : Nat, k < 6 → ∃ d : Int, (w.alloc (.cells #[.int .i8 2, .int .i8 4, .int .i8 5, .int .i8 6, .int .i8 12, .int .i8 10] 22)).cell? ⟨w.heap.size, k, none⟩ = some (.int .i8 d) ∧ rkV d a b = rkV d b a := by
    intro k hk
    refine ⟨dos[k]'hk, ?_, comm_all a b k hk⟩
    match k, hk with
    | 0, _ => simp [dos]
    | 1, _ => simp [dos]
    | 2, _ => simp [dos]
    | 3, _ => simp [dos]
    | 4, _ => simp [dos]
    | 5, _ => simp [dos]
  have HR : Hid _ := hround
  have HS : Hid (I64 (rkV 2 a b)) := add_i64 a b
  clear hround
  go_enter Tryd.func5, Tryd.ntmps5
  go_wp2
  go_loop [7, 14] (fun _ i => ∃ k : Nat, k ≤ 6 ∧ i = .int .i64 k) (fun _ i => 6 - (intOf i).toNat)
  case atStart => exact ⟨0, by omega, rfl⟩
  case round =>
    obtain ⟨k, hk, rfl⟩ := hrel
    by_cases hlt : k < 6
    · obtain ⟨d, hc, he⟩ := HR.out k hlt
      have i1 : (0 : Int) ≤ (k : Int) := by omega
      have i2 : (k : Int) < 6 := by omega
      go_wp2_with (first | (go_at_call 21; refine Calls.mono (is_any _ _ _ _ (by first | exact HA.out | exact HB.out | exact HS.out)) ?_; rintro e w1 ⟨rfl, rfl⟩) | (go_at_call 19; refine Calls.mono (rk_any _ _ _ _ HA.out.1 HA.out.2) ?_; rintro e w1 ⟨rfl, rfl⟩) | (go_at_call 18; refine Calls.mono (wakes_any _ (HE.out.al _)) ?_; rintro e w2 ⟨rfl, hb2⟩))
      go_round
      case rel => exact ⟨k + 1, by omega, by go_num⟩
      case measure => simp [intOf]; omega
    · obtain rfl : k = 6 := by omega
      have q1 := sub_add (b := b) HA.out
      have q2 := shl_mod a b
      have q3 := shr_64 a
      have q4 := move_eq a b
      clear HR hlt hk
      by_cases hb0 : b = 0
      · subst hb0
        obtain ⟨z1, z2, z3, z4⟩ := quo_zero a
        go_wp2_with (first | (go_at_call 21; refine Calls.mono (is_any _ _ _ _ (by first | exact HA.out | exact HB.out | exact HS.out)) ?_; rintro e w1 ⟨rfl, hw1⟩; subst w1) | (go_at_call 19; refine Calls.mono (rk_any _ _ _ _ HA.out.1 HA.out.2) ?_; rintro e w1 ⟨rfl, hw1⟩; subst w1) | (go_at_call 18; refine Calls.mono (wakes_any _ (HE.out.al _)) ?_; rintro e w2 ⟨rfl, hb2⟩))
        go_ret
        exact ⟨rfl, Below.trans (by go_grown) (hb2.mono (by simp))⟩
      · obtain ⟨z1, z2, z3, z4⟩ := quo_not (a := a) hb0
        have F1 := quo_form (b := b) HA.out
        have F2 := rest_sign a b
        have F3 := one_of a b
        have HQ : Hid (∀ w, Calls Tryd.prog 19 #[.int .i8 13, .int .i64 a, .int .i64 b] w fun e w' => e = .returned (.tuple #[.int .i64 (rkV 13 a b), .int .i64 0]) ∧ w' = w) := fun w => by
          have := rk13 a b w HA.out.1 HA.out.2
          rw [z3] at this; exact this
        have HT : Hid (∀ w, Calls Tryd.prog 19 #[.int .i8 14, .int .i64 a, .int .i64 b] w fun e w' => e = .returned (.tuple #[.int .i64 (rkV 14 a b), .int .i64 0]) ∧ w' = w) := fun w => by
          have := rk14 a b w HA.out.1 HA.out.2
          rw [z4] at this; exact this
        rw [← z1, ← z2] at F1
        rw [← z2] at F2
        clear z1 z2 z3 z4
        have hb1 : (b == 0) = false := by simp [hb0]
        generalize rkV 13 a b = q at *
        generalize rkV 14 a b = r at *
        cases hr0 : (r == 0)
        · have F4 := F2 hr0
          clear F2
          go_wp2_with (first | (go_at_call 21; refine Calls.mono (is_any _ _ _ _ (by first | exact HA.out | exact HB.out | exact HS.out)) ?_; rintro e w1 ⟨rfl, hw1⟩; subst w1) | (go_at_call_of 19 (Value.int IntKind.i8 13); refine Calls.mono (HQ.out _) ?_; rintro e w1 ⟨rfl, hw1⟩; subst w1) | (go_at_call_of 19 (Value.int IntKind.i8 14); refine Calls.mono (HT.out _) ?_; rintro e w1 ⟨rfl, hw1⟩; subst w1) | (go_at_call 18; refine Calls.mono (wakes_any _ (HE.out.al _)) ?_; rintro e w2 ⟨rfl, hb2⟩))
          go_ret
          exact ⟨rfl, Below.trans (by go_grown) (hb2.mono (by simp))⟩
        · clear F2
          go_wp2_with (first | (go_at_call 21; refine Calls.mono (is_any _ _ _ _ (by first | exact HA.out | exact HB.out | exact HS.out)) ?_; rintro e w1 ⟨rfl, hw1⟩; subst w1) | (go_at_call_of 19 (Value.int IntKind.i8 13); refine Calls.mono (HQ.out _) ?_; rintro e w1 ⟨rfl, hw1⟩; subst w1) | (go_at_call_of 19 (Value.int IntKind.i8 14); refine Calls.mono (HT.out _) ?_; rintro e w1 ⟨rfl, hw1⟩; subst w1) | (go_at_call 18; refine Calls.mono (wakes_any _ (HE.out.al _)) ?_; rintro e w2 ⟨rfl, hb2⟩))
          go_ret
          exact ⟨rfl, Below.trans (by go_grown) (hb2.mono (by simp))⟩
end Go.Proofs.YtkcmegfiabcdjaaDoor.Op
