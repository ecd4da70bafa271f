/- The document's own word of an operation, the operation of a word, the width: read off the program by the walk. Conditions: each lemma names the bounds of its numbers. -/
import Derived.Test.YtckjioiijmmopaaDoorWl
namespace Go.Proofs.YtckjioiijmmopaaDoor.Bu
open Go.ChangeShapes Go.WideShapes Go.ChangeAt Go.RowKit
open _root_.Go.Proofs.YtckjioiijmmopaaDoor.Op
open _root_.Go.Proofs.YtckjioiijmmopaaDoor.Tb (Tab TabAt Bnds four tabAt_new ckR)
open _root_.Go.Proofs.YtckjioiijmmopaaDoor.So
set_option maxRecDepth 20000

theorem put_top {x y : Int} {a n : Nat} (x0 : 0 ≤ x) (x1 : x < 2 ^ a) (y0 : 0 ≤ y) (hf : fieldB a n = true) : putI x a n y = x + (y % 2 ^ n) * 2 ^ a := by
  obtain ⟨X, rfl⟩ := Int.eq_ofNat_of_zero_le x0
  obtain ⟨Y, rfl⟩ := Int.eq_ofNat_of_zero_le y0
  have hX : X < 2 ^ a := by rw [pow_cast a] at x1; omega
  unfold putI putN
  rw [if_pos hf]
  simp only [Int.toNat_natCast]
  have h1 : X / 2 ^ (a + n) = 0 := Nat.div_eq_of_lt (Nat.lt_of_lt_of_le hX (Nat.pow_le_pow_right (by decide) (by omega)))
  rw [h1, Nat.mul_zero, Nat.zero_add, Nat.mod_eq_of_lt hX, Nat.add_comm, Nat.mul_comm]
  simp
theorem rword_any (o : O) (w : World) (h : Fld o) :
    Calls Tryd.prog 21 #[o.val] w fun e w' => e = .returned (.int .u64 (wdO o)) ∧ Below w.heap.size w w' := by
  obtain ⟨p0, p1, d0, d1, a0, a1, b0, b1, i0, i1⟩ := h
  obtain ⟨p, d, a, b, i⟩ := o
  simp only at p0 p1 d0 d1 a0 a1 b0 b1 i0 i1
  have hw : wdO ⟨p, d, a, b, i⟩ = p + d * 64 + a * 2048 + b * 65536 + (i % 4294967296) * 2097152 := rfl
  have H1 : Hid (∀ W, Calls Tryd.prog 31 #[.int .u64 0, .int .i64 0, .int .i64 6, .int .u64 p] W fun e w' => e = .returned (.int .u64 p) ∧ w' = W) := fun W => by
    have e : putI 0 0 6 p = p := by rw [show (0 : Int) = ((0 : Nat) : Int) from rfl, show (6 : Int) = ((6 : Nat) : Int) from rfl, put_top (by omega) (by decide) p0 (by decide)]; simp; omega
    have := rput_any 0 0 6 p W (by omega) (by omega) (by omega) (by omega)
    rw [e] at this; exact this
  have H2 : Hid (∀ W, Calls Tryd.prog 31 #[.int .u64 p, .int .i64 6, .int .i64 5, .int .u64 d] W fun e w' => e = .returned (.int .u64 (p + d * 64)) ∧ w' = W) := fun W => by
    have e : putI p 6 5 d = p + d * 64 := by rw [show (6 : Int) = ((6 : Nat) : Int) from rfl, show (5 : Int) = ((5 : Nat) : Int) from rfl, put_top p0 (show p < 64 by omega) d0 (by decide)]; simp; omega
    have := rput_any p 6 5 d W (by omega) (by omega) (by omega) (by omega)
    rw [e] at this; exact this
  have H3 : Hid (∀ W, Calls Tryd.prog 31 #[.int .u64 (p + d * 64), .int .i64 11, .int .i64 5, .int .u64 a] W fun e w' => e = .returned (.int .u64 (p + d * 64 + a * 2048)) ∧ w' = W) := fun W => by
    have e : putI (p + d * 64) 11 5 a = p + d * 64 + a * 2048 := by rw [show (11 : Int) = ((11 : Nat) : Int) from rfl, show (5 : Int) = ((5 : Nat) : Int) from rfl, put_top (by omega) (show p + d * 64 < 2048 by omega) a0 (by decide)]; simp; omega
    have := rput_any (p + d * 64) 11 5 a W (by omega) (by omega) (by omega) (by omega)
    rw [e] at this; exact this
  have H4 : Hid (∀ W, Calls Tryd.prog 31 #[.int .u64 (p + d * 64 + a * 2048), .int .i64 16, .int .i64 5, .int .u64 b] W fun e w' => e = .returned (.int .u64 (p + d * 64 + a * 2048 + b * 65536)) ∧ w' = W) := fun W => by
    have e : putI (p + d * 64 + a * 2048) 16 5 b = p + d * 64 + a * 2048 + b * 65536 := by rw [show (16 : Int) = ((16 : Nat) : Int) from rfl, show (5 : Int) = ((5 : Nat) : Int) from rfl, put_top (by omega) (show p + d * 64 + a * 2048 < 65536 by omega) b0 (by decide)]; simp; omega
    have := rput_any (p + d * 64 + a * 2048) 16 5 b W (by omega) (by omega) (by omega) (by omega)
    rw [e] at this; exact this
  have H5 : Hid (∀ W, Calls Tryd.prog 31 #[.int .u64 (p + d * 64 + a * 2048 + b * 65536), .int .i64 21, .int .i64 32, .int .u64 (i % 18446744073709551616)] W fun e w' => e = .returned (.int .u64 (wdO ⟨p, d, a, b, i⟩)) ∧ w' = W) := fun W => by
    have e : putI (p + d * 64 + a * 2048 + b * 65536) 21 32 (i % 18446744073709551616) = wdO ⟨p, d, a, b, i⟩ := by rw [hw, show (21 : Int) = ((21 : Nat) : Int) from rfl, show (32 : Int) = ((32 : Nat) : Int) from rfl, put_top (by omega) (show p + d * 64 + a * 2048 + b * 65536 < 2097152 by omega) (by omega) (by decide)]; simp
    have := rput_any (p + d * 64 + a * 2048 + b * 65536) 21 32 (i % 18446744073709551616) W (by omega) (by omega) (by omega) (by omega)
    rw [e] at this; exact this
  clear hw
  generalize wdO ⟨p, d, a, b, i⟩ = r at *
  go_enter Tryd.func21, Tryd.ntmps21
  go_wp2_with (first
    | (have hh := H1.out; go_at_call 31; refine Calls.mono (H1.out _) ?_; rintro e w1 ⟨rfl, hw1⟩; subst w1; clear H1 hh)
    | (have hh := H2.out; go_at_call 31; refine Calls.mono (H2.out _) ?_; rintro e w1 ⟨rfl, hw1⟩; subst w1; clear H2 hh)
    | (have hh := H3.out; go_at_call 31; refine Calls.mono (H3.out _) ?_; rintro e w1 ⟨rfl, hw1⟩; subst w1; clear H3 hh)
    | (have hh := H4.out; go_at_call 31; refine Calls.mono (H4.out _) ?_; rintro e w1 ⟨rfl, hw1⟩; subst w1; clear H4 hh)
    | (have hh := H5.out; go_at_call 31; refine Calls.mono (H5.out _) ?_; rintro e w1 ⟨rfl, hw1⟩; subst w1; clear H5 hh))
  go_ret
  exact ⟨rfl, by go_grown⟩

set_option maxHeartbeats 1000000 in
theorem rwidth_any (t : Tab) (w : World) (ht : t.ok = true) :
    Calls Tryd.prog 24 #[t.val] w fun e w' => e = .returned (.int .i64 (ofs t 4 : Int)) ∧ Below w.heap.size w w' := by
  have HC : Hid (∀ W, Calls Tryd.prog 20 #[t.val] W fun e w' => e = .returned (.int .i64 0) ∧ Below W.heap.size W w') := fun W => by
    have := Tb.refCheck_any t W
    rw [ck_good ht] at this
    exact this
  have HU : Hid (∀ k, k < 4 → t.u k = (U t k : Int) ∧ U t k ≤ 8) := fun k hk => ⟨u_nat ht hk, u_le ht hk⟩
  clear ht
  unfold Tab.val at *
  go_enter Tryd.func24, Tryd.ntmps24
  go_wp2_with (first | (go_at_call 20; refine Calls.mono (HC.out _) ?_; rintro e w1 ⟨rfl, hb⟩; have HB : Hid (TabAt w1 w.heap.size t ∧ Below w.heap.size w w1) := ⟨(tabAt_new w t 26).below hb (by simp), (by go_grown : Below w.heap.size w (w.alloc (.cells t.cells 26))).trans (hb.mono (by simp))⟩; clear hb))
  clear HC
  go_loop [3, 4] (fun s i => ∃ k : Nat, k ≤ 4 ∧ i = .int .i64 k ∧ s = .int .i64 (ofs t k : Int) ∧ ofs t k ≤ 8 * k) (fun _ i => 4 - (intOf i).toNat)
  case atStart => exact ⟨0, by omega, rfl, rfl, Nat.le_refl _⟩
  case round =>
    obtain ⟨k, hk, rfl, rfl, ho⟩ := hrel
    by_cases hlt : k < 4
    · have tu := HB.out.1.cu k hlt
      have tz := HB.out.1.lt
      obtain ⟨hu, hu8⟩ := HU.out k hlt
      have k0 : (0 : Int) ≤ (k : Int) := by omega
      have k4 : (k : Int) < 4 := by omega
      have HO : Hid ((ofs t (k + 1) : Int) = ofs t k + U t k ∧ ofs t (k + 1) = ofs t k + U t k) := ⟨by show ((ofs t k + U t k : Nat) : Int) = _; omega, rfl⟩
      rw [hu] at tu
      clear hu
      generalize ofs t k = s at *
      generalize U t k = u at *
      go_wp2
      go_round
      case rel => exact ⟨k + 1, by omega, by go_num, by rw [HO.out.1], by rw [HO.out.2]; omega⟩
      case measure => simp [intOf]; omega
    · obtain rfl : k = 4 := by omega
      go_wp2
      go_ret
      exact ⟨rfl, HB.out.2⟩
end Go.Proofs.YtckjioiijmmopaaDoor.Bu
