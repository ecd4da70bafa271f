/- Part of the document's own layers 1 to 3 and 19, read off the program by the walk. Conditions: none. -/
import Derived.Test.YtldfjlepbbmhnaaDoorTe
import Derived.Deep.AppendLies
namespace Go.Proofs.YtldfjlepbbmhnaaDoor.Op

theorem cl_id (n : Int) (h1 : 1 ≤ n) (h2 : n ≤ 64) : cl n = n := by unfold cl; split <;> (try split) <;> omega
theorem getN_lt (X a n : Nat) (h : n ≤ 64) : getN X a n < 2 ^ 64 :=
  Nat.lt_of_lt_of_le (Nat.mod_lt _ (Nat.two_pow_pos _)) (Nat.pow_le_pow_right (by decide) h)

/-! ### masks -/
/-! ### one bit after another: the document's own way -/
/-- one bit more is read, from the top -/
theorem get_step (X a k : Nat) : getN X (a + 1) k * 2 + X / 2 ^ a % 2 = getN X a (k + 1) := by
  unfold getN
  rw [Nat.pow_succ 2 a, ← Nat.div_div_eq_div_mul, Nat.pow_succ 2 k, Nat.mul_comm (2 ^ k) 2, Nat.mod_mul]
  omega

/-! ### two's complement -/
theorem pow_le63 (c : Nat) (h : c ≤ 64) : (2 : Int) ^ (c - 1) ≤ 9223372036854775808 := by
  have h1 : 2 ^ (c - 1) ≤ 2 ^ 63 := Nat.pow_le_pow_right (by decide : 0 < 2) (by omega : c - 1 ≤ 63)
  have h2 : ((2 ^ (c - 1) : Nat) : Int) = 2 ^ (c - 1) := by simp
  omega
theorem sg_one (y : Int) : sg y 1 = -(y % 2) := by unfold sg; simp; omega
theorem emod_two (u b m : Int) (hm : 0 < m) (b0 : 0 ≤ b) (b1 : b ≤ 1) : (2 * u + b) % (2 * m) = 2 * (u % m) + b := by
  have e : u = m * (u / m) + u % m := (Int.mul_ediv_add_emod u m).symm
  have l := Int.emod_nonneg u (Int.ne_of_gt hm)
  have g := Int.emod_lt_of_pos u hm
  generalize u / m = q at *
  generalize u % m = r at *
  subst e
  rw [show 2 * (m * q + r) + b = (2 * r + b) + 2 * m * q by rw [Int.mul_add, Int.mul_assoc]; omega, Int.add_mul_emod_self_left]
  exact Int.emod_eq_of_lt (by omega) (by omega)
theorem sg_step (y : Int) (k : Nat) (h : 1 ≤ k) : sg (y / 2) k * 2 + y % 2 = sg y (k + 1) := by
  unfold sg
  rw [Nat.add_sub_cancel, Int.pow_succ, Int.mul_comm (2 ^ k) 2]
  have hs := pow_split k h
  have e : y + 2 ^ k = 2 * (y / 2 + 2 ^ (k - 1)) + y % 2 := by omega
  rw [e, emod_two _ _ _ (pow_pos' k) (by omega) (by omega)]
  omega
end Go.Proofs.YtldfjlepbbmhnaaDoor.Op

namespace Go.Proofs.YtldfjlepbbmhnaaDoor.Op
open Go.ChangeShapes Go.WideShapes Go.ChangeAt Go.RowKit
set_option maxRecDepth 20000
abbrev rz : Value := .agg #[.string ⟨#[]⟩, .int .i64 0, .bool false, .bool false, .bool false, .bool false, .bool false]
theorem turns18 (w : World) : Calls Tryd.prog 89 #[.int .i8 18] w fun e w' => e = .returned (.tuple #[(kindL[18]'(by decide)).row, .bool true]) ∧ Below w.heap.size w w' := by
  go_enter Tryd.func89, Tryd.ntmps89
  go_wp2
  refine bodyPost_ret (v := .tuple #[(kindL[18]'(by decide)).row, .bool true]) (by simp [results, Tryd.results89, go_sem]; exact ⟨rfl, rfl, rfl, rfl, rfl, rfl, rfl⟩) rfl ⟨rfl, by go_grown⟩
theorem turns19 (w : World) : Calls Tryd.prog 89 #[.int .i8 19] w fun e w' => e = .returned (.tuple #[(kindL[19]'(by decide)).row, .bool true]) ∧ Below w.heap.size w w' := by
  go_enter Tryd.func89, Tryd.ntmps89
  go_wp2
  refine bodyPost_ret (v := .tuple #[(kindL[19]'(by decide)).row, .bool true]) (by simp [results, Tryd.results89, go_sem]; exact ⟨rfl, rfl, rfl, rfl, rfl, rfl, rfl⟩) rfl ⟨rfl, by go_grown⟩
theorem turns20 (w : World) : Calls Tryd.prog 89 #[.int .i8 20] w fun e w' => e = .returned (.tuple #[(kindL[20]'(by decide)).row, .bool true]) ∧ Below w.heap.size w w' := by
  go_enter Tryd.func89, Tryd.ntmps89
  go_wp2
  refine bodyPost_ret (v := .tuple #[(kindL[20]'(by decide)).row, .bool true]) (by simp [results, Tryd.results89, go_sem]; exact ⟨rfl, rfl, rfl, rfl, rfl, rfl, rfl⟩) rfl ⟨rfl, by go_grown⟩
theorem turns21 (w : World) : Calls Tryd.prog 89 #[.int .i8 21] w fun e w' => e = .returned (.tuple #[(kindL[21]'(by decide)).row, .bool true]) ∧ Below w.heap.size w w' := by
  go_enter Tryd.func89, Tryd.ntmps89
  go_wp2
  refine bodyPost_ret (v := .tuple #[(kindL[21]'(by decide)).row, .bool true]) (by simp [results, Tryd.results89, go_sem]; exact ⟨rfl, rfl, rfl, rfl, rfl, rfl, rfl⟩) rfl ⟨rfl, by go_grown⟩
theorem turns22 (w : World) : Calls Tryd.prog 89 #[.int .i8 22] w fun e w' => e = .returned (.tuple #[(kindL[22]'(by decide)).row, .bool true]) ∧ Below w.heap.size w w' := by
  go_enter Tryd.func89, Tryd.ntmps89
  go_wp2
  refine bodyPost_ret (v := .tuple #[(kindL[22]'(by decide)).row, .bool true]) (by simp [results, Tryd.results89, go_sem]; exact ⟨rfl, rfl, rfl, rfl, rfl, rfl, rfl⟩) rfl ⟨rfl, by go_grown⟩
theorem turns23 (w : World) : Calls Tryd.prog 89 #[.int .i8 23] w fun e w' => e = .returned (.tuple #[(kindL[23]'(by decide)).row, .bool true]) ∧ Below w.heap.size w w' := by
  go_enter Tryd.func89, Tryd.ntmps89
  go_wp2
  refine bodyPost_ret (v := .tuple #[(kindL[23]'(by decide)).row, .bool true]) (by simp [results, Tryd.results89, go_sem]; exact ⟨rfl, rfl, rfl, rfl, rfl, rfl, rfl⟩) rfl ⟨rfl, by go_grown⟩
theorem turnsNo (d : Int) (w : World) (h : d < 18 ∨ 24 ≤ d) : Calls Tryd.prog 89 #[.int .i8 d] w fun e w' => e = .returned (.tuple #[rz, .bool false]) ∧ Below w.heap.size w w' := by
  have g18 : (d == 18) = false := by simp; omega
  have g19 : (d == 19) = false := by simp; omega
  have g20 : (d == 20) = false := by simp; omega
  have g21 : (d == 21) = false := by simp; omega
  have g22 : (d == 22) = false := by simp; omega
  have g23 : (d == 23) = false := by simp; omega
  clear h
  go_enter Tryd.func89, Tryd.ntmps89
  go_wp2
  refine bodyPost_ret (v := .tuple #[rz, .bool false]) (by simp [results, Tryd.results89, go_sem]) rfl ⟨rfl, by go_grown⟩
theorem of0 (w : World) : Calls Tryd.prog 76 #[.int .i8 0] w fun e w' => e = .returned (.tuple #[(kindL[0]'(by decide)).row, .bool true]) ∧ Below w.heap.size w w' := by
  go_enter Tryd.func76, Tryd.ntmps76
  go_wp2
  refine bodyPost_ret (v := .tuple #[(kindL[0]'(by decide)).row, .bool true]) (by simp [results, Tryd.results76, go_sem]; exact ⟨rfl, rfl, rfl, rfl, rfl, rfl, rfl⟩) rfl ⟨rfl, by go_grown⟩
theorem of1 (w : World) : Calls Tryd.prog 76 #[.int .i8 1] w fun e w' => e = .returned (.tuple #[(kindL[1]'(by decide)).row, .bool true]) ∧ Below w.heap.size w w' := by
  go_enter Tryd.func76, Tryd.ntmps76
  go_wp2
  refine bodyPost_ret (v := .tuple #[(kindL[1]'(by decide)).row, .bool true]) (by simp [results, Tryd.results76, go_sem]; exact ⟨rfl, rfl, rfl, rfl, rfl, rfl, rfl⟩) rfl ⟨rfl, by go_grown⟩
theorem of2 (w : World) : Calls Tryd.prog 76 #[.int .i8 2] w fun e w' => e = .returned (.tuple #[(kindL[2]'(by decide)).row, .bool true]) ∧ Below w.heap.size w w' := by
  go_enter Tryd.func76, Tryd.ntmps76
  go_wp2
  refine bodyPost_ret (v := .tuple #[(kindL[2]'(by decide)).row, .bool true]) (by simp [results, Tryd.results76, go_sem]; exact ⟨rfl, rfl, rfl, rfl, rfl, rfl, rfl⟩) rfl ⟨rfl, by go_grown⟩
theorem of3 (w : World) : Calls Tryd.prog 76 #[.int .i8 3] w fun e w' => e = .returned (.tuple #[(kindL[3]'(by decide)).row, .bool true]) ∧ Below w.heap.size w w' := by
  go_enter Tryd.func76, Tryd.ntmps76
  go_wp2
  refine bodyPost_ret (v := .tuple #[(kindL[3]'(by decide)).row, .bool true]) (by simp [results, Tryd.results76, go_sem]; exact ⟨rfl, rfl, rfl, rfl, rfl, rfl, rfl⟩) rfl ⟨rfl, by go_grown⟩
theorem of4 (w : World) : Calls Tryd.prog 76 #[.int .i8 4] w fun e w' => e = .returned (.tuple #[(kindL[4]'(by decide)).row, .bool true]) ∧ Below w.heap.size w w' := by
  go_enter Tryd.func76, Tryd.ntmps76
  go_wp2
  refine bodyPost_ret (v := .tuple #[(kindL[4]'(by decide)).row, .bool true]) (by simp [results, Tryd.results76, go_sem]; exact ⟨rfl, rfl, rfl, rfl, rfl, rfl, rfl⟩) rfl ⟨rfl, by go_grown⟩
theorem of5 (w : World) : Calls Tryd.prog 76 #[.int .i8 5] w fun e w' => e = .returned (.tuple #[(kindL[5]'(by decide)).row, .bool true]) ∧ Below w.heap.size w w' := by
  go_enter Tryd.func76, Tryd.ntmps76
  go_wp2
  refine bodyPost_ret (v := .tuple #[(kindL[5]'(by decide)).row, .bool true]) (by simp [results, Tryd.results76, go_sem]; exact ⟨rfl, rfl, rfl, rfl, rfl, rfl, rfl⟩) rfl ⟨rfl, by go_grown⟩
theorem of6 (w : World) : Calls Tryd.prog 76 #[.int .i8 6] w fun e w' => e = .returned (.tuple #[(kindL[6]'(by decide)).row, .bool true]) ∧ Below w.heap.size w w' := by
  go_enter Tryd.func76, Tryd.ntmps76
  go_wp2
  refine bodyPost_ret (v := .tuple #[(kindL[6]'(by decide)).row, .bool true]) (by simp [results, Tryd.results76, go_sem]; exact ⟨rfl, rfl, rfl, rfl, rfl, rfl, rfl⟩) rfl ⟨rfl, by go_grown⟩
theorem of7 (w : World) : Calls Tryd.prog 76 #[.int .i8 7] w fun e w' => e = .returned (.tuple #[(kindL[7]'(by decide)).row, .bool true]) ∧ Below w.heap.size w w' := by
  go_enter Tryd.func76, Tryd.ntmps76
  go_wp2
  refine bodyPost_ret (v := .tuple #[(kindL[7]'(by decide)).row, .bool true]) (by simp [results, Tryd.results76, go_sem]; exact ⟨rfl, rfl, rfl, rfl, rfl, rfl, rfl⟩) rfl ⟨rfl, by go_grown⟩
theorem of8 (w : World) : Calls Tryd.prog 76 #[.int .i8 8] w fun e w' => e = .returned (.tuple #[(kindL[8]'(by decide)).row, .bool true]) ∧ Below w.heap.size w w' := by
  go_enter Tryd.func76, Tryd.ntmps76
  go_wp2
  refine bodyPost_ret (v := .tuple #[(kindL[8]'(by decide)).row, .bool true]) (by simp [results, Tryd.results76, go_sem]; exact ⟨rfl, rfl, rfl, rfl, rfl, rfl, rfl⟩) rfl ⟨rfl, by go_grown⟩
theorem of9 (w : World) : Calls Tryd.prog 76 #[.int .i8 9] w fun e w' => e = .returned (.tuple #[(kindL[9]'(by decide)).row, .bool true]) ∧ Below w.heap.size w w' := by
  go_enter Tryd.func76, Tryd.ntmps76
  go_wp2
  refine bodyPost_ret (v := .tuple #[(kindL[9]'(by decide)).row, .bool true]) (by simp [results, Tryd.results76, go_sem]; exact ⟨rfl, rfl, rfl, rfl, rfl, rfl, rfl⟩) rfl ⟨rfl, by go_grown⟩
theorem of10 (w : World) : Calls Tryd.prog 76 #[.int .i8 10] w fun e w' => e = .returned (.tuple #[(kindL[10]'(by decide)).row, .bool true]) ∧ Below w.heap.size w w' := by
  go_enter Tryd.func76, Tryd.ntmps76
  go_wp2
  refine bodyPost_ret (v := .tuple #[(kindL[10]'(by decide)).row, .bool true]) (by simp [results, Tryd.results76, go_sem]; exact ⟨rfl, rfl, rfl, rfl, rfl, rfl, rfl⟩) rfl ⟨rfl, by go_grown⟩
theorem of11 (w : World) : Calls Tryd.prog 76 #[.int .i8 11] w fun e w' => e = .returned (.tuple #[(kindL[11]'(by decide)).row, .bool true]) ∧ Below w.heap.size w w' := by
  go_enter Tryd.func76, Tryd.ntmps76
  go_wp2
  refine bodyPost_ret (v := .tuple #[(kindL[11]'(by decide)).row, .bool true]) (by simp [results, Tryd.results76, go_sem]; exact ⟨rfl, rfl, rfl, rfl, rfl, rfl, rfl⟩) rfl ⟨rfl, by go_grown⟩
theorem of12 (w : World) : Calls Tryd.prog 76 #[.int .i8 12] w fun e w' => e = .returned (.tuple #[(kindL[12]'(by decide)).row, .bool true]) ∧ Below w.heap.size w w' := by
  go_enter Tryd.func76, Tryd.ntmps76
  go_wp2
  refine bodyPost_ret (v := .tuple #[(kindL[12]'(by decide)).row, .bool true]) (by simp [results, Tryd.results76, go_sem]; exact ⟨rfl, rfl, rfl, rfl, rfl, rfl, rfl⟩) rfl ⟨rfl, by go_grown⟩
theorem of13 (w : World) : Calls Tryd.prog 76 #[.int .i8 13] w fun e w' => e = .returned (.tuple #[(kindL[13]'(by decide)).row, .bool true]) ∧ Below w.heap.size w w' := by
  go_enter Tryd.func76, Tryd.ntmps76
  go_wp2
  refine bodyPost_ret (v := .tuple #[(kindL[13]'(by decide)).row, .bool true]) (by simp [results, Tryd.results76, go_sem]; exact ⟨rfl, rfl, rfl, rfl, rfl, rfl, rfl⟩) rfl ⟨rfl, by go_grown⟩
theorem of14 (w : World) : Calls Tryd.prog 76 #[.int .i8 14] w fun e w' => e = .returned (.tuple #[(kindL[14]'(by decide)).row, .bool true]) ∧ Below w.heap.size w w' := by
  go_enter Tryd.func76, Tryd.ntmps76
  go_wp2
  refine bodyPost_ret (v := .tuple #[(kindL[14]'(by decide)).row, .bool true]) (by simp [results, Tryd.results76, go_sem]; exact ⟨rfl, rfl, rfl, rfl, rfl, rfl, rfl⟩) rfl ⟨rfl, by go_grown⟩
theorem of15 (w : World) : Calls Tryd.prog 76 #[.int .i8 15] w fun e w' => e = .returned (.tuple #[(kindL[15]'(by decide)).row, .bool true]) ∧ Below w.heap.size w w' := by
  go_enter Tryd.func76, Tryd.ntmps76
  go_wp2
  refine bodyPost_ret (v := .tuple #[(kindL[15]'(by decide)).row, .bool true]) (by simp [results, Tryd.results76, go_sem]; exact ⟨rfl, rfl, rfl, rfl, rfl, rfl, rfl⟩) rfl ⟨rfl, by go_grown⟩
theorem of16 (w : World) : Calls Tryd.prog 76 #[.int .i8 16] w fun e w' => e = .returned (.tuple #[(kindL[16]'(by decide)).row, .bool true]) ∧ Below w.heap.size w w' := by
  go_enter Tryd.func76, Tryd.ntmps76
  go_wp2
  refine bodyPost_ret (v := .tuple #[(kindL[16]'(by decide)).row, .bool true]) (by simp [results, Tryd.results76, go_sem]; exact ⟨rfl, rfl, rfl, rfl, rfl, rfl, rfl⟩) rfl ⟨rfl, by go_grown⟩
theorem of17 (w : World) : Calls Tryd.prog 76 #[.int .i8 17] w fun e w' => e = .returned (.tuple #[(kindL[17]'(by decide)).row, .bool true]) ∧ Below w.heap.size w w' := by
  go_enter Tryd.func76, Tryd.ntmps76
  go_wp2
  refine bodyPost_ret (v := .tuple #[(kindL[17]'(by decide)).row, .bool true]) (by simp [results, Tryd.results76, go_sem]; exact ⟨rfl, rfl, rfl, rfl, rfl, rfl, rfl⟩) rfl ⟨rfl, by go_grown⟩
theorem At.r7 {w : World} {b : Nat} {x0 x1 x2 x3 x4 x5 x6 : Value} (h : At w b #[x0, x1, x2, x3, x4, x5, x6]) : w.cell? ⟨b, 0, none⟩ = some x0 ∧ w.cell? ⟨b, 1, none⟩ = some x1 ∧ w.cell? ⟨b, 2, none⟩ = some x2 ∧ w.cell? ⟨b, 3, none⟩ = some x3 ∧ w.cell? ⟨b, 4, none⟩ = some x4 ∧ w.cell? ⟨b, 5, none⟩ = some x5 ∧ w.cell? ⟨b, 6, none⟩ = some x6 :=
  ⟨h.c 0 _ rfl, h.c 1 _ rfl, h.c 2 _ rfl, h.c 3 _ rfl, h.c 4 _ rfl, h.c 5 _ rfl, h.c 6 _ rfl⟩
set_option maxHeartbeats 1000000 in
theorem ofTurns (d : Int) (x0 : ByteArray) (x1 : Int) (x2 x3 x4 x5 x6 x7 : Bool) (w : World) (h : d < 0 ∨ 18 ≤ d) (hT : ∀ w, Calls Tryd.prog 89 #[.int .i8 d] w fun e w' => e = .returned (.tuple #[.agg #[.string x0, .int .i64 x1, .bool x2, .bool x3, .bool x4, .bool x5, .bool x6], .bool x7]) ∧ Below w.heap.size w w') :
    Calls Tryd.prog 76 #[.int .i8 d] w fun e w' => e = .returned (.tuple #[.agg #[.string x0, .int .i64 x1, .bool x2, .bool x3, .bool x4, .bool x5, .bool x6], .bool x7]) ∧ Below w.heap.size w w' := by
  have g0 : (d == 0) = false := by simp; omega
  have g1 : (d == 1) = false := by simp; omega
  have g2 : (d == 2) = false := by simp; omega
  have g3 : (d == 3) = false := by simp; omega
  have g4 : (d == 4) = false := by simp; omega
  have g5 : (d == 5) = false := by simp; omega
  have g6 : (d == 6) = false := by simp; omega
  have g7 : (d == 7) = false := by simp; omega
  have g8 : (d == 8) = false := by simp; omega
  have g9 : (d == 9) = false := by simp; omega
  have g10 : (d == 10) = false := by simp; omega
  have g11 : (d == 11) = false := by simp; omega
  have g12 : (d == 12) = false := by simp; omega
  have g13 : (d == 13) = false := by simp; omega
  have g14 : (d == 14) = false := by simp; omega
  have g15 : (d == 15) = false := by simp; omega
  have g16 : (d == 16) = false := by simp; omega
  have g17 : (d == 17) = false := by simp; omega
  have HT : Hid _ := hT
  clear h hT
  go_enter Tryd.func76, Tryd.ntmps76
  go_wp2_with (first | (go_at_call 89; refine Calls.mono (HT.out _) ?_; rintro e w1 ⟨rfl, hb⟩; obtain ⟨a1, hb0, hz⟩ := one_new w _ _ hb; have HB : Hid (Below w.heap.size w w1) := hb0; obtain ⟨c0, c1, c2, c3, c4, c5, c6⟩ := a1.r7; have f0 := a1.f 0; have f1 := a1.f 1; have f2 := a1.f 2; have f3 := a1.f 3; have f4 := a1.f 4; have f5 := a1.f 5; have f6 := a1.f 6; clear hb hb0 a1))
  refine bodyPost_ret (v := .tuple #[.agg #[.string x0, .int .i64 x1, .bool x2, .bool x3, .bool x4, .bool x5, .bool x6], .bool x7]) (by simp [results, Tryd.results76, go_sem, c0, c1, c2, c3, c4, c5, c6]) rfl ⟨rfl, HB.out.trans ?_⟩
  go_grown
theorem of_no (d : Int) (w : World) (h : kOf d = none) : Calls Tryd.prog 76 #[.int .i8 d] w fun e w' => e = .returned (.tuple #[rz, .bool false]) ∧ Below w.heap.size w w' := by
  have := kOf_out h
  exact ofTurns d _ _ _ _ _ _ _ _ w (by omega) (fun w => turnsNo d w (by omega))
theorem of_yes (d : Int) (k : K) (w : World) (h : kOf d = some k) : Calls Tryd.prog 76 #[.int .i8 d] w fun e w' => e = .returned (.tuple #[k.row, .bool true]) ∧ Below w.heap.size w w' := by
  obtain ⟨n, hn, rfl, rfl⟩ := kOf_some h
  clear h
  match n, hn with
  | 0, _ => exact of0 w
  | 1, _ => exact of1 w
  | 2, _ => exact of2 w
  | 3, _ => exact of3 w
  | 4, _ => exact of4 w
  | 5, _ => exact of5 w
  | 6, _ => exact of6 w
  | 7, _ => exact of7 w
  | 8, _ => exact of8 w
  | 9, _ => exact of9 w
  | 10, _ => exact of10 w
  | 11, _ => exact of11 w
  | 12, _ => exact of12 w
  | 13, _ => exact of13 w
  | 14, _ => exact of14 w
  | 15, _ => exact of15 w
  | 16, _ => exact of16 w
  | 17, _ => exact of17 w
  | 18, _ => exact ofTurns 18 _ _ _ _ _ _ _ _ w (by omega) (fun w => turns18 w)
  | 19, _ => exact ofTurns 19 _ _ _ _ _ _ _ _ w (by omega) (fun w => turns19 w)
  | 20, _ => exact ofTurns 20 _ _ _ _ _ _ _ _ w (by omega) (fun w => turns20 w)
  | 21, _ => exact ofTurns 21 _ _ _ _ _ _ _ _ w (by omega) (fun w => turns21 w)
  | 22, _ => exact ofTurns 22 _ _ _ _ _ _ _ _ w (by omega) (fun w => turns22 w)
  | 23, _ => exact ofTurns 23 _ _ _ _ _ _ _ _ w (by omega) (fun w => turns23 w)
  | _ + 24, h => exact absurd h (by omega)
end Go.Proofs.YtldfjlepbbmhnaaDoor.Op

namespace Go.Proofs.YtldfjlepbbmhnaaDoor.Op
open Go.ChangeShapes Go.WideShapes Go.ChangeAt Go.RowKit
set_option maxRecDepth 20000
set_option maxHeartbeats 1000000 in
theorem refCheck_none (o : O) (w : World) (h : kOf o.op = none) : Calls Tryd.prog 75 #[o.val] w fun e w' => e = .returned (.int .i64 30) ∧ Below w.heap.size w w' := by
  have HF : Hid _ := fun w => of_no o.op w h
  clear h
  go_enter Tryd.func75, Tryd.ntmps75
  go_wp2_with (first | (go_at_call 76; refine Calls.mono (HF.out _) ?_; rintro e w1 ⟨rfl, hb⟩; obtain ⟨a1, hb0, hz⟩ := one_new w _ _ hb; have HB : Hid (Below w.heap.size w w1) := hb0; obtain ⟨o0, o1, o2, o3, o4⟩ := a1.o5; clear hb hb0 a1))
  go_ret
  exact ⟨rfl, HB.out.trans ((Below.refl _ _).alloc (Nat.le_of_lt hz) _)⟩
set_option maxHeartbeats 1000000 in
theorem refCheck_out (o : O) (k : K) (w : World) (h : kOf o.op = some k) (hx : 31 < o.d ∨ 31 < o.a ∨ 31 < o.b ∨ o.im < -2147483648 ∨ 2147483647 < o.im) : Calls Tryd.prog 75 #[o.val] w fun e w' => e = .returned (.int .i64 30) ∧ Below w.heap.size w w' := by
  have HF : Hid _ := fun w => of_yes o.op k w h
  clear h
  go_enter Tryd.func75, Tryd.ntmps75
  go_wp2_with (first | (go_at_call 76; refine Calls.mono (HF.out _) ?_; rintro e w1 ⟨rfl, hb⟩; obtain ⟨a1, hb0, hz⟩ := one_new w _ _ hb; have HB : Hid (Below w.heap.size w w1) := hb0; obtain ⟨o0, o1, o2, o3, o4⟩ := a1.o5; clear hb hb0 a1))
  all_goals
    go_ret
    exact ⟨rfl, HB.out.trans ((Below.refl _ _).alloc (Nat.le_of_lt hz) _)⟩
set_option maxHeartbeats 4000000 in
theorem refCheck_in (o : O) (k : K) (w : World) (h : kOf o.op = some k) (x1 : o.d ≤ 31) (x2 : o.a ≤ 31) (x3 : o.b ≤ 31) (x4 : -2147483648 ≤ o.im) (x5 : o.im ≤ 2147483647) : Calls Tryd.prog 75 #[o.val] w fun e w' => e = .returned (.int .i64 (if okF k o then 0 else 30)) ∧ Below w.heap.size w w' := by
  have HF : Hid _ := fun w => of_yes o.op k w h
  clear h
  generalize hv : (if okF k o then (0 : Int) else 30) = v
  have HV : Hid (_ = v) := hv
  have y1 : o.d < 32 := by omega
  have y2 : o.a < 32 := by omega
  have y3 : o.b < 32 := by omega
  clear hv
  go_enter Tryd.func75, Tryd.ntmps75
  go_wp2_with (first | (go_at_call 76; refine Calls.mono (HF.out _) ?_; rintro e w1 ⟨rfl, hb⟩; obtain ⟨a1, hb0, hz⟩ := one_new w _ _ hb; have HB : Hid (Below w.heap.size w w1) := hb0; obtain ⟨o0, o1, o2, o3, o4⟩ := a1.o5; clear hb hb0 a1))
  all_goals
    go_ret
    refine ⟨ret_int ?_, HB.out.trans ((Below.refl _ _).alloc (Nat.le_of_lt hz) _)⟩
    rw [← HV.out]
    simp_all [okF, rH, iH]
theorem refCheck_any (o : O) (w : World) (ho : o.Ok) : Calls Tryd.prog 75 #[o.val] w fun e w' => e = .returned (.int .i64 (ckE o)) ∧ Below w.heap.size w w' := by
  cases hk : kOf o.op with
  | none =>
    rw [show ckE o = 30 by simp [ckE, okO_none hk]]
    exact refCheck_none o w hk
  | some k =>
    rw [show ckE o = if okF k o then 0 else 30 by simp [ckE, okO_some hk]]
    by_cases hx : 31 < o.d ∨ 31 < o.a ∨ 31 < o.b ∨ o.im < -2147483648 ∨ 2147483647 < o.im
    · have hf : okF k o = false := by
        obtain ⟨_, _, d0, d1, a0, a1, b0, b1, i0, i1⟩ := ho
        unfold okF rH iH
        cases k.D <;> cases k.A <;> cases k.B <;> cases k.N <;> cases k.I <;> simp <;> omega
      rw [hf]
      exact refCheck_out o k w hk hx
    · exact refCheck_in o k w hk (by omega) (by omega) (by omega) (by omega) (by omega)
end Go.Proofs.YtldfjlepbbmhnaaDoor.Op

namespace Go.Proofs.YtldfjlepbbmhnaaDoor.Op
open Go.ChangeShapes Go.WideShapes Go.ChangeAt Go.RowKit
set_option maxRecDepth 20000
set_option maxHeartbeats 1000000 in
theorem refClass_any (d : Int) (w : World) : Calls Tryd.prog 60 #[.int .i8 d] w fun e w' => e = .returned (.tuple #[.int .i64 (clV d), .bool (clB d)]) ∧ Below w.heap.size w w' := by
  cases hk : kOf d with
  | none =>
    rw [show clV d = 0 by simp [clV, hk], show clB d = false by simp [clB, hk]]
    have HC : Hid _ := fun w => of_no d w hk
    clear hk
    go_enter Tryd.func60, Tryd.ntmps60
    go_wp2_with (first | (go_at_call 76; refine Calls.mono (HC.out _) ?_; rintro e w1 ⟨rfl, hb⟩))
    go_ret2
    exact ⟨rfl, hb.trans ((Below.refl _ _).alloc hb.size _)⟩
  | some k =>
    have hc := cls_in hk
    have HC : Hid _ := fun w => of_yes d k w hk
    by_cases hm : k.cls = -1
    · rw [show clV d = 0 by simp [clV, hk, hm], show clB d = false by simp [clB, hk, hm]]
      clear hk
      have hm2 : k.cls < 0 := by omega
      go_enter Tryd.func60, Tryd.ntmps60
      go_wp2_with (first | (go_at_call 76; refine Calls.mono (HC.out _) ?_; rintro e w1 ⟨rfl, hb⟩))
      go_ret2
      exact ⟨rfl, hb.trans ((Below.refl _ _).alloc hb.size _)⟩
    · rw [show clV d = k.cls by simp [clV, hk, hm], show clB d = true by simp [clB, hk, hm]]
      clear hk
      have hm2 : ¬ k.cls < 0 := by omega
      go_enter Tryd.func60, Tryd.ntmps60
      go_wp2_with (first | (go_at_call 76; refine Calls.mono (HC.out _) ?_; rintro e w1 ⟨rfl, hb⟩))
      go_ret2
      exact ⟨rfl, hb.trans ((Below.refl _ _).alloc hb.size _)⟩
end Go.Proofs.YtldfjlepbbmhnaaDoor.Op
