/- The document's answer on an operation of what counts alone (bare), read off the program by the walk: of an operation of a program, it is the operation. Conditions: said at each. -/
import Derived.Test.YtddcndlogoajkaaGreatDoorQKd
import Derived.Test.YtddcndlogoajkaaGreatDoorQPk
import Derived.BigQuiet
import Derived.Deep.DeepCutAuto
namespace Go.Proofs.YtddcndlogoajkaaGreatDoor.L8.Op
open Go.ChangeShapes Go.WideShapes Go.ChangeAt Go.RowKit
set_option maxRecDepth 20000

abbrev rz : Value := .agg #[.string ⟨#[]⟩, .int .i64 0, .bool false, .bool false, .bool false, .bool false, .bool false]
abbrev K.row (k : K) : Value := .agg #[.string k.s, .int .i64 k.cls, .bool k.D, .bool k.A, .bool k.B, .bool k.N, .bool k.I]
theorem turns18 (w : World) : Calls Tryz.prog 86 #[.int .i8 18] w fun e w' => e = .returned (.tuple #[(kindL[18]'(by decide)).row, .bool true]) ∧ Below w.heap.size w w' := by
  go_enter Tryz.func86, Tryz.ntmps86
  go_wp2
  refine bodyPost_ret (v := .tuple #[(kindL[18]'(by decide)).row, .bool true]) (by simp [results, Tryz.results86, go_sem]; exact ⟨rfl, rfl, rfl, rfl, rfl, rfl, rfl⟩) rfl ⟨rfl, by go_grown⟩
theorem turns19 (w : World) : Calls Tryz.prog 86 #[.int .i8 19] w fun e w' => e = .returned (.tuple #[(kindL[19]'(by decide)).row, .bool true]) ∧ Below w.heap.size w w' := by
  go_enter Tryz.func86, Tryz.ntmps86
  go_wp2
  refine bodyPost_ret (v := .tuple #[(kindL[19]'(by decide)).row, .bool true]) (by simp [results, Tryz.results86, go_sem]; exact ⟨rfl, rfl, rfl, rfl, rfl, rfl, rfl⟩) rfl ⟨rfl, by go_grown⟩
theorem turns20 (w : World) : Calls Tryz.prog 86 #[.int .i8 20] w fun e w' => e = .returned (.tuple #[(kindL[20]'(by decide)).row, .bool true]) ∧ Below w.heap.size w w' := by
  go_enter Tryz.func86, Tryz.ntmps86
  go_wp2
  refine bodyPost_ret (v := .tuple #[(kindL[20]'(by decide)).row, .bool true]) (by simp [results, Tryz.results86, go_sem]; exact ⟨rfl, rfl, rfl, rfl, rfl, rfl, rfl⟩) rfl ⟨rfl, by go_grown⟩
theorem turns21 (w : World) : Calls Tryz.prog 86 #[.int .i8 21] w fun e w' => e = .returned (.tuple #[(kindL[21]'(by decide)).row, .bool true]) ∧ Below w.heap.size w w' := by
  go_enter Tryz.func86, Tryz.ntmps86
  go_wp2
  refine bodyPost_ret (v := .tuple #[(kindL[21]'(by decide)).row, .bool true]) (by simp [results, Tryz.results86, go_sem]; exact ⟨rfl, rfl, rfl, rfl, rfl, rfl, rfl⟩) rfl ⟨rfl, by go_grown⟩
theorem turns22 (w : World) : Calls Tryz.prog 86 #[.int .i8 22] w fun e w' => e = .returned (.tuple #[(kindL[22]'(by decide)).row, .bool true]) ∧ Below w.heap.size w w' := by
  go_enter Tryz.func86, Tryz.ntmps86
  go_wp2
  refine bodyPost_ret (v := .tuple #[(kindL[22]'(by decide)).row, .bool true]) (by simp [results, Tryz.results86, go_sem]; exact ⟨rfl, rfl, rfl, rfl, rfl, rfl, rfl⟩) rfl ⟨rfl, by go_grown⟩
theorem turns23 (w : World) : Calls Tryz.prog 86 #[.int .i8 23] w fun e w' => e = .returned (.tuple #[(kindL[23]'(by decide)).row, .bool true]) ∧ Below w.heap.size w w' := by
  go_enter Tryz.func86, Tryz.ntmps86
  go_wp2
  refine bodyPost_ret (v := .tuple #[(kindL[23]'(by decide)).row, .bool true]) (by simp [results, Tryz.results86, go_sem]; exact ⟨rfl, rfl, rfl, rfl, rfl, rfl, rfl⟩) rfl ⟨rfl, by go_grown⟩
theorem turnsNo (d : Int) (w : World) (h : d < 18 ∨ 24 ≤ d) : Calls Tryz.prog 86 #[.int .i8 d] w fun e w' => e = .returned (.tuple #[rz, .bool false]) ∧ Below w.heap.size w w' := by
  have g18 : (d == 18) = false := by simp; omega
  have g19 : (d == 19) = false := by simp; omega
  have g20 : (d == 20) = false := by simp; omega
  have g21 : (d == 21) = false := by simp; omega
  have g22 : (d == 22) = false := by simp; omega
  have g23 : (d == 23) = false := by simp; omega
  clear h
  go_enter Tryz.func86, Tryz.ntmps86
  go_wp2
  refine bodyPost_ret (v := .tuple #[rz, .bool false]) (by simp [results, Tryz.results86, go_sem]) rfl ⟨rfl, by go_grown⟩
theorem of0 (w : World) : Calls Tryz.prog 67 #[.int .i8 0] w fun e w' => e = .returned (.tuple #[(kindL[0]'(by decide)).row, .bool true]) ∧ Below w.heap.size w w' := by
  go_enter Tryz.func67, Tryz.ntmps67
  go_wp2
  refine bodyPost_ret (v := .tuple #[(kindL[0]'(by decide)).row, .bool true]) (by simp [results, Tryz.results67, go_sem]; exact ⟨rfl, rfl, rfl, rfl, rfl, rfl, rfl⟩) rfl ⟨rfl, by go_grown⟩
theorem of1 (w : World) : Calls Tryz.prog 67 #[.int .i8 1] w fun e w' => e = .returned (.tuple #[(kindL[1]'(by decide)).row, .bool true]) ∧ Below w.heap.size w w' := by
  go_enter Tryz.func67, Tryz.ntmps67
  go_wp2
  refine bodyPost_ret (v := .tuple #[(kindL[1]'(by decide)).row, .bool true]) (by simp [results, Tryz.results67, go_sem]; exact ⟨rfl, rfl, rfl, rfl, rfl, rfl, rfl⟩) rfl ⟨rfl, by go_grown⟩
theorem of2 (w : World) : Calls Tryz.prog 67 #[.int .i8 2] w fun e w' => e = .returned (.tuple #[(kindL[2]'(by decide)).row, .bool true]) ∧ Below w.heap.size w w' := by
  go_enter Tryz.func67, Tryz.ntmps67
  go_wp2
  refine bodyPost_ret (v := .tuple #[(kindL[2]'(by decide)).row, .bool true]) (by simp [results, Tryz.results67, go_sem]; exact ⟨rfl, rfl, rfl, rfl, rfl, rfl, rfl⟩) rfl ⟨rfl, by go_grown⟩
theorem of3 (w : World) : Calls Tryz.prog 67 #[.int .i8 3] w fun e w' => e = .returned (.tuple #[(kindL[3]'(by decide)).row, .bool true]) ∧ Below w.heap.size w w' := by
  go_enter Tryz.func67, Tryz.ntmps67
  go_wp2
  refine bodyPost_ret (v := .tuple #[(kindL[3]'(by decide)).row, .bool true]) (by simp [results, Tryz.results67, go_sem]; exact ⟨rfl, rfl, rfl, rfl, rfl, rfl, rfl⟩) rfl ⟨rfl, by go_grown⟩
theorem of4 (w : World) : Calls Tryz.prog 67 #[.int .i8 4] w fun e w' => e = .returned (.tuple #[(kindL[4]'(by decide)).row, .bool true]) ∧ Below w.heap.size w w' := by
  go_enter Tryz.func67, Tryz.ntmps67
  go_wp2
  refine bodyPost_ret (v := .tuple #[(kindL[4]'(by decide)).row, .bool true]) (by simp [results, Tryz.results67, go_sem]; exact ⟨rfl, rfl, rfl, rfl, rfl, rfl, rfl⟩) rfl ⟨rfl, by go_grown⟩
theorem of5 (w : World) : Calls Tryz.prog 67 #[.int .i8 5] w fun e w' => e = .returned (.tuple #[(kindL[5]'(by decide)).row, .bool true]) ∧ Below w.heap.size w w' := by
  go_enter Tryz.func67, Tryz.ntmps67
  go_wp2
  refine bodyPost_ret (v := .tuple #[(kindL[5]'(by decide)).row, .bool true]) (by simp [results, Tryz.results67, go_sem]; exact ⟨rfl, rfl, rfl, rfl, rfl, rfl, rfl⟩) rfl ⟨rfl, by go_grown⟩
theorem of6 (w : World) : Calls Tryz.prog 67 #[.int .i8 6] w fun e w' => e = .returned (.tuple #[(kindL[6]'(by decide)).row, .bool true]) ∧ Below w.heap.size w w' := by
  go_enter Tryz.func67, Tryz.ntmps67
  go_wp2
  refine bodyPost_ret (v := .tuple #[(kindL[6]'(by decide)).row, .bool true]) (by simp [results, Tryz.results67, go_sem]; exact ⟨rfl, rfl, rfl, rfl, rfl, rfl, rfl⟩) rfl ⟨rfl, by go_grown⟩
theorem of7 (w : World) : Calls Tryz.prog 67 #[.int .i8 7] w fun e w' => e = .returned (.tuple #[(kindL[7]'(by decide)).row, .bool true]) ∧ Below w.heap.size w w' := by
  go_enter Tryz.func67, Tryz.ntmps67
  go_wp2
  refine bodyPost_ret (v := .tuple #[(kindL[7]'(by decide)).row, .bool true]) (by simp [results, Tryz.results67, go_sem]; exact ⟨rfl, rfl, rfl, rfl, rfl, rfl, rfl⟩) rfl ⟨rfl, by go_grown⟩
theorem of8 (w : World) : Calls Tryz.prog 67 #[.int .i8 8] w fun e w' => e = .returned (.tuple #[(kindL[8]'(by decide)).row, .bool true]) ∧ Below w.heap.size w w' := by
  go_enter Tryz.func67, Tryz.ntmps67
  go_wp2
  refine bodyPost_ret (v := .tuple #[(kindL[8]'(by decide)).row, .bool true]) (by simp [results, Tryz.results67, go_sem]; exact ⟨rfl, rfl, rfl, rfl, rfl, rfl, rfl⟩) rfl ⟨rfl, by go_grown⟩
theorem of9 (w : World) : Calls Tryz.prog 67 #[.int .i8 9] w fun e w' => e = .returned (.tuple #[(kindL[9]'(by decide)).row, .bool true]) ∧ Below w.heap.size w w' := by
  go_enter Tryz.func67, Tryz.ntmps67
  go_wp2
  refine bodyPost_ret (v := .tuple #[(kindL[9]'(by decide)).row, .bool true]) (by simp [results, Tryz.results67, go_sem]; exact ⟨rfl, rfl, rfl, rfl, rfl, rfl, rfl⟩) rfl ⟨rfl, by go_grown⟩
theorem of10 (w : World) : Calls Tryz.prog 67 #[.int .i8 10] w fun e w' => e = .returned (.tuple #[(kindL[10]'(by decide)).row, .bool true]) ∧ Below w.heap.size w w' := by
  go_enter Tryz.func67, Tryz.ntmps67
  go_wp2
  refine bodyPost_ret (v := .tuple #[(kindL[10]'(by decide)).row, .bool true]) (by simp [results, Tryz.results67, go_sem]; exact ⟨rfl, rfl, rfl, rfl, rfl, rfl, rfl⟩) rfl ⟨rfl, by go_grown⟩
theorem of11 (w : World) : Calls Tryz.prog 67 #[.int .i8 11] w fun e w' => e = .returned (.tuple #[(kindL[11]'(by decide)).row, .bool true]) ∧ Below w.heap.size w w' := by
  go_enter Tryz.func67, Tryz.ntmps67
  go_wp2
  refine bodyPost_ret (v := .tuple #[(kindL[11]'(by decide)).row, .bool true]) (by simp [results, Tryz.results67, go_sem]; exact ⟨rfl, rfl, rfl, rfl, rfl, rfl, rfl⟩) rfl ⟨rfl, by go_grown⟩
theorem of12 (w : World) : Calls Tryz.prog 67 #[.int .i8 12] w fun e w' => e = .returned (.tuple #[(kindL[12]'(by decide)).row, .bool true]) ∧ Below w.heap.size w w' := by
  go_enter Tryz.func67, Tryz.ntmps67
  go_wp2
  refine bodyPost_ret (v := .tuple #[(kindL[12]'(by decide)).row, .bool true]) (by simp [results, Tryz.results67, go_sem]; exact ⟨rfl, rfl, rfl, rfl, rfl, rfl, rfl⟩) rfl ⟨rfl, by go_grown⟩
theorem of13 (w : World) : Calls Tryz.prog 67 #[.int .i8 13] w fun e w' => e = .returned (.tuple #[(kindL[13]'(by decide)).row, .bool true]) ∧ Below w.heap.size w w' := by
  go_enter Tryz.func67, Tryz.ntmps67
  go_wp2
  refine bodyPost_ret (v := .tuple #[(kindL[13]'(by decide)).row, .bool true]) (by simp [results, Tryz.results67, go_sem]; exact ⟨rfl, rfl, rfl, rfl, rfl, rfl, rfl⟩) rfl ⟨rfl, by go_grown⟩
theorem of14 (w : World) : Calls Tryz.prog 67 #[.int .i8 14] w fun e w' => e = .returned (.tuple #[(kindL[14]'(by decide)).row, .bool true]) ∧ Below w.heap.size w w' := by
  go_enter Tryz.func67, Tryz.ntmps67
  go_wp2
  refine bodyPost_ret (v := .tuple #[(kindL[14]'(by decide)).row, .bool true]) (by simp [results, Tryz.results67, go_sem]; exact ⟨rfl, rfl, rfl, rfl, rfl, rfl, rfl⟩) rfl ⟨rfl, by go_grown⟩
theorem of15 (w : World) : Calls Tryz.prog 67 #[.int .i8 15] w fun e w' => e = .returned (.tuple #[(kindL[15]'(by decide)).row, .bool true]) ∧ Below w.heap.size w w' := by
  go_enter Tryz.func67, Tryz.ntmps67
  go_wp2
  refine bodyPost_ret (v := .tuple #[(kindL[15]'(by decide)).row, .bool true]) (by simp [results, Tryz.results67, go_sem]; exact ⟨rfl, rfl, rfl, rfl, rfl, rfl, rfl⟩) rfl ⟨rfl, by go_grown⟩
theorem of16 (w : World) : Calls Tryz.prog 67 #[.int .i8 16] w fun e w' => e = .returned (.tuple #[(kindL[16]'(by decide)).row, .bool true]) ∧ Below w.heap.size w w' := by
  go_enter Tryz.func67, Tryz.ntmps67
  go_wp2
  refine bodyPost_ret (v := .tuple #[(kindL[16]'(by decide)).row, .bool true]) (by simp [results, Tryz.results67, go_sem]; exact ⟨rfl, rfl, rfl, rfl, rfl, rfl, rfl⟩) rfl ⟨rfl, by go_grown⟩
theorem of17 (w : World) : Calls Tryz.prog 67 #[.int .i8 17] w fun e w' => e = .returned (.tuple #[(kindL[17]'(by decide)).row, .bool true]) ∧ Below w.heap.size w w' := by
  go_enter Tryz.func67, Tryz.ntmps67
  go_wp2
  refine bodyPost_ret (v := .tuple #[(kindL[17]'(by decide)).row, .bool true]) (by simp [results, Tryz.results67, go_sem]; exact ⟨rfl, rfl, rfl, rfl, rfl, rfl, rfl⟩) rfl ⟨rfl, by go_grown⟩
theorem At.r7 {w : World} {b : Nat} {x0 x1 x2 x3 x4 x5 x6 : Value} (h : At w b #[x0, x1, x2, x3, x4, x5, x6]) : w.cell? ⟨b, 0, none⟩ = some x0 ∧ w.cell? ⟨b, 1, none⟩ = some x1 ∧ w.cell? ⟨b, 2, none⟩ = some x2 ∧ w.cell? ⟨b, 3, none⟩ = some x3 ∧ w.cell? ⟨b, 4, none⟩ = some x4 ∧ w.cell? ⟨b, 5, none⟩ = some x5 ∧ w.cell? ⟨b, 6, none⟩ = some x6 :=
  ⟨h.c 0 _ rfl, h.c 1 _ rfl, h.c 2 _ rfl, h.c 3 _ rfl, h.c 4 _ rfl, h.c 5 _ rfl, h.c 6 _ rfl⟩
set_option maxHeartbeats 1000000 in
theorem ofTurns (d : Int) (x0 : ByteArray) (x1 : Int) (x2 x3 x4 x5 x6 x7 : Bool) (w : World) (h : d < 0 ∨ 18 ≤ d) (hT : ∀ w, Calls Tryz.prog 86 #[.int .i8 d] w fun e w' => e = .returned (.tuple #[.agg #[.string x0, .int .i64 x1, .bool x2, .bool x3, .bool x4, .bool x5, .bool x6], .bool x7]) ∧ Below w.heap.size w w') :
    Calls Tryz.prog 67 #[.int .i8 d] w fun e w' => e = .returned (.tuple #[.agg #[.string x0, .int .i64 x1, .bool x2, .bool x3, .bool x4, .bool x5, .bool x6], .bool x7]) ∧ Below w.heap.size w w' := by
  have g0 : (d == 0) = false := by simp; omega
  have g1 : (d == 1) = false := by simp; omega
  have g2 : (d == 2) = false := by simp; omega
  have g3 : (d == 3) = false := by simp; omega
  have g4 : (d == 4) = false := by simp; omega
  have g5 : (d == 5) = false := by simp; omega
  have g6 : (d == 6) = false := by simp; omega
  have g7 : (d == 7) = false := by simp; omega
  have g8 : (d == 8) = false := by simp; omega
  have g9 : (d == 9) = false := by simp; omega
  have g10 : (d == 10) = false := by simp; omega
  have g11 : (d == 11) = false := by simp; omega
  have g12 : (d == 12) = false := by simp; omega
  have g13 : (d == 13) = false := by simp; omega
  have g14 : (d == 14) = false := by simp; omega
  have g15 : (d == 15) = false := by simp; omega
  have g16 : (d == 16) = false := by simp; omega
  have g17 : (d == 17) = false := by simp; omega
  have HT : Hid _ := hT
  clear h hT
  go_enter Tryz.func67, Tryz.ntmps67
  go_wp2_with (first | (go_at_call 86; refine Calls.mono (HT.out _) ?_; rintro e w1 ⟨rfl, hb⟩; obtain ⟨a1, hb0, hz⟩ := one_new w _ _ hb; have HB : Hid (Below w.heap.size w w1) := hb0; obtain ⟨c0, c1, c2, c3, c4, c5, c6⟩ := a1.r7; have f0 := a1.f 0; have f1 := a1.f 1; have f2 := a1.f 2; have f3 := a1.f 3; have f4 := a1.f 4; have f5 := a1.f 5; have f6 := a1.f 6; clear hb hb0 a1))
  refine bodyPost_ret (v := .tuple #[.agg #[.string x0, .int .i64 x1, .bool x2, .bool x3, .bool x4, .bool x5, .bool x6], .bool x7]) (by simp [results, Tryz.results67, go_sem, c0, c1, c2, c3, c4, c5, c6]) rfl ⟨rfl, HB.out.trans ?_⟩
  go_grown
theorem of_no (d : Int) (w : World) (h : kOf d = none) : Calls Tryz.prog 67 #[.int .i8 d] w fun e w' => e = .returned (.tuple #[rz, .bool false]) ∧ Below w.heap.size w w' := by
  have := kOf_out h
  exact ofTurns d _ _ _ _ _ _ _ _ w (by omega) (fun w => turnsNo d w (by omega))
theorem of_yes (d : Int) (k : K) (w : World) (h : kOf d = some k) : Calls Tryz.prog 67 #[.int .i8 d] w fun e w' => e = .returned (.tuple #[k.row, .bool true]) ∧ Below w.heap.size w w' := by
  obtain ⟨n, hn, rfl, rfl⟩ := kOf_some h
  clear h
  match n, hn with
  | 0, _ => exact of0 w
  | 1, _ => exact of1 w
  | 2, _ => exact of2 w
  | 3, _ => exact of3 w
  | 4, _ => exact of4 w
  | 5, _ => exact of5 w
  | 6, _ => exact of6 w
  | 7, _ => exact of7 w
  | 8, _ => exact of8 w
  | 9, _ => exact of9 w
  | 10, _ => exact of10 w
  | 11, _ => exact of11 w
  | 12, _ => exact of12 w
  | 13, _ => exact of13 w
  | 14, _ => exact of14 w
  | 15, _ => exact of15 w
  | 16, _ => exact of16 w
  | 17, _ => exact of17 w
  | 18, _ => exact ofTurns 18 _ _ _ _ _ _ _ _ w (by omega) (fun w => turns18 w)
  | 19, _ => exact ofTurns 19 _ _ _ _ _ _ _ _ w (by omega) (fun w => turns19 w)
  | 20, _ => exact ofTurns 20 _ _ _ _ _ _ _ _ w (by omega) (fun w => turns20 w)
  | 21, _ => exact ofTurns 21 _ _ _ _ _ _ _ _ w (by omega) (fun w => turns21 w)
  | 22, _ => exact ofTurns 22 _ _ _ _ _ _ _ _ w (by omega) (fun w => turns22 w)
  | 23, _ => exact ofTurns 23 _ _ _ _ _ _ _ _ w (by omega) (fun w => turns23 w)
  | _ + 24, h => exact absurd h (by omega)
end Go.Proofs.YtddcndlogoajkaaGreatDoor.L8.Op
namespace Go.Proofs.YtddcndlogoajkaaGreatDoor.L8.Op
open Go.ChangeShapes Go.WideShapes Go.ChangeAt Go.RowKit
set_option maxRecDepth 20000

set_option maxHeartbeats 1000000 in
theorem refCheck_none (o : O) (w : World) (h : kOf o.op = none) : Calls Tryz.prog 74 #[o.val] w fun e w' => e = .returned (.int .i64 30) ∧ Below w.heap.size w w' := by
  have HF : Hid _ := fun w => of_no o.op w h
  clear h
  go_enter Tryz.func74, Tryz.ntmps74
  go_wp2_with (first | (go_at_call 67; refine Calls.mono (HF.out _) ?_; rintro e w1 ⟨rfl, hb⟩; obtain ⟨a1, hb0, hz⟩ := one_new w _ _ hb; have HB : Hid (Below w.heap.size w w1) := hb0; obtain ⟨o0, o1, o2, o3, o4⟩ := a1.o5; clear hb hb0 a1))
  go_ret
  exact ⟨rfl, HB.out.trans ((Below.refl _ _).alloc (Nat.le_of_lt hz) _)⟩
set_option maxHeartbeats 1000000 in
theorem refCheck_out (o : O) (k : K) (w : World) (h : kOf o.op = some k) (hx : 31 < o.d ∨ 31 < o.a ∨ 31 < o.b ∨ o.im < -2147483648 ∨ 2147483647 < o.im) : Calls Tryz.prog 74 #[o.val] w fun e w' => e = .returned (.int .i64 30) ∧ Below w.heap.size w w' := by
  have HF : Hid _ := fun w => of_yes o.op k w h
  clear h
  go_enter Tryz.func74, Tryz.ntmps74
  go_wp2_with (first | (go_at_call 67; refine Calls.mono (HF.out _) ?_; rintro e w1 ⟨rfl, hb⟩; obtain ⟨a1, hb0, hz⟩ := one_new w _ _ hb; have HB : Hid (Below w.heap.size w w1) := hb0; obtain ⟨o0, o1, o2, o3, o4⟩ := a1.o5; clear hb hb0 a1))
  all_goals
    go_ret
    exact ⟨rfl, HB.out.trans ((Below.refl _ _).alloc (Nat.le_of_lt hz) _)⟩
set_option maxHeartbeats 4000000 in
theorem refCheck_in (o : O) (k : K) (w : World) (h : kOf o.op = some k) (x1 : o.d ≤ 31) (x2 : o.a ≤ 31) (x3 : o.b ≤ 31) (x4 : -2147483648 ≤ o.im) (x5 : o.im ≤ 2147483647) : Calls Tryz.prog 74 #[o.val] w fun e w' => e = .returned (.int .i64 (if okF k o then 0 else 30)) ∧ Below w.heap.size w w' := by
  have HF : Hid _ := fun w => of_yes o.op k w h
  clear h
  generalize hv : (if okF k o then (0 : Int) else 30) = v
  have HV : Hid (_ = v) := hv
  have y1 : o.d < 32 := by omega
  have y2 : o.a < 32 := by omega
  have y3 : o.b < 32 := by omega
  clear hv
  go_enter Tryz.func74, Tryz.ntmps74
  go_wp2_with (first | (go_at_call 67; refine Calls.mono (HF.out _) ?_; rintro e w1 ⟨rfl, hb⟩; obtain ⟨a1, hb0, hz⟩ := one_new w _ _ hb; have HB : Hid (Below w.heap.size w w1) := hb0; obtain ⟨o0, o1, o2, o3, o4⟩ := a1.o5; clear hb hb0 a1))
  all_goals
    go_ret
    refine ⟨ret_int ?_, HB.out.trans ((Below.refl _ _).alloc (Nat.le_of_lt hz) _)⟩
    rw [← HV.out]
    simp_all [okF, rH, iH]
theorem refCheck_any (o : O) (w : World) (ho : o.Ok) : Calls Tryz.prog 74 #[o.val] w fun e w' => e = .returned (.int .i64 (ckE o)) ∧ Below w.heap.size w w' := by
  cases hk : kOf o.op with
  | none =>
    rw [show ckE o = 30 by simp [ckE, okO_none hk]]
    exact refCheck_none o w hk
  | some k =>
    rw [show ckE o = if okF k o then 0 else 30 by simp [ckE, okO_some hk]]
    by_cases hx : 31 < o.d ∨ 31 < o.a ∨ 31 < o.b ∨ o.im < -2147483648 ∨ 2147483647 < o.im
    · have hf : okF k o = false := by
        obtain ⟨_, _, d0, d1, a0, a1, b0, b1, i0, i1⟩ := ho
        unfold okF rH iH
        cases k.D <;> cases k.A <;> cases k.B <;> cases k.N <;> cases k.I <;> simp <;> omega
      rw [hf]
      exact refCheck_out o k w hk hx
    · exact refCheck_in o k w hk (by omega) (by omega) (by omega) (by omega) (by omega)

end Go.Proofs.YtddcndlogoajkaaGreatDoor.L8.Op
namespace Go.Proofs.YtddcndlogoajkaaGreatDoor.L8.Op
open Go.ChangeShapes Go.WideShapes Go.ChangeAt Go.RowKit
set_option maxRecDepth 20000

/-- What does not count is zero. -/
structure Zr (k : K) (o : O) : Prop where
  d : k.D = false → o.d = 0
  a : k.A = false → o.a = 0
  b : k.B = false → k.N = false → o.b = 0
  i : k.I = false → o.im = 0
theorem zr_of {k : K} {o : O} (h : okF k o = true) : Zr k o := by
  simp only [okF, Bool.and_eq_true] at h
  obtain ⟨⟨⟨h1, h2⟩, h3⟩, h4⟩ := h
  refine ⟨fun e => ?_, fun e => ?_, fun e f => ?_, fun e => ?_⟩
  · rw [e] at h1; simpa [rH] using h1
  · rw [e] at h2; simpa [rH] using h2
  · rw [e, f] at h3; simpa [rH] using h3
  · rw [e] at h4; simpa [iH] using h4
def kT (k : K) : Bool × Bool × Bool × Bool × Bool := (k.D, k.A, k.B, k.N, k.I)
def six : List (Bool × Bool × Bool × Bool × Bool) := [(true, false, false, false, true), (true, true, true, false, false), (true, true, false, false, false), (true, true, false, false, true), (false, true, true, false, true), (false, true, false, false, false)]
theorem six_all : ((List.range 18).all fun n => n == 0 || (match kindL[n]? with | some k => six.contains (kT k) | none => true)) = true := by kernel_rfl
theorem six_of {d : Int} {k : K} (hk : kOf d = some k) (h1 : 1 ≤ d) (h2 : d ≤ 17) : kT k ∈ six := by
  obtain ⟨n, rfl⟩ : ∃ n : Nat, d = n := ⟨d.toNat, by omega⟩
  have h := List.all_eq_true.1 six_all n (List.mem_range.2 (by omega))
  unfold kOf at hk
  rw [if_pos (by omega), Int.toNat_natCast] at hk
  rw [hk] at h
  have h0 : (n == 0) = false := by simp; omega
  rw [h0, Bool.false_or] at h
  exact List.contains_iff_mem.1 h
theorem bset {B : Nat} {w w' : World} (h : Below B w w') {b j : Nat} (hb : B ≤ b) (v : Value) : Below B w (w'.setCell ⟨b, j, none⟩ v) := h.setCell hb v
set_option maxHeartbeats 40000000 in
theorem bare_any (o : O) (k : K) (w : World) (hk : kOf o.op = some k) (hz : Zr k o) (h1 : 1 ≤ o.op) (h2 : o.op ≤ 17) : Calls Tryz.prog 69 #[o.val] w fun e w' => e = .returned o.val ∧ Below w.heap.size w w' := by
  have HF : Hid (∀ w, Calls Tryz.prog 67 #[.int .i8 o.op] w fun e w' => e = .returned (.tuple #[.agg #[.string k.s, .int .i64 k.cls, .bool k.D, .bool k.A, .bool k.B, .bool k.N, .bool k.I], .bool true]) ∧ Below w.heap.size w w') := fun w => of_yes o.op k w hk
  have h6 := six_of hk h1 h2
  clear hk h1 h2
  obtain ⟨z1, z2, z3, z4⟩ := hz
  obtain ⟨op, d, a, b, im⟩ := o
  simp only at z1 z2 z3 z4
  unfold kT at h6
  generalize k.s = S at *
  generalize k.cls = C at *
  generalize k.D = D at *
  generalize k.A = A at *
  generalize k.B = B at *
  generalize k.N = M at *
  generalize k.I = I at *
  clear k
  have hB : (if B = true then true else M) = (B || M) := by cases B <;> rfl
  obtain ⟨V, hV⟩ : ∃ V, V = O.val ⟨op, d, a, b, im⟩ := ⟨_, rfl⟩
  refine Calls.mono (show Calls Tryz.prog 69 #[O.val ⟨op, d, a, b, im⟩] w fun e w' => e = .returned V ∧ Below w.heap.size w w' from ?_) (fun e w' ⟨h1, h2⟩ => ⟨by rw [h1, hV], h2⟩)
  have HV : Hid (V = O.val ⟨op, d, a, b, im⟩) := hV
  clear hV
  go_enter Tryz.func69, Tryz.ntmps69
  go_upto_region 3 with (first | (go_at_call 67; refine Calls.mono (HF.out _) ?_; rintro e w1 ⟨rfl, hb⟩; obtain ⟨a1, a2, hb0, hz, hz1⟩ := two_new w _ _ _ _ hb; have HB : Hid (Below w.heap.size w w1 ∧ w.heap.size + 2 ≤ w1.heap.size) := ⟨hb0, by omega⟩; have H1 : Hid (At w1 w.heap.size #[.int .i8 op, .int .u8 d, .int .u8 a, .int .u8 b, .int .i64 im] ∧ At w1 (w.heap.size + 1) #[.int .i8 0, .int .u8 0, .int .u8 0, .int .u8 0, .int .i64 0]) := ⟨a1, a2⟩; have o0 := a1.c 0 _ rfl; clear hb hb0 a1 a2 HF))
  obtain ⟨g1, g2, hb2, hz2, hz3⟩ := two_new w1 #[.string S, .int .i64 C, .bool D, .bool A, .bool B, .bool M, .bool I] #[.int .i8 op, .int .u8 0, .int .u8 0, .int .u8 0, .int .i64 0] 120 51 (Below.refl _ _)
  have p1 := H1.out.1.below hb2 H1.out.1.lt
  have p2 := H1.out.2.below hb2 H1.out.2.lt
  have HB5 := HB.out.1.trans (hb2.mono HB.out.1.size)
  have hz5 := HB.out.2
  clear H1 HB o0 hb2 hz hz1 hz2 hz3
  generalize (w1.alloc (.cells #[.string S, .int .i64 C, .bool D, .bool A, .bool B, .bool M, .bool I] 120)).alloc (.cells #[.int .i8 op, .int .u8 0, .int .u8 0, .int .u8 0, .int .i64 0] 51) = w5 at *
  generalize w1.heap.size = z at *
  have HB : Hid (Below w.heap.size w w5 ∧ w.heap.size + 2 ≤ z) := ⟨HB5, hz5⟩
  have hza : ¬ w.heap.size = z + 1 := by omega
  have hzb : ¬ w.heap.size + 1 = z + 1 := by omega
  clear HB5
  obtain ⟨o0, o1, o2, o3, o4⟩ := p1.o5
  obtain ⟨t0, t1, t2, t3, t4⟩ := p2.o5
  obtain ⟨q0, q1, q2, q3, q4⟩ := g2.o5
  have r2 := g1.c 2 _ rfl; have r3 := g1.c 3 _ rfl; have r4 := g1.c 4 _ rfl; have r5 := g1.c 5 _ rfl; have r6 := g1.c 6 _ rfl
  have f0 := p2.f 0; have f1 := p2.f 1; have f2 := p2.f 2; have f3 := p2.f 3; have f4 := p2.f 4
  have e1 := g2.f 1; have e2 := g2.f 2; have e3 := g2.f 3; have e4 := g2.f 4
  clear p1 p2 g1 g2 w1
  simp only [six, List.mem_cons, Prod.mk.injEq, List.not_mem_nil, or_false] at h6
  rcases h6 with ⟨rfl, rfl, rfl, rfl, rfl⟩ | ⟨rfl, rfl, rfl, rfl, rfl⟩ | ⟨rfl, rfl, rfl, rfl, rfl⟩ | ⟨rfl, rfl, rfl, rfl, rfl⟩ | ⟨rfl, rfl, rfl, rfl, rfl⟩ | ⟨rfl, rfl, rfl, rfl, rfl⟩
  all_goals
    simp only [reduceCtorEq, false_implies, forall_const] at z1 z2 z3 z4
    (try subst z1); (try subst z2); (try subst z3); (try subst z4)
    go_wp2_with fail
    refine bodyPost_ret (v := V) ?_ rfl ⟨rfl, ?_⟩
    · rw [HV.out]
      simp [results, Tryz.results69, go_sem, t0, t1, t2, t3, t4]
    · repeat (refine bset ?_ (by omega) _)
      exact HB.out.1
end Go.Proofs.YtddcndlogoajkaaGreatDoor.L8.Op
