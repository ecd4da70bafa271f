/- The document's answer on kinds of operations (Of, turns), read off the program by the walk: the chapter's table. Conditions: the kind is a number of 8 bits. -/
import Derived.Test.YtckjioiijmmopaaDoorKd
namespace Go.Proofs.YtckjioiijmmopaaDoor.Op
open Go.ChangeShapes Go.WideShapes Go.ChangeAt Go.RowKit
set_option maxRecDepth 20000

abbrev rz : Value := .agg #[.string ⟨#[]⟩, .int .i64 0, .bool false, .bool false, .bool false, .bool false, .bool false]
abbrev K.row (k : K) : Value := .agg #[.string k.s, .int .i64 k.cls, .bool k.D, .bool k.A, .bool k.B, .bool k.N, .bool k.I]
theorem turns18 (w : World) : Calls Tryd.prog 41 #[.int .i8 18] w fun e w' => e = .returned (.tuple #[(kindL[18]'(by decide)).row, .bool true]) ∧ Below w.heap.size w w' := by
  go_enter Tryd.func41, Tryd.ntmps41
  go_wp2
  refine bodyPost_ret (v := .tuple #[(kindL[18]'(by decide)).row, .bool true]) (by simp [results, Tryd.results41, go_sem]; exact ⟨rfl, rfl, rfl, rfl, rfl, rfl, rfl⟩) rfl ⟨rfl, by go_grown⟩
theorem turns19 (w : World) : Calls Tryd.prog 41 #[.int .i8 19] w fun e w' => e = .returned (.tuple #[(kindL[19]'(by decide)).row, .bool true]) ∧ Below w.heap.size w w' := by
  go_enter Tryd.func41, Tryd.ntmps41
  go_wp2
  refine bodyPost_ret (v := .tuple #[(kindL[19]'(by decide)).row, .bool true]) (by simp [results, Tryd.results41, go_sem]; exact ⟨rfl, rfl, rfl, rfl, rfl, rfl, rfl⟩) rfl ⟨rfl, by go_grown⟩
theorem turns20 (w : World) : Calls Tryd.prog 41 #[.int .i8 20] w fun e w' => e = .returned (.tuple #[(kindL[20]'(by decide)).row, .bool true]) ∧ Below w.heap.size w w' := by
  go_enter Tryd.func41, Tryd.ntmps41
  go_wp2
  refine bodyPost_ret (v := .tuple #[(kindL[20]'(by decide)).row, .bool true]) (by simp [results, Tryd.results41, go_sem]; exact ⟨rfl, rfl, rfl, rfl, rfl, rfl, rfl⟩) rfl ⟨rfl, by go_grown⟩
theorem turns21 (w : World) : Calls Tryd.prog 41 #[.int .i8 21] w fun e w' => e = .returned (.tuple #[(kindL[21]'(by decide)).row, .bool true]) ∧ Below w.heap.size w w' := by
  go_enter Tryd.func41, Tryd.ntmps41
  go_wp2
  refine bodyPost_ret (v := .tuple #[(kindL[21]'(by decide)).row, .bool true]) (by simp [results, Tryd.results41, go_sem]; exact ⟨rfl, rfl, rfl, rfl, rfl, rfl, rfl⟩) rfl ⟨rfl, by go_grown⟩
theorem turns22 (w : World) : Calls Tryd.prog 41 #[.int .i8 22] w fun e w' => e = .returned (.tuple #[(kindL[22]'(by decide)).row, .bool true]) ∧ Below w.heap.size w w' := by
  go_enter Tryd.func41, Tryd.ntmps41
  go_wp2
  refine bodyPost_ret (v := .tuple #[(kindL[22]'(by decide)).row, .bool true]) (by simp [results, Tryd.results41, go_sem]; exact ⟨rfl, rfl, rfl, rfl, rfl, rfl, rfl⟩) rfl ⟨rfl, by go_grown⟩
theorem turns23 (w : World) : Calls Tryd.prog 41 #[.int .i8 23] w fun e w' => e = .returned (.tuple #[(kindL[23]'(by decide)).row, .bool true]) ∧ Below w.heap.size w w' := by
  go_enter Tryd.func41, Tryd.ntmps41
  go_wp2
  refine bodyPost_ret (v := .tuple #[(kindL[23]'(by decide)).row, .bool true]) (by simp [results, Tryd.results41, go_sem]; exact ⟨rfl, rfl, rfl, rfl, rfl, rfl, rfl⟩) rfl ⟨rfl, by go_grown⟩
theorem turnsNo (d : Int) (w : World) (h : d < 18 ∨ 24 ≤ d) : Calls Tryd.prog 41 #[.int .i8 d] w fun e w' => e = .returned (.tuple #[rz, .bool false]) ∧ Below w.heap.size w w' := by
  have g18 : (d == 18) = false := by simp; omega
  have g19 : (d == 19) = false := by simp; omega
  have g20 : (d == 20) = false := by simp; omega
  have g21 : (d == 21) = false := by simp; omega
  have g22 : (d == 22) = false := by simp; omega
  have g23 : (d == 23) = false := by simp; omega
  clear h
  go_enter Tryd.func41, Tryd.ntmps41
  go_wp2
  refine bodyPost_ret (v := .tuple #[rz, .bool false]) (by simp [results, Tryd.results41, go_sem]) rfl ⟨rfl, by go_grown⟩
theorem of0 (w : World) : Calls Tryd.prog 34 #[.int .i8 0] w fun e w' => e = .returned (.tuple #[(kindL[0]'(by decide)).row, .bool true]) ∧ Below w.heap.size w w' := by
  go_enter Tryd.func34, Tryd.ntmps34
  go_wp2
  refine bodyPost_ret (v := .tuple #[(kindL[0]'(by decide)).row, .bool true]) (by simp [results, Tryd.results34, go_sem]; exact ⟨rfl, rfl, rfl, rfl, rfl, rfl, rfl⟩) rfl ⟨rfl, by go_grown⟩
theorem of1 (w : World) : Calls Tryd.prog 34 #[.int .i8 1] w fun e w' => e = .returned (.tuple #[(kindL[1]'(by decide)).row, .bool true]) ∧ Below w.heap.size w w' := by
  go_enter Tryd.func34, Tryd.ntmps34
  go_wp2
  refine bodyPost_ret (v := .tuple #[(kindL[1]'(by decide)).row, .bool true]) (by simp [results, Tryd.results34, go_sem]; exact ⟨rfl, rfl, rfl, rfl, rfl, rfl, rfl⟩) rfl ⟨rfl, by go_grown⟩
theorem of2 (w : World) : Calls Tryd.prog 34 #[.int .i8 2] w fun e w' => e = .returned (.tuple #[(kindL[2]'(by decide)).row, .bool true]) ∧ Below w.heap.size w w' := by
  go_enter Tryd.func34, Tryd.ntmps34
  go_wp2
  refine bodyPost_ret (v := .tuple #[(kindL[2]'(by decide)).row, .bool true]) (by simp [results, Tryd.results34, go_sem]; exact ⟨rfl, rfl, rfl, rfl, rfl, rfl, rfl⟩) rfl ⟨rfl, by go_grown⟩
theorem of3 (w : World) : Calls Tryd.prog 34 #[.int .i8 3] w fun e w' => e = .returned (.tuple #[(kindL[3]'(by decide)).row, .bool true]) ∧ Below w.heap.size w w' := by
  go_enter Tryd.func34, Tryd.ntmps34
  go_wp2
  refine bodyPost_ret (v := .tuple #[(kindL[3]'(by decide)).row, .bool true]) (by simp [results, Tryd.results34, go_sem]; exact ⟨rfl, rfl, rfl, rfl, rfl, rfl, rfl⟩) rfl ⟨rfl, by go_grown⟩
theorem of4 (w : World) : Calls Tryd.prog 34 #[.int .i8 4] w fun e w' => e = .returned (.tuple #[(kindL[4]'(by decide)).row, .bool true]) ∧ Below w.heap.size w w' := by
  go_enter Tryd.func34, Tryd.ntmps34
  go_wp2
  refine bodyPost_ret (v := .tuple #[(kindL[4]'(by decide)).row, .bool true]) (by simp [results, Tryd.results34, go_sem]; exact ⟨rfl, rfl, rfl, rfl, rfl, rfl, rfl⟩) rfl ⟨rfl, by go_grown⟩
theorem of5 (w : World) : Calls Tryd.prog 34 #[.int .i8 5] w fun e w' => e = .returned (.tuple #[(kindL[5]'(by decide)).row, .bool true]) ∧ Below w.heap.size w w' := by
  go_enter Tryd.func34, Tryd.ntmps34
  go_wp2
  refine bodyPost_ret (v := .tuple #[(kindL[5]'(by decide)).row, .bool true]) (by simp [results, Tryd.results34, go_sem]; exact ⟨rfl, rfl, rfl, rfl, rfl, rfl, rfl⟩) rfl ⟨rfl, by go_grown⟩
theorem of6 (w : World) : Calls Tryd.prog 34 #[.int .i8 6] w fun e w' => e = .returned (.tuple #[(kindL[6]'(by decide)).row, .bool true]) ∧ Below w.heap.size w w' := by
  go_enter Tryd.func34, Tryd.ntmps34
  go_wp2
  refine bodyPost_ret (v := .tuple #[(kindL[6]'(by decide)).row, .bool true]) (by simp [results, Tryd.results34, go_sem]; exact ⟨rfl, rfl, rfl, rfl, rfl, rfl, rfl⟩) rfl ⟨rfl, by go_grown⟩
theorem of7 (w : World) : Calls Tryd.prog 34 #[.int .i8 7] w fun e w' => e = .returned (.tuple #[(kindL[7]'(by decide)).row, .bool true]) ∧ Below w.heap.size w w' := by
  go_enter Tryd.func34, Tryd.ntmps34
  go_wp2
  refine bodyPost_ret (v := .tuple #[(kindL[7]'(by decide)).row, .bool true]) (by simp [results, Tryd.results34, go_sem]; exact ⟨rfl, rfl, rfl, rfl, rfl, rfl, rfl⟩) rfl ⟨rfl, by go_grown⟩
theorem of8 (w : World) : Calls Tryd.prog 34 #[.int .i8 8] w fun e w' => e = .returned (.tuple #[(kindL[8]'(by decide)).row, .bool true]) ∧ Below w.heap.size w w' := by
  go_enter Tryd.func34, Tryd.ntmps34
  go_wp2
  refine bodyPost_ret (v := .tuple #[(kindL[8]'(by decide)).row, .bool true]) (by simp [results, Tryd.results34, go_sem]; exact ⟨rfl, rfl, rfl, rfl, rfl, rfl, rfl⟩) rfl ⟨rfl, by go_grown⟩
theorem of9 (w : World) : Calls Tryd.prog 34 #[.int .i8 9] w fun e w' => e = .returned (.tuple #[(kindL[9]'(by decide)).row, .bool true]) ∧ Below w.heap.size w w' := by
  go_enter Tryd.func34, Tryd.ntmps34
  go_wp2
  refine bodyPost_ret (v := .tuple #[(kindL[9]'(by decide)).row, .bool true]) (by simp [results, Tryd.results34, go_sem]; exact ⟨rfl, rfl, rfl, rfl, rfl, rfl, rfl⟩) rfl ⟨rfl, by go_grown⟩
theorem of10 (w : World) : Calls Tryd.prog 34 #[.int .i8 10] w fun e w' => e = .returned (.tuple #[(kindL[10]'(by decide)).row, .bool true]) ∧ Below w.heap.size w w' := by
  go_enter Tryd.func34, Tryd.ntmps34
  go_wp2
  refine bodyPost_ret (v := .tuple #[(kindL[10]'(by decide)).row, .bool true]) (by simp [results, Tryd.results34, go_sem]; exact ⟨rfl, rfl, rfl, rfl, rfl, rfl, rfl⟩) rfl ⟨rfl, by go_grown⟩
theorem of11 (w : World) : Calls Tryd.prog 34 #[.int .i8 11] w fun e w' => e = .returned (.tuple #[(kindL[11]'(by decide)).row, .bool true]) ∧ Below w.heap.size w w' := by
  go_enter Tryd.func34, Tryd.ntmps34
  go_wp2
  refine bodyPost_ret (v := .tuple #[(kindL[11]'(by decide)).row, .bool true]) (by simp [results, Tryd.results34, go_sem]; exact ⟨rfl, rfl, rfl, rfl, rfl, rfl, rfl⟩) rfl ⟨rfl, by go_grown⟩
theorem of12 (w : World) : Calls Tryd.prog 34 #[.int .i8 12] w fun e w' => e = .returned (.tuple #[(kindL[12]'(by decide)).row, .bool true]) ∧ Below w.heap.size w w' := by
  go_enter Tryd.func34, Tryd.ntmps34
  go_wp2
  refine bodyPost_ret (v := .tuple #[(kindL[12]'(by decide)).row, .bool true]) (by simp [results, Tryd.results34, go_sem]; exact ⟨rfl, rfl, rfl, rfl, rfl, rfl, rfl⟩) rfl ⟨rfl, by go_grown⟩
theorem of13 (w : World) : Calls Tryd.prog 34 #[.int .i8 13] w fun e w' => e = .returned (.tuple #[(kindL[13]'(by decide)).row, .bool true]) ∧ Below w.heap.size w w' := by
  go_enter Tryd.func34, Tryd.ntmps34
  go_wp2
  refine bodyPost_ret (v := .tuple #[(kindL[13]'(by decide)).row, .bool true]) (by simp [results, Tryd.results34, go_sem]; exact ⟨rfl, rfl, rfl, rfl, rfl, rfl, rfl⟩) rfl ⟨rfl, by go_grown⟩
theorem of14 (w : World) : Calls Tryd.prog 34 #[.int .i8 14] w fun e w' => e = .returned (.tuple #[(kindL[14]'(by decide)).row, .bool true]) ∧ Below w.heap.size w w' := by
  go_enter Tryd.func34, Tryd.ntmps34
  go_wp2
  refine bodyPost_ret (v := .tuple #[(kindL[14]'(by decide)).row, .bool true]) (by simp [results, Tryd.results34, go_sem]; exact ⟨rfl, rfl, rfl, rfl, rfl, rfl, rfl⟩) rfl ⟨rfl, by go_grown⟩
theorem of15 (w : World) : Calls Tryd.prog 34 #[.int .i8 15] w fun e w' => e = .returned (.tuple #[(kindL[15]'(by decide)).row, .bool true]) ∧ Below w.heap.size w w' := by
  go_enter Tryd.func34, Tryd.ntmps34
  go_wp2
  refine bodyPost_ret (v := .tuple #[(kindL[15]'(by decide)).row, .bool true]) (by simp [results, Tryd.results34, go_sem]; exact ⟨rfl, rfl, rfl, rfl, rfl, rfl, rfl⟩) rfl ⟨rfl, by go_grown⟩
theorem of16 (w : World) : Calls Tryd.prog 34 #[.int .i8 16] w fun e w' => e = .returned (.tuple #[(kindL[16]'(by decide)).row, .bool true]) ∧ Below w.heap.size w w' := by
  go_enter Tryd.func34, Tryd.ntmps34
  go_wp2
  refine bodyPost_ret (v := .tuple #[(kindL[16]'(by decide)).row, .bool true]) (by simp [results, Tryd.results34, go_sem]; exact ⟨rfl, rfl, rfl, rfl, rfl, rfl, rfl⟩) rfl ⟨rfl, by go_grown⟩
theorem of17 (w : World) : Calls Tryd.prog 34 #[.int .i8 17] w fun e w' => e = .returned (.tuple #[(kindL[17]'(by decide)).row, .bool true]) ∧ Below w.heap.size w w' := by
  go_enter Tryd.func34, Tryd.ntmps34
  go_wp2
  refine bodyPost_ret (v := .tuple #[(kindL[17]'(by decide)).row, .bool true]) (by simp [results, Tryd.results34, go_sem]; exact ⟨rfl, rfl, rfl, rfl, rfl, rfl, rfl⟩) rfl ⟨rfl, by go_grown⟩
theorem At.r7 {w : World} {b : Nat} {x0 x1 x2 x3 x4 x5 x6 : Value} (h : At w b #[x0, x1, x2, x3, x4, x5, x6]) : w.cell? ⟨b, 0, none⟩ = some x0 ∧ w.cell? ⟨b, 1, none⟩ = some x1 ∧ w.cell? ⟨b, 2, none⟩ = some x2 ∧ w.cell? ⟨b, 3, none⟩ = some x3 ∧ w.cell? ⟨b, 4, none⟩ = some x4 ∧ w.cell? ⟨b, 5, none⟩ = some x5 ∧ w.cell? ⟨b, 6, none⟩ = some x6 :=
  ⟨h.c 0 _ rfl, h.c 1 _ rfl, h.c 2 _ rfl, h.c 3 _ rfl, h.c 4 _ rfl, h.c 5 _ rfl, h.c 6 _ rfl⟩
set_option maxHeartbeats 1000000 in
theorem ofTurns (d : Int) (x0 : ByteArray) (x1 : Int) (x2 x3 x4 x5 x6 x7 : Bool) (w : World) (h : d < 0 ∨ 18 ≤ d) (hT : ∀ w, Calls Tryd.prog 41 #[.int .i8 d] w fun e w' => e = .returned (.tuple #[.agg #[.string x0, .int .i64 x1, .bool x2, .bool x3, .bool x4, .bool x5, .bool x6], .bool x7]) ∧ Below w.heap.size w w') :
    Calls Tryd.prog 34 #[.int .i8 d] w fun e w' => e = .returned (.tuple #[.agg #[.string x0, .int .i64 x1, .bool x2, .bool x3, .bool x4, .bool x5, .bool x6], .bool x7]) ∧ Below w.heap.size w w' := by
  have g0 : (d == 0) = false := by simp; omega
  have g1 : (d == 1) = false := by simp; omega
  have g2 : (d == 2) = false := by simp; omega
  have g3 : (d == 3) = false := by simp; omega
  have g4 : (d == 4) = false := by simp; omega
  have g5 : (d == 5) = false := by simp; omega
  have g6 : (d == 6) = false := by simp; omega
  have g7 : (d == 7) = false := by simp; omega
  have g8 : (d == 8) = false := by simp; omega
  have g9 : (d == 9) = false := by simp; omega
  have g10 : (d == 10) = false := by simp; omega
  have g11 : (d == 11) = false := by simp; omega
  have g12 : (d == 12) = false := by simp; omega
  have g13 : (d == 13) = false := by simp; omega
  have g14 : (d == 14) = false := by simp; omega
  have g15 : (d == 15) = false := by simp; omega
  have g16 : (d == 16) = false := by simp; omega
  have g17 : (d == 17) = false := by simp; omega
  have HT : Hid _ := hT
  clear h hT
  go_enter Tryd.func34, Tryd.ntmps34
  go_wp2_with (first | (go_at_call 41; refine Calls.mono (HT.out _) ?_; rintro e w1 ⟨rfl, hb⟩; obtain ⟨a1, hb0, hz⟩ := one_new w _ _ hb; have HB : Hid (Below w.heap.size w w1) := hb0; obtain ⟨c0, c1, c2, c3, c4, c5, c6⟩ := a1.r7; have f0 := a1.f 0; have f1 := a1.f 1; have f2 := a1.f 2; have f3 := a1.f 3; have f4 := a1.f 4; have f5 := a1.f 5; have f6 := a1.f 6; clear hb hb0 a1))
  refine bodyPost_ret (v := .tuple #[.agg #[.string x0, .int .i64 x1, .bool x2, .bool x3, .bool x4, .bool x5, .bool x6], .bool x7]) (by simp [results, Tryd.results34, go_sem, c0, c1, c2, c3, c4, c5, c6]) rfl ⟨rfl, HB.out.trans ?_⟩
  go_grown
theorem of_no (d : Int) (w : World) (h : kOf d = none) : Calls Tryd.prog 34 #[.int .i8 d] w fun e w' => e = .returned (.tuple #[rz, .bool false]) ∧ Below w.heap.size w w' := by
  have := kOf_out h
  exact ofTurns d _ _ _ _ _ _ _ _ w (by omega) (fun w => turnsNo d w (by omega))
theorem of_yes (d : Int) (k : K) (w : World) (h : kOf d = some k) : Calls Tryd.prog 34 #[.int .i8 d] w fun e w' => e = .returned (.tuple #[k.row, .bool true]) ∧ Below w.heap.size w w' := by
  obtain ⟨n, hn, rfl, rfl⟩ := kOf_some h
  clear h
  match n, hn with
  | 0, _ => exact of0 w
  | 1, _ => exact of1 w
  | 2, _ => exact of2 w
  | 3, _ => exact of3 w
  | 4, _ => exact of4 w
  | 5, _ => exact of5 w
  | 6, _ => exact of6 w
  | 7, _ => exact of7 w
  | 8, _ => exact of8 w
  | 9, _ => exact of9 w
  | 10, _ => exact of10 w
  | 11, _ => exact of11 w
  | 12, _ => exact of12 w
  | 13, _ => exact of13 w
  | 14, _ => exact of14 w
  | 15, _ => exact of15 w
  | 16, _ => exact of16 w
  | 17, _ => exact of17 w
  | 18, _ => exact ofTurns 18 _ _ _ _ _ _ _ _ w (by omega) (fun w => turns18 w)
  | 19, _ => exact ofTurns 19 _ _ _ _ _ _ _ _ w (by omega) (fun w => turns19 w)
  | 20, _ => exact ofTurns 20 _ _ _ _ _ _ _ _ w (by omega) (fun w => turns20 w)
  | 21, _ => exact ofTurns 21 _ _ _ _ _ _ _ _ w (by omega) (fun w => turns21 w)
  | 22, _ => exact ofTurns 22 _ _ _ _ _ _ _ _ w (by omega) (fun w => turns22 w)
  | 23, _ => exact ofTurns 23 _ _ _ _ _ _ _ _ w (by omega) (fun w => turns23 w)
  | _ + 24, h => exact absurd h (by omega)
end Go.Proofs.YtckjioiijmmopaaDoor.Op
