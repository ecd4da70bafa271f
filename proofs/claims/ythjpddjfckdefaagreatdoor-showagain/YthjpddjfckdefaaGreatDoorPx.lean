/- A program's text is read as the program that it was: blocks and programs; plain mathematics. Conditions: the program is one that is taken. -/
import Derived.Test.YthjpddjfckdefaaGreatDoorPw
namespace Go.Proofs.YthjpddjfckdefaaGreatDoor.Pr
open _root_.Go.Proofs.YthjpddjfckdefaaGreatDoor.Op

/-- The lines of a block's end, of a block, of all. -/
def endsW (x : Bk) : List (List (List UInt8)) :=
  if x.fin = 0 then [[jumpW, Lib.itoa x.thn]]
  else if x.fin = 1 then [[branchW, 114 :: Lib.itoa x.a, Lib.itoa x.thn, Lib.itoa x.els]]
  else if x.fin = 2 then [[haltW, 114 :: Lib.itoa x.a]]
  else [loopW, 114 :: Lib.itoa x.a, [123]] :: (x.body.map opW ++ [[[125]], [jumpW, Lib.itoa x.thn]])
def blockWs (n : Nat) (x : Bk) : List (List (List UInt8)) := [blockW, Lib.itoa n ++ [58]] :: (x.ops.map opW ++ endsW x)
def bW : Nat → List Bk → List (List (List UInt8))
  | _, [] => []
  | n, x :: r => blockWs n x ++ bW (n + 1) r
/-- What a block that is taken keeps to. -/
structure Bx (x : Bk) : Prop where
  ok : x.Ok
  o : ∀ o ∈ x.ops, okP o = true ∧ o.Ok
  b : ∀ o ∈ x.body, okP o = true ∧ o.Ok
  f0 : 0 ≤ x.fin
  f3 : x.fin ≤ 3
  a : rH x.a (eA x.fin) = true
  t : 0 ≤ x.thn ∧ x.thn ≤ 1000
  t2 : x.fin = 2 → x.thn = 0
  e : 0 ≤ x.els ∧ x.els ≤ 1000
  e1 : x.fin ≠ 1 → x.els = 0
  by' : x.fin ≠ 3 → x.body = []
theorem g_word (x : List UInt8) (h : (!x.isEmpty && x.all fun b => decide (33 ≤ b.toNat) && decide (b ≠ 35)) = true) : Gw x := by
  simp only [Bool.and_eq_true] at h
  obtain ⟨hc, hd⟩ := h
  refine ⟨by intro e; rw [e] at hc; simp at hc, fun b hb' => ?_, fun r e => ?_⟩
  · have := List.all_eq_true.1 hd b hb'
    simp only [Bool.and_eq_true, decide_eq_true_eq] at this
    exact byte_good (.inl this.1)
  · have := List.all_eq_true.1 hd 35 (by rw [e]; exact List.mem_cons_self ..)
    revert this; decide
theorem two_conts (ws : List (List UInt8)) (R : List UInt8) (hne : ws ≠ []) (h : ∀ y ∈ ws, Gw y) : conts (linesS (two ws ++ R) 0 []) = ws :: conts (linesS R 0 []) := line_conts sp2 ws R 0 (by simp) hne h
theorem g_jump : Gw jumpW := g_word _ (by decide)
theorem g_branch : Gw branchW := g_word _ (by decide)
theorem g_halt : Gw haltW := g_word _ (by decide)
theorem g_loop : Gw loopW := g_word _ (by decide)
theorem g_block : Gw blockW := g_word _ (by decide)
theorem g_open : Gw [123] := g_word _ (by decide)
theorem g_shut : Gw [125] := g_word _ (by decide)
theorem g_num (n : Nat) : Gw (Lib.itoa n ++ [58]) := by
  have h := gw_itoa n
  refine ⟨by simp, fun b hb => ?_, fun r e => ?_⟩
  · rcases List.mem_append.1 hb with hb | hb
    · exact h.nb b hb
    · rw [List.mem_singleton.1 hb]; exact ⟨rfl, by decide⟩
  · cases hd : Lib.itoa n with
    | nil => exact h.ne hd
    | cons y t => rw [hd] at e; injection e with e _; exact h.h t (by rw [hd, e])
theorem mem2 {P : List UInt8 → Prop} {a b : List UInt8} (ha : P a) (hb : P b) : ∀ y ∈ [a, b], P y := by simp [ha, hb]
theorem mem3 {P : List UInt8 → Prop} {a b c : List UInt8} (ha : P a) (hb : P b) (hc : P c) : ∀ y ∈ [a, b, c], P y := by simp [ha, hb, hc]
theorem mem4 {P : List UInt8 → Prop} {a b c d : List UInt8} (ha : P a) (hb : P b) (hc : P c) (hd : P d) : ∀ y ∈ [a, b, c, d], P y := by simp [ha, hb, hc, hd]
theorem end_conts (x : Bk) (hx : Bx x) (R : List UInt8) : conts (linesS (endL x ++ R) 0 []) = endsW x ++ conts (linesS R 0 []) := by
  unfold endL endsW
  split
  · exact two_conts _ R (by simp) (mem2 g_jump (gw_itoa _))
  · split
    · exact two_conts _ R (by simp) (mem4 g_branch (gw_reg _) (gw_itoa _) (gw_itoa _))
    · split
      · exact two_conts _ R (by simp) (mem2 g_halt (gw_reg _))
      · rw [List.append_assoc, List.append_assoc, List.append_assoc, two_conts _ _ (by simp) (mem3 g_loop (gw_reg _) g_open), ops_conts opW sp4 (by simp) x.body _ (fun o ho => op_words (hx.b o ho).1), two_conts _ _ (by simp) (by simp [g_shut]), two_conts _ R (by simp) (mem2 g_jump (gw_itoa _))]
        simp
theorem block_conts (n : Nat) (x : Bk) (hx : Bx x) (R : List UInt8) : conts (linesS (blockL n x ++ R) 0 []) = blockWs n x ++ conts (linesS R 0 []) := by
  unfold blockL blockWs
  rw [show joinL [blockW, Lib.itoa n ++ [58]] ++ [10] ++ linesL sp2 x.ops ++ endL x ++ R = [] ++ joinL [blockW, Lib.itoa n ++ [58]] ++ [10] ++ (linesL sp2 x.ops ++ (endL x ++ R)) by simp]
  rw [line_conts [] _ _ 0 (by simp) (by simp) (mem2 g_block (g_num n)), ops_conts opW sp2 (by simp) x.ops _ (fun o ho => op_words (hx.o o ho).1), end_conts x hx R]
  simp
theorem bW_snoc (x : Bk) : ∀ (a : List Bk) (n : Nat), bW n (a ++ [x]) = bW n a ++ blockWs (n + a.length) x
  | [], n => by simp [bW]
  | y :: a, n => by
    show blockWs n y ++ bW (n + 1) (a ++ [x]) = blockWs n y ++ bW (n + 1) a ++ _
    rw [bW_snoc x a (n + 1), List.append_assoc]
    simp [Nat.add_comm, Nat.add_left_comm]
theorem to_conts (ps : List Bk) (h : ∀ x ∈ ps, Bx x) : ∀ (k : Nat) (R : List UInt8), k ≤ ps.length → conts (linesS (blkTo ps k ++ R) 0 []) = bW 0 (ps.take k) ++ conts (linesS R 0 [])
  | 0, R, _ => by simp [blkTo, bW]
  | k + 1, R, hk => by
    rw [blkTo_succ (by omega), List.append_assoc, to_conts ps h k _ (by omega), block_conts k ps[k] (h _ (List.getElem_mem _)), List.take_succ_eq_append_getElem (by omega), bW_snoc]
    simp [Nat.min_eq_left (show k ≤ ps.length by omega)]
theorem prog_conts (ps : List Bk) (h : ∀ x ∈ ps, Bx x) : conts (linesS (progL ps) 0 []) = bW 0 ps := by
  have := to_conts ps h ps.length [] (Nat.le_refl _)
  rw [List.append_nil, List.take_length] at this
  unfold progL
  rw [this]
  show bW 0 ps ++ conts (emit 0 []) = _
  rw [emit_nil]
  simp [conts]
/-- How a block ends, read. -/
theorem end_ln (m : Nat) (x : Bk) (hx : Bx x) (W : List (List (List UInt8))) : endR m x.ops (nextL m (toLs (endsW x ++ W))) (toLs (endsW x ++ W)).tail = .ok (x, toLs W) := by
  have f0 := hx.f0
  have f3 := hx.f3
  obtain ⟨t0, t1⟩ := hx.t
  obtain ⟨e0, e1⟩ := hx.e
  have ha := hx.a
  have a0 := hx.ok.a0
  obtain ⟨ops, fin, a, body, thn, els⟩ := x
  simp only at *
  have hf : fin = 0 ∨ fin = 1 ∨ fin = 2 ∨ fin = 3 := by omega
  rcases hf with rfl | rfl | rfl | rfl
  · obtain rfl : a = 0 := by simpa [rH, eA] using ha
    obtain rfl : els = 0 := hx.e1 (by simp)
    obtain rfl : body = [] := hx.by' (by simp)
    show endR m ops (toLn [jumpW, Lib.itoa thn]) (toLs W) = _
    unfold endR
    rw [show takeR (toLn [jumpW, Lib.itoa thn]) = .ok ((0, jumpW), toLn [Lib.itoa thn]) from rfl, R.bind_ok, if_pos rfl, num_ln thn [] (by omega) (by omega), R.bind_ok]
    simp only
    rw [close_ln, R.bind_ok]
  · have ha' : a < 32 := by simpa [rH, eA] using ha
    obtain rfl : body = [] := hx.by' (by simp)
    show endR m ops (toLn [branchW, 114 :: Lib.itoa a, Lib.itoa thn, Lib.itoa els]) (toLs W) = _
    unfold endR
    rw [show takeR (toLn [branchW, 114 :: Lib.itoa a, Lib.itoa thn, Lib.itoa els]) = .ok ((0, branchW), toLn [114 :: Lib.itoa a, Lib.itoa thn, Lib.itoa els]) from rfl, R.bind_ok]
    simp only
    rw [if_neg (by decide), if_pos trivial, reg_ln a _ a0 ha', R.bind_ok]
    simp only
    rw [num_ln thn _ (by omega) (by omega), R.bind_ok]
    simp only
    rw [num_ln els [] (by omega) (by omega), R.bind_ok]
    simp only
    rw [close_ln, R.bind_ok, show ((a.toNat : Nat) : Int) = a by omega]
  · have ha' : a < 32 := by simpa [rH, eA] using ha
    obtain rfl : thn = 0 := hx.t2 rfl
    obtain rfl : els = 0 := hx.e1 (by simp)
    obtain rfl : body = [] := hx.by' (by simp)
    show endR m ops (toLn [haltW, 114 :: Lib.itoa a]) (toLs W) = _
    unfold endR
    rw [show takeR (toLn [haltW, 114 :: Lib.itoa a]) = .ok ((0, haltW), toLn [114 :: Lib.itoa a]) from rfl, R.bind_ok]
    simp only
    rw [if_neg (by decide), if_neg (by decide), if_pos trivial, reg_ln a _ a0 ha', R.bind_ok]
    simp only
    rw [close_ln, R.bind_ok, show ((a.toNat : Nat) : Int) = a by omega]
  · have ha' : a < 32 := by simpa [rH, eA] using ha
    obtain rfl : els = 0 := hx.e1 (by simp)
    show endR m ops (toLn [loopW, 114 :: Lib.itoa a, [123]]) (toLs ((body.map opW ++ [[[125]], [jumpW, Lib.itoa thn]]) ++ W)) = _
    unfold endR
    rw [show takeR (toLn [loopW, 114 :: Lib.itoa a, [123]]) = .ok ((0, loopW), toLn [114 :: Lib.itoa a, [123]]) from rfl, R.bind_ok]
    simp only
    rw [if_neg (by decide), if_neg (by decide), if_neg (by decide), if_pos trivial, reg_ln a _ a0 ha', R.bind_ok]
    simp only
    rw [exact_lnW, R.bind_ok, close_ln, R.bind_ok]
    unfold bodyR
    rw [List.append_assoc, ops_ln m body _ hx.b (fun w r e => by injection e with e _; rw [← e]; decide), R.bind_ok]
    show (((exactR [125] (toLn [[125]])).bind _).bind _) = _
    rw [exact_lnW, R.bind_ok, close_ln, R.bind_ok, R.bind_ok]
    show ((exactR jumpW (toLn [jumpW, Lib.itoa thn])).bind _) = _
    rw [exact_lnW, R.bind_ok, num_ln thn [] (by omega) (by omega), R.bind_ok]
    simp only
    rw [close_ln, R.bind_ok, show ((a.toNat : Nat) : Int) = a by omega]
    rfl
theorem ends_first (x : Bk) : ∀ W w r, endsW x ++ W = w :: r → shapeOf (firstL (toLn w)) = none := by
  intro W w r e
  unfold endsW at e
  split at e
  · injection e with e _; rw [← e]; show shapeOf jumpW = none; decide
  · split at e
    · injection e with e _; rw [← e]; show shapeOf branchW = none; decide
    · split at e
      · injection e with e _; rw [← e]; show shapeOf haltW = none; decide
      · injection e with e _; rw [← e]; show shapeOf loopW = none; decide
theorem block_ln (m : Nat) (x : Bk) (hx : Bx x) (W : List (List (List UInt8))) : blockR m (toLs (x.ops.map opW ++ endsW x ++ W)) = .ok (x, toLs W) := by
  unfold blockR
  rw [List.append_assoc, ops_ln m x.ops _ hx.o (ends_first x W), R.bind_ok]
  exact end_ln m x hx W
theorem head_ln (n : Nat) : headR n (toLn [blockW, Lib.itoa n ++ [58]]) = .ok () := by
  unfold headR
  rw [exact_lnW, R.bind_ok, show Lib.itoa (n : Int) = Lib.decDigits n from Lib.itoa_nonneg n, exact_lnW, R.bind_ok, close_ln]
theorem prog_ln (m : Nat) : ∀ (ps : List Bk) (k n : Nat), ps ≠ [] → ps.length ≤ k → (∀ x ∈ ps, Bx x) → progR m k n (toLs (bW n ps)) = .ok ps
  | [], _, _, h, _, _ => absurd rfl h
  | x :: r, 0, _, _, h, _ => by simp at h
  | x :: r, k + 1, n, _, hk, hx => by
    show progR m (k + 1) n (toLn [blockW, Lib.itoa n ++ [58]] :: toLs (x.ops.map opW ++ endsW x ++ bW (n + 1) r)) = _
    unfold progR
    rw [show nextL m (toLn [blockW, Lib.itoa n ++ [58]] :: toLs (x.ops.map opW ++ endsW x ++ bW (n + 1) r)) = toLn [blockW, Lib.itoa n ++ [58]] from rfl, head_ln, R.bind_ok]
    simp only [List.tail_cons]
    rw [block_ln m x (hx x (List.mem_cons_self ..)), R.bind_ok]
    cases r with
    | nil => rfl
    | cons y r =>
      have ih := prog_ln m (y :: r) k (n + 1) (by simp) (by simp at hk ⊢; omega) (fun z hz => hx z (List.mem_cons_of_mem _ hz))
      show (progR m k (n + 1) (toLs (bW (n + 1) (y :: r)))).bind _ = _
      rw [ih]
      rfl
theorem bW_len : ∀ (ps : List Bk) (n : Nat), ps.length ≤ (bW n ps).length
  | [], _ => Nat.le_refl _
  | x :: r, n => by
    have := bW_len r (n + 1)
    show r.length + 1 ≤ (blockWs n x ++ bW (n + 1) r).length
    rw [List.length_append]
    unfold blockWs
    simp only [List.length_cons]
    omega
/-- A program's text is read as the program. -/
theorem read_back (ps : List Bk) (h : ∀ x ∈ ps, Bx x) (h0 : ps ≠ []) : readT (progL ps) = .ok ps := by
  have hc := prog_conts ps h
  have hl : (linesS (progL ps) 0 []).length = (bW 0 ps).length := by
    have := congrArg List.length hc
    simpa [conts] using this
  have ha := al_prog (progL ps).length (progL ps).length ((linesS (progL ps) 0 []).length + 1) 0 (linesS (progL ps) 0 []) (toLs (bW 0 ps)) (by rw [hc, conts_toLs])
  rw [prog_ln _ ps _ 0 h0 (by have := bW_len ps 0; omega) h] at ha
  unfold readT
  cases hr : progR (progL ps).length ((linesS (progL ps) 0 []).length + 1) 0 (linesS (progL ps) 0 []) with
  | no f => rw [hr] at ha; exact absurd ha (by simp [Al])
  | ok bs => rw [hr] at ha; exact congrArg R.ok ha
end Go.Proofs.YthjpddjfckdefaaGreatDoor.Pr
