/- A program's text is read as the program that it was: plain mathematics. Conditions: the program is one that is taken. -/
import Derived.Test.YthjpddjfckdefaaGreatDoorPv
namespace Go.Proofs.YthjpddjfckdefaaGreatDoor.Pr
open _root_.Go.Proofs.YthjpddjfckdefaaGreatDoor.Op

theorem dec_all (u : Nat) : ∀ b ∈ Lib.decDigits u, 48 ≤ b.toNat ∧ b.toNat ≤ 57 := by
  induction u using Nat.strongRecOn with
  | _ u ih =>
    intro b hb
    rw [dec_pre u, List.mem_append] at hb
    rcases hb with hb | hb
    · unfold pre at hb
      split at hb
      · simp at hb
      · exact ih (u / 10) (by omega) b hb
    · rw [List.mem_singleton.1 hb]
      obtain ⟨h0, h1, _⟩ := dg_byte u
      exact ⟨h0, h1⟩
theorem byte_good {b : UInt8} (h : 33 ≤ b.toNat ∨ b.toNat = 45) : blankB b = false ∧ b ≠ 10 := by
  have h1 : b ≠ 32 := by rintro rfl; revert h; decide
  have h2 : b ≠ 9 := by rintro rfl; revert h; decide
  have h3 : b ≠ 10 := by rintro rfl; revert h; decide
  refine ⟨?_, h3⟩
  unfold blankB
  simp [h1, h2]
theorem gw_itoa (n : Int) : Gw (Lib.itoa n) := by
  have key : ∀ u, Gw (Lib.decDigits u) := fun u => ⟨dec_ne u, fun b hb => byte_good (.inl (by have := dec_all u b hb; omega)), fun r e => by
    have := dec_all u 35 (by rw [e]; exact List.mem_cons_self ..)
    revert this; decide⟩
  rcases Int.lt_or_le n 0 with hv | hv
  · obtain ⟨u, rfl⟩ : ∃ u : Nat, n = -(u : Int) := ⟨n.natAbs, by omega⟩
    rw [Lib.itoa_neg u (by omega)]
    refine ⟨by simp, fun b hb => ?_, fun r e => by injection e with e _; revert e; decide⟩
    rcases List.mem_cons.1 hb with rfl | hb
    · exact ⟨rfl, by decide⟩
    · exact (key u).nb b hb
  · obtain ⟨u, rfl⟩ : ∃ u : Nat, n = (u : Int) := ⟨n.toNat, by omega⟩
    rw [Lib.itoa_nonneg u]
    exact key u
theorem gw_reg (n : Int) : Gw (114 :: Lib.itoa n) := ⟨by simp, fun b hb => by
  rcases List.mem_cons.1 hb with rfl | hb
  · exact ⟨rfl, by decide⟩
  · exact (gw_itoa n).nb b hb, fun r e => by injection e with e _; revert e; decide⟩
/-- The words of an operation. -/
def tailW (k : K) (o : O) : List (List UInt8) := (if k.D then [114 :: Lib.itoa o.d] else []) ++ ((if k.A then [114 :: Lib.itoa o.a] else []) ++ ((if k.B then [114 :: Lib.itoa o.b] else []) ++ (if k.I then [Lib.itoa o.im] else [])))
def opW (o : O) : List (List UInt8) := match kOf o.op with | some k => k.name :: tailW k o | none => []
def flagsN (k : K) : Nat := (if k.D then 1 else 0) + (if k.A then 2 else 0) + (if k.B then 4 else 0) + (if k.I then 8 else 0)
theorem kinds_are : ∀ d, d < 18 → 1 ≤ d → (match kindL[d]? with | some k => (shapeOf k.name == some (d, flagsN k)) && !k.N && !k.name.isEmpty && (k.name.all fun b => decide (33 ≤ b.toNat) && decide (b ≠ 35)) | none => false) = true := by decide
structure Kd' (d : Nat) (k : K) : Prop where
  s : shapeOf k.name = some (d, flagsN k)
  n : k.N = false
  g : Gw k.name
theorem kind_is {d : Nat} {k : K} (h1 : 1 ≤ d) (h2 : d ≤ 17) (hk : kindL[d]? = some k) : Kd' d k := by
  have h := kinds_are d (by omega) h1
  rw [hk] at h
  simp only [Bool.and_eq_true] at h
  obtain ⟨⟨⟨ha, hb⟩, hc⟩, hd⟩ := h
  refine ⟨by simpa using ha, by simpa using hb, ?_⟩
  refine ⟨by intro e; rw [e] at hc; simp at hc, fun b hb' => ?_, fun r e => ?_⟩
  · have := List.all_eq_true.1 hd b hb'
    simp only [Bool.and_eq_true, decide_eq_true_eq] at this
    exact byte_good (.inl this.1)
  · have := List.all_eq_true.1 hd 35 (by rw [e]; exact List.mem_cons_self ..)
    revert this; decide
/-- An operation of a program: its kind. -/
theorem okP_kind {o : O} (h : okP o = true) : ∃ (d : Nat) (k : K), o.op = (d : Int) ∧ 1 ≤ d ∧ d ≤ 17 ∧ kindL[d]? = some k ∧ kOf o.op = some k ∧ okF k o = true := by
  unfold okP at h
  simp only [Bool.and_eq_true, decide_eq_true_eq] at h
  obtain ⟨⟨h1, h2⟩, h3⟩ := h
  obtain ⟨d, hd⟩ : ∃ d : Nat, o.op = d := ⟨o.op.toNat, by omega⟩
  unfold okO at h3
  cases hk : kOf o.op with
  | none => rw [hk] at h3; cases h3
  | some k =>
    rw [hk] at h3
    refine ⟨d, k, hd, by omega, by omega, ?_, rfl, h3⟩
    unfold kOf at hk
    rw [if_pos (by omega), hd] at hk
    exact hk
theorem op_words {o : O} (h : okP o = true) : opL o = joinL (opW o) ∧ opW o ≠ [] ∧ ∀ y ∈ opW o, Gw y := by
  obtain ⟨d, k, hd, h1, h2, hk, hko, hf⟩ := okP_kind h
  have hK := kind_is h1 h2 hk
  have hN := hK.n
  have hG := hK.g
  unfold opL opW
  rw [hko]
  simp only
  refine ⟨?_, by simp, fun y hy => ?_⟩
  · unfold textL pD pA pB pI tailW
    rw [hN]
    cases k.D <;> cases k.A <;> cases k.B <;> cases k.I <;> simp [join_cons, join_one]
  · simp only [List.mem_cons] at hy
    rcases hy with rfl | hy
    · exact hG
    · unfold tailW at hy
      simp only [List.mem_append] at hy
      rcases hy with hy | hy | hy | hy <;> split at hy <;> simp at hy <;> subst hy
      · exact gw_reg _
      · exact gw_reg _
      · exact gw_reg _
      · exact gw_itoa _
def toLn (ws : List (List UInt8)) : Ln := ⟨ws.map fun x => (0, x), 0⟩
def toLs (W : List (List (List UInt8))) : List Ln := W.map toLn
theorem cont_toLn (ws : List (List UInt8)) : cont (toLn ws) = ws := by simp [cont, toLn, Function.comp_def]
theorem conts_toLs (W : List (List (List UInt8))) : conts (toLs W) = W := by simp [conts, toLs, Function.comp_def, cont_toLn]
theorem itoa_nat {v : Int} (h : 0 ≤ v) : Lib.itoa v = Lib.decDigits v.toNat := by
  obtain ⟨u, rfl⟩ : ∃ u : Nat, v = u := ⟨v.toNat, by omega⟩
  rw [Lib.itoa_nonneg]; simp
theorem reg_ln (v : Int) (r : List (List UInt8)) (h0 : 0 ≤ v) (h1 : v < 32) : regR (toLn ((114 :: Lib.itoa v) :: r)) = .ok (v.toNat, toLn r) := by
  show (takeR (toLn ((114 :: Lib.itoa v) :: r))).bind _ = _
  rw [show takeR (toLn ((114 :: Lib.itoa v) :: r)) = .ok ((0, 114 :: Lib.itoa v), toLn r) from rfl, R.bind_ok]
  simp only
  rw [itoa_nat h0, reg_back v.toNat (by omega)]
theorem num_ln (v : Int) (r : List (List UInt8)) (h0 : -2147483648 ≤ v) (h1 : v ≤ 2147483647) : numR (toLn (Lib.itoa v :: r)) = .ok (v, toLn r) := by
  show (takeR (toLn (Lib.itoa v :: r))).bind _ = _
  rw [show takeR (toLn (Lib.itoa v :: r)) = .ok ((0, Lib.itoa v), toLn r) from rfl, R.bind_ok]
  simp only
  rw [num_back v h0 h1]
theorem exact_lnW (s : List UInt8) (r : List (List UInt8)) : exactR s (toLn (s :: r)) = .ok (toLn r) := by
  show (takeR (toLn (s :: r))).bind _ = _
  rw [show takeR (toLn (s :: r)) = .ok ((0, s), toLn r) from rfl, R.bind_ok]
  simp
theorem close_ln : closeR (toLn []) = .ok () := rfl
theorem regIf_ln (c : Bool) (v : Int) (r : List (List UInt8)) (h0 : 0 ≤ v) (h : rH v c = true) : regIf c (toLn ((if c then [114 :: Lib.itoa v] else []) ++ r)) = .ok (v.toNat, toLn r) := by
  unfold rH at h
  cases c
  · simp at h
    subst h
    rfl
  · simp at h
    exact reg_ln v r h0 h
theorem numIf_ln (c : Bool) (v : Int) (h : iH v c = true) : numIf c (toLn (if c then [Lib.itoa v] else [])) = .ok (v, toLn []) := by
  unfold iH at h
  cases c
  · simp at h
    subst h
    rfl
  · simp at h
    exact num_ln v [] h.1 h.2
theorem flags_are (k : K) : tells (flagsN k) 1 = k.D ∧ tells (flagsN k) 2 = k.A ∧ tells (flagsN k) 4 = k.B ∧ tells (flagsN k) 8 = k.I := by
  unfold flagsN
  cases k.D <;> cases k.A <;> cases k.B <;> cases k.I <;> decide
theorem read_ln {o : O} {d : Nat} {k : K} (hd : o.op = (d : Int)) (ho : o.Ok) (hN : k.N = false) (hf : okF k o = true) : readR d (flagsN k) (toLn (tailW k o)) = .ok o := by
  unfold okF at hf
  simp only [Bool.and_eq_true] at hf
  obtain ⟨⟨⟨f1, f2⟩, f3⟩, f4⟩ := hf
  rw [hN, Bool.or_false] at f3
  obtain ⟨t1, t2, t4, t8⟩ := flags_are k
  unfold readR tailW
  rw [t1, t2, t4, t8, regIf_ln k.D o.d _ ho.d0 f1, R.bind_ok]
  simp only
  rw [regIf_ln k.A o.a _ ho.a0 f2, R.bind_ok]
  simp only
  rw [regIf_ln k.B o.b _ ho.b0 f3, R.bind_ok]
  simp only
  rw [numIf_ln k.I o.im f4, R.bind_ok]
  simp only
  rw [close_ln, R.bind_ok]
  have e1 : ((o.d.toNat : Nat) : Int) = o.d := by have := ho.d0; omega
  have e2 : ((o.a.toNat : Nat) : Int) = o.a := by have := ho.a0; omega
  have e3 : ((o.b.toNat : Nat) : Int) = o.b := by have := ho.b0; omega
  rw [e1, e2, e3, ← hd]
/-- Lines of operations, ahead of a line that is none. -/
theorem ops_ln (m : Nat) : ∀ (xs : List O) (W : List (List (List UInt8))), (∀ o ∈ xs, okP o = true ∧ o.Ok) → (∀ w r, W = w :: r → shapeOf (firstL (toLn w)) = none) → opsR m (toLs (xs.map opW ++ W)) = .ok (xs, nextL m (toLs W), (toLs W).tail)
  | [], [], _, _ => rfl
  | [], w :: r, _, h => by
    have := h w r rfl
    show opsR m (toLn w :: toLs r) = _
    unfold opsR
    rw [this]
    rfl
  | o :: xs, W, h, hW => by
    obtain ⟨h1, h2⟩ := h o (List.mem_cons_self ..)
    obtain ⟨d, k, hd, g1, g2, hk, hko, hf⟩ := okP_kind h1
    have hK := kind_is g1 g2 hk
    have hw : opW o = k.name :: tailW k o := by unfold opW; rw [hko]
    show opsR m (toLn (opW o) :: toLs (xs.map opW ++ W)) = _
    unfold opsR
    rw [hw, show firstL (toLn (k.name :: tailW k o)) = k.name from rfl, hK.s]
    simp only
    rw [show (⟨(toLn (k.name :: tailW k o)).ws.tail, (toLn (k.name :: tailW k o)).en⟩ : Ln) = toLn (tailW k o) from rfl, read_ln hd h2 hK.n hf, R.bind_ok, ops_ln m xs W (fun x hx => h x (List.mem_cons_of_mem _ hx)) hW, R.bind_ok]
end Go.Proofs.YthjpddjfckdefaaGreatDoor.Pr
