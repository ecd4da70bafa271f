/- Whether two places meet, as plain mathematics: what the program answers of a list and two places, that it goes both ways from round to round, and that what is said not to meet never touches one cell. Conditions: none. -/
import Derived.Test.YthdpgimdakmdgaaDoorKd
namespace Go.Proofs.YthdpgimdakmdgaaDoor.Al
open Go.ChangeShapes Go.WideShapes Go.ChangeAt Go.RowKit
open _root_.Go.Proofs.YthdpgimdakmdgaaDoor.Op
set_option maxRecDepth 20000

/-- A Load or a Store that is an operation. -/
def memO (o : O) : Bool := (o.op == 15 || o.op == 16) && okO o
def oz : O := ⟨0, 0, 0, 0, 0⟩
def atL (xs : List O) (i : Int) : O := (xs[i.toNat]?).getD oz
def inL (xs : List O) (i : Int) : Bool := decide (0 ≤ i) && decide (i < xs.length)
def memB (xs : List O) (i : Int) : Bool := inL xs i && memO (atL xs i)
def pairB (xs : List O) (i j : Int) : Bool := memB xs i && memB xs j && ((atL xs i).op == 16 || (atL xs j).op == 16)
/-- Does an operation write a register? -/
def wt (r : Int) (o : O) : Bool := o.d == r && !(o.op == 16) && wrB o
def wtL (st : List O) (r : Int) : Bool := st.any (wt r)
def may (a b : O) (st : List O) : Bool := !(a.a == b.a) || (a.im % 256 == b.im % 256) || wtL st a.a
def cut (xs : List O) (i j : Int) : List O := (xs.drop i.toNat).take (j.toNat - i.toNat)
def meetB (xs : List O) (i j : Int) : Bool := decide (i < j) && pairB xs i j && may (atL xs i) (atL xs j) (cut xs i j)
def roundB (xs : List O) (i j : Int) : Bool := pairB xs i j && may (atL xs i) (atL xs j) xs

theorem atL_at {xs : List O} {k : Nat} (h : k < xs.length) : atL xs (k : Int) = xs[k] := by
  unfold atL
  rw [Int.toNat_natCast, List.getElem?_eq_getElem h]
  rfl
theorem inL_iff {xs : List O} {i : Int} : inL xs i = true ↔ ∃ k : Nat, k < xs.length ∧ i = k := by
  unfold inL
  simp only [Bool.and_eq_true, decide_eq_true_eq]
  constructor
  · rintro ⟨h1, h2⟩
    exact ⟨i.toNat, by omega, by omega⟩
  · rintro ⟨k, h1, rfl⟩
    omega
theorem memB_no {xs : List O} {i : Int} (h : inL xs i = false) : memB xs i = false := by unfold memB; rw [h]; rfl
theorem memB_at {xs : List O} {k : Nat} (h : k < xs.length) : memB xs (k : Int) = memO xs[k] := by
  unfold memB
  rw [atL_at h, inL_iff.2 ⟨k, h, rfl⟩]
  rfl
theorem memB_in {xs : List O} {i : Int} (h : memB xs i = true) : ∃ k : Nat, k < xs.length ∧ i = k := by
  unfold memB at h
  simp only [Bool.and_eq_true] at h
  exact inL_iff.1 h.1
theorem pair_comm (xs : List O) (i j : Int) : pairB xs i j = pairB xs j i := by
  unfold pairB
  rw [Bool.and_comm (memB xs i), Bool.or_comm]
theorem may_comm (a b : O) (st : List O) : may a b st = may b a st := by
  unfold may
  rw [Bool.beq_comm (a := a.im % 256), Bool.beq_comm (a := a.a)]
  cases h : b.a == a.a
  · rfl
  · rw [show a.a = b.a from (beq_iff_eq.1 h).symm]
/-- From round to round it goes both ways. -/
theorem round_comm (xs : List O) (i j : Int) : roundB xs i j = roundB xs j i := by
  unfold roundB
  rw [pair_comm, may_comm]
theorem cut_sub {xs : List O} {i j : Int} {o : O} (h : o ∈ cut xs i j) : o ∈ xs := List.mem_of_mem_drop (List.mem_of_mem_take h)
theorem wtL_cut {xs : List O} {i j r : Int} (h : wtL (cut xs i j) r = true) : wtL xs r = true := by
  unfold wtL at *
  obtain ⟨o, ho, hw⟩ := List.any_eq_true.1 h
  exact List.any_eq_true.2 ⟨o, cut_sub ho, hw⟩
/-- What may meet in one round may meet from round to round. -/
theorem meet_round {xs : List O} {i j : Int} (h : meetB xs i j = true) : roundB xs i j = true := by
  unfold meetB at h
  unfold roundB
  simp only [Bool.and_eq_true] at h ⊢
  refine ⟨h.1.2, ?_⟩
  have h2 := h.2
  unfold may at h2 ⊢
  simp only [Bool.or_eq_true] at h2 ⊢
  exact h2.imp id wtL_cut
theorem rounds_law (xs : List O) (i j : Int) : ((roundB xs i j == roundB xs j i) && (roundB xs i j || !meetB xs i j)) = true := by
  rw [round_comm xs j i]
  cases h : meetB xs i j
  · simp
  · rw [meet_round h]; rfl

/-! ### cells that are touched -/
/-- Which cell is meant. -/
def cellN (a im : Int) : Int := (a + im) % 256
def cellC (o : O) (R : Nat → Int) : Int := if memO o then cellN (R o.a.toNat) o.im else -1
/-- A row of cells, with the registers ahead of each operation. -/
structure Rg (xs : List O) (r0 : Nat → Int) (row : List Int) (R : Nat → Nat → Int) : Prop where
  len : row.length ≤ xs.length
  c : ∀ (i : Nat) (h : i < row.length), row[i] = cellC (xs[i]'(Nat.lt_of_lt_of_le h len)) (R i)
  a : ∀ i, i ≤ row.length → ∀ r : Int, 0 ≤ r → wtL xs r = false → R i r.toNat = r0 r.toNat
  b : ∀ i j, i ≤ j → j ≤ row.length → ∀ r : Int, 0 ≤ r → wtL (cut xs i j) r = false → R i r.toNat = R j r.toNat
theorem Rg.start (xs : List O) (r0 R : Nat → Int) (h : ∀ r : Int, 0 ≤ r → wtL xs r = false → R r.toNat = r0 r.toNat) : Rg xs r0 [] fun _ => R :=
  ⟨Nat.zero_le _, fun i h => by simp at h, fun i _ r hr hw => h r hr hw, fun _ _ _ _ _ _ _ => rfl⟩
theorem wtL_mem {xs : List O} {r : Int} (h : wtL xs r = false) {o : O} (ho : o ∈ xs) : wt r o = false := by
  unfold wtL at h
  cases e : wt r o
  · rfl
  · rw [List.any_eq_true.2 ⟨o, ho, e⟩] at h; cases h
theorem cut_succ {xs : List O} {i j : Nat} (hij : i ≤ j) (hj : j < xs.length) : cut xs (i : Int) ((j + 1 : Nat) : Int) = cut xs i j ++ [xs[j]] := by
  unfold cut
  simp only [Int.toNat_natCast]
  rw [show j + 1 - i = (j - i) + 1 by omega]
  have h : j - i < (xs.drop i).length := by simp; omega
  rw [List.take_succ_eq_append_getElem h]
  congr 1
  simp only [List.getElem_drop, List.cons.injEq, and_true]
  congr 1
  omega
theorem wtL_append {l m : List O} {r : Int} (h : wtL (l ++ m) r = false) : wtL l r = false ∧ wtL m r = false := by
  unfold wtL at *
  rw [List.any_append, Bool.or_eq_false_iff] at h
  exact h
/-- One operation more: registers that it does not write stay. -/
theorem Rg.next {xs : List O} {r0 : Nat → Int} {row : List Int} {R : Nat → Nat → Int} (h : Rg xs r0 row R) (hl : row.length < xs.length) (R' : Nat → Int)
    (hw : ∀ r : Int, 0 ≤ r → wt r xs[row.length] = false → R' r.toNat = R row.length r.toNat) :
    Rg xs r0 (row ++ [cellC xs[row.length] (R row.length)]) fun k => if k ≤ row.length then R k else R' := by
  have hlen : (row ++ [cellC xs[row.length] (R row.length)]).length = row.length + 1 := by simp
  refine ⟨by rw [hlen]; omega, fun i hi => ?_, fun i hi r hr hx => ?_, fun i j hij hj r hr hx => ?_⟩
  · rw [hlen] at hi
    have e : (if i ≤ row.length then R i else R') = R i := if_pos (by omega)
    show _ = cellC _ (if i ≤ row.length then R i else R')
    rw [e]
    by_cases hlt : i < row.length
    · rw [List.getElem_append_left hlt]; exact h.c i hlt
    · obtain rfl : i = row.length := by omega
      simp
  · rw [hlen] at hi
    show (if i ≤ row.length then R i else R') r.toNat = _
    by_cases hlt : i ≤ row.length
    · rw [if_pos hlt]; exact h.a i hlt r hr hx
    · rw [if_neg hlt, hw r hr (wtL_mem hx (List.getElem_mem hl))]
      exact h.a _ (Nat.le_refl _) r hr hx
  · rw [hlen] at hj
    show (if i ≤ row.length then R i else R') r.toNat = (if j ≤ row.length then R j else R') r.toNat
    by_cases hjl : j ≤ row.length
    · rw [if_pos hjl, if_pos (by omega)]; exact h.b i j hij hjl r hr hx
    · rw [if_neg hjl]
      obtain rfl : j = row.length + 1 := by omega
      by_cases hil : i ≤ row.length
      · rw [if_pos hil]
        rw [cut_succ hil hl] at hx
        obtain ⟨x1, x2⟩ := wtL_append hx
        rw [hw r hr (wtL_mem x2 (by simp))]
        exact h.b i _ hil (Nat.le_refl _) r hr x1
      · rw [if_neg hil]
theorem cell_ne {x a b : Int} (h : cellN x a = cellN x b) : a % 256 = b % 256 := by unfold cellN at h; omega
theorem cellC_mem {o : O} {R : Nat → Int} (h : 0 ≤ cellC o R) : memO o = true := by
  unfold cellC at h
  cases e : memO o
  · rw [e] at h; simp at h
  · rfl
theorem cellC_val {o : O} {R : Nat → Int} (h : memO o = true) : cellC o R = cellN (R o.a.toNat) o.im := by unfold cellC; rw [if_pos h]
theorem memO_op {o : O} (h : memO o = true) : o.op = 15 ∨ o.op = 16 := by
  unfold memO at h
  simp only [Bool.and_eq_true, Bool.or_eq_true, beq_iff_eq] at h
  exact h.1
theorem safe_pair {xs : List O} {r0 : Nat → Int} {row row2 : List Int} {R R2 : Nat → Nat → Int} (h : Rg xs r0 row R) (h2 : Rg xs r0 row2 R2) {i j : Nat} (hi : i < row.length) (hj : j < row2.length) (h0 : 0 ≤ row[i]) (he : row[i] = row2[j]) (hl : ¬ ((atL xs i).op = 15 ∧ (atL xs j).op = 15)) :
    pairB xs i j = true ∧ cellN (R i (atL xs i).a.toNat) (atL xs i).im = cellN (R2 j (atL xs j).a.toNat) (atL xs j).im := by
  have li : i < xs.length := Nat.lt_of_lt_of_le hi h.len
  have lj : j < xs.length := Nat.lt_of_lt_of_le hj h2.len
  rw [atL_at li, atL_at lj] at hl ⊢
  have ci := h.c i hi
  have cj := h2.c j hj
  have mi := cellC_mem (by rw [← ci]; exact h0)
  have mj := cellC_mem (by rw [← cj, ← he]; exact h0)
  rw [cellC_val mi] at ci
  rw [cellC_val mj] at cj
  refine ⟨?_, by rw [← ci, ← cj, he]⟩
  unfold pairB
  rw [memB_at li, memB_at lj, mi, mj, atL_at li, atL_at lj]
  have := memO_op mi
  have := memO_op mj
  simp
  omega
/-- Two that touch one cell, in any rounds, are said to meet from round to round. -/
theorem safe_round {xs : List O} (hok : ∀ o ∈ xs, o.Ok) {r0 : Nat → Int} {row row2 : List Int} {R R2 : Nat → Nat → Int} (h : Rg xs r0 row R) (h2 : Rg xs r0 row2 R2) {i j : Nat} (hi : i < row.length) (hj : j < row2.length) (h0 : 0 ≤ row[i]) (he : row[i] = row2[j]) (hl : ¬ ((atL xs i).op = 15 ∧ (atL xs j).op = 15)) : roundB xs i j = true := by
  obtain ⟨hp, hc⟩ := safe_pair h h2 hi hj h0 he hl
  have li : i < xs.length := Nat.lt_of_lt_of_le hi h.len
  unfold roundB
  rw [hp, Bool.true_and]
  unfold may
  cases hw : wtL xs (atL xs i).a
  · by_cases ha : (atL xs i).a = (atL xs j).a
    · have a0 : 0 ≤ (atL xs i).a := by rw [atL_at li]; exact (hok _ (List.getElem_mem li)).a0
      rw [← ha, h.a i (by omega) _ a0 hw, h2.a j (by omega) _ a0 hw] at hc
      have := cell_ne hc
      simp [this]
    · simp [ha]
  · simp
/-- Two that touch one cell in one round are said to meet. -/
theorem safe_meet {xs : List O} (hok : ∀ o ∈ xs, o.Ok) {r0 : Nat → Int} {row : List Int} {R : Nat → Nat → Int} (h : Rg xs r0 row R) {i j : Nat} (hij : i < j) (hi : i < row.length) (hj : j < row.length) (h0 : 0 ≤ row[i]) (he : row[i] = row[j]) (hl : ¬ ((atL xs i).op = 15 ∧ (atL xs j).op = 15)) : meetB xs i j = true := by
  obtain ⟨hp, hc⟩ := safe_pair h h hi hj h0 he hl
  have li : i < xs.length := Nat.lt_of_lt_of_le hi h.len
  unfold meetB
  rw [hp, decide_eq_true (show (i : Int) < j by omega), Bool.true_and, Bool.true_and]
  unfold may
  cases hw : wtL (cut xs i j) (atL xs i).a
  · by_cases ha : (atL xs i).a = (atL xs j).a
    · have a0 : 0 ≤ (atL xs i).a := by rw [atL_at li]; exact (hok _ (List.getElem_mem li)).a0
      rw [← ha, h.b i j (by omega) (by omega) _ a0 hw] at hc
      have := cell_ne hc
      simp [this]
    · simp [ha]
  · simp
end Go.Proofs.YthdpgimdakmdgaaDoor.Al
