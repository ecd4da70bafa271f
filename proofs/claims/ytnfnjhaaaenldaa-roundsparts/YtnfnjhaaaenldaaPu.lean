/- Rounds told cycle by cycle, as plain lists: which operation of which round is issued in a cycle. Plain mathematics. Conditions: none. -/
import Derived.Test.YtnfnjhaaaenldaaSfp
namespace Go.Proofs.Ytnfnjhaaaenldaa.Ro
open _root_.Go.Proofs.Ytnfnjhaaaenldaa.Sp (Pr)
open _root_.Go.Proofs.Ytnfnjhaaaenldaa.Ss

/-- Whether an operation of a round is issued in this cycle. -/
def atc (E : Int) (cy : Nat → Int) (c : Nat) (x : Pr) : Bool := decide (x.2 * E + cy x.1.toNat = (c : Int))
/-- A cycle's row, out of a list of what is issued. -/
def rowP (E : Int) (cy : Nat → Int) (ev : List Pr) (c : Nat) : List Pr := ev.filter (atc E cy c)
/-- All operations of all rounds, round by round. -/
def evR (L n : Nat) : List Pr := (List.range n).flatMap fun r : Nat => (List.range L).map fun i : Nat => ((i : Int), (r : Int))
/-- The same, operation by operation. -/
def evC (n L : Nat) : List Pr := (List.range L).flatMap fun i : Nat => (List.range n).map fun r : Nat => ((i : Int), (r : Int))
theorem evR_succ (L n : Nat) : evR L (n + 1) = evR L n ++ (List.range L).map fun i : Nat => ((i : Int), (n : Int)) := by
  unfold evR; rw [List.range_succ, List.flatMap_append]; simp
theorem evC_succ (n L : Nat) : evC n (L + 1) = evC n L ++ (List.range n).map fun r : Nat => ((L : Int), (r : Int)) := by
  unfold evC; rw [List.range_succ, List.flatMap_append]; simp
theorem mem_evR {L n : Nat} {x : Pr} : x ∈ evR L n ↔ ∃ i r : Nat, i < L ∧ r < n ∧ x = ((i : Int), (r : Int)) := by
  unfold evR
  simp only [List.mem_flatMap, List.mem_range, List.mem_map]
  constructor
  · rintro ⟨r, hr, i, hi, rfl⟩; exact ⟨i, r, hi, hr, rfl⟩
  · rintro ⟨i, r, hi, hr, rfl⟩; exact ⟨r, hr, i, hi, rfl⟩
theorem mem_evC {L n : Nat} {x : Pr} : x ∈ evC n L ↔ ∃ i r : Nat, i < L ∧ r < n ∧ x = ((i : Int), (r : Int)) := by
  unfold evC
  simp only [List.mem_flatMap, List.mem_range, List.mem_map]
  constructor
  · rintro ⟨i, hi, r, hr, rfl⟩; exact ⟨i, r, hi, hr, rfl⟩
  · rintro ⟨i, r, hi, hr, rfl⟩; exact ⟨i, hi, r, hr, rfl⟩
/-- By rising rounds, then by rising numbers. -/
def ltR (x y : Pr) : Prop := x.2 < y.2 ∨ x.2 = y.2 ∧ x.1 < y.1
/-- By rising numbers, then by rising rounds. -/
def ltC (x y : Pr) : Prop := x.1 < y.1 ∨ x.1 = y.1 ∧ x.2 < y.2
theorem evR_sorted (L n : Nat) : (evR L n).Pairwise ltR := by
  induction n with
  | zero => exact List.Pairwise.nil
  | succ n ih =>
    rw [evR_succ, List.pairwise_append]
    refine ⟨ih, ?_, fun a ha b hb => ?_⟩
    · rw [List.pairwise_map]
      refine List.Pairwise.imp ?_ List.pairwise_lt_range
      intro a b h
      right
      exact ⟨rfl, by show (a : Int) < b; omega⟩
    · obtain ⟨i, r, hi, hr, rfl⟩ := mem_evR.1 ha
      obtain ⟨j, -, rfl⟩ := List.mem_map.1 hb
      left
      show (r : Int) < n
      omega
theorem evC_sorted (n L : Nat) : (evC n L).Pairwise ltC := by
  induction L with
  | zero => exact List.Pairwise.nil
  | succ L ih =>
    rw [evC_succ, List.pairwise_append]
    refine ⟨ih, ?_, fun a ha b hb => ?_⟩
    · rw [List.pairwise_map]
      refine List.Pairwise.imp ?_ List.pairwise_lt_range
      intro a b h
      right
      exact ⟨rfl, by show (a : Int) < b; omega⟩
    · obtain ⟨i, r, hi, hr, rfl⟩ := mem_evC.1 ha
      obtain ⟨j, -, rfl⟩ := List.mem_map.1 hb
      left
      show (i : Int) < L
      omega
theorem sub_of : ∀ {l2 l1 : List Pr}, l1.Pairwise ltR → l2.Pairwise ltR → (∀ x ∈ l1, x ∈ l2) → l1.Sublist l2
  | [], l1, _, _, h => by
    cases l1 with
    | nil => exact List.Sublist.slnil
    | cons a l => exact absurd (h a (List.mem_cons_self)) (by simp)
  | b :: l2, [], _, _, _ => List.nil_sublist _
  | b :: l2, a :: l1, h1, h2, h => by
    rw [List.pairwise_cons] at h1 h2
    by_cases e : a = b
    · subst e
      refine (sub_of h1.2 h2.2 fun x hx => ?_).cons_cons a
      rcases List.mem_cons.1 (h x (List.mem_cons_of_mem _ hx)) with e | e
      · subst e
        have h3 : ltR x x := h1.1 x hx
        unfold ltR at h3
        omega
      · exact e
    · have ha : a ∈ l2 := by
        rcases List.mem_cons.1 (h a (List.mem_cons_self)) with e' | e'
        · exact absurd e' e
        · exact e'
      have hba : ltR b a := h2.1 a ha
      refine (sub_of (List.pairwise_cons.2 h1) h2.2 fun x hx => ?_).cons b
      rcases List.mem_cons.1 (h x hx) with e' | e'
      · subst e'
        rcases List.mem_cons.1 hx with e2 | e2
        · exact absurd e2.symm e
        · have h3 : ltR a x := h1.1 x e2
          unfold ltR at h3 hba
          omega
      · exact e'
theorem ext_R {l1 l2 : List Pr} (h1 : l1.Pairwise ltR) (h2 : l2.Pairwise ltR) (h : ∀ x, x ∈ l1 ↔ x ∈ l2) : l1 = l2 := by
  have a := sub_of h1 h2 fun x hx => (h x).1 hx
  have b := sub_of h2 h1 fun x hx => (h x).2 hx
  exact a.eq_of_length (Nat.le_antisymm a.length_le b.length_le)
theorem rowP_sorted (E : Int) (cy : Nat → Int) (L n c : Nat) : (rowP E cy (evR L n) c).Pairwise ltR := List.Pairwise.filter _ (evR_sorted L n)
theorem mem_rowR {E : Int} {cy : Nat → Int} {L n c : Nat} {x : Pr} : x ∈ rowP E cy (evR L n) c ↔ ∃ i r : Nat, i < L ∧ r < n ∧ x = ((i : Int), (r : Int)) ∧ (r : Int) * E + cy i = c := by
  unfold rowP
  rw [List.mem_filter, mem_evR]
  constructor
  · rintro ⟨⟨i, r, hi, hr, rfl⟩, h⟩
    refine ⟨i, r, hi, hr, rfl, ?_⟩
    have := of_decide_eq_true h
    simpa using this
  · rintro ⟨i, r, hi, hr, rfl, h⟩
    refine ⟨⟨i, r, hi, hr, rfl⟩, decide_eq_true ?_⟩
    simpa using h
/-- What is put into the order of rounds, and stands otherwise as it stood, is the row round by round. -/
theorem sorted_is (E : Int) (cy : Nat → Int) (L n c : Nat) (f g : Nat → Pr) (m : Nat) (hf : (List.range m).map f = rowP E cy (evC n L) c) (hP : Ps (fun x : Pr => x.2) 0 m f g) (hS : Srt (fun x : Pr => x.2) g 0 m) : (List.range m).map g = rowP E cy (evR L n) c := by
  have fs : ∀ i j, i < j → j < m → ltC (f i) (f j) := by
    have h : ((List.range m).map f).Pairwise ltC := by rw [hf]; exact List.Pairwise.filter _ (evC_sorted n L)
    intro i j hij hj
    rw [List.pairwise_iff_getElem] at h
    have := h i j (by simp; omega) (by simp; omega) hij
    simpa using this
  obtain ⟨s, s1, -, s3, s4⟩ := hP.st
  refine ext_R ?_ (rowP_sorted _ _ _ _ _) fun x => ?_
  · rw [List.pairwise_iff_getElem]
    intro i j hi hj hij
    simp only [List.length_map, List.length_range] at hi hj
    simp only [List.getElem_map, List.getElem_range]
    have h1 : (g i).2 ≤ (g j).2 := hS i j (Nat.zero_le _) hij hj
    rcases Int.lt_or_eq_of_le h1 with h | h
    · exact .inl h
    · have h2 := s4 i j hij h
      have h3 := fs (s i) (s j) h2 (s1 j (Nat.zero_le _) hj).2
      rw [← s3, ← s3] at h3
      refine .inr ⟨h, ?_⟩
      rcases h3 with h3 | h3
      · exact h3
      · omega
  · have hm : x ∈ (List.range m).map g ↔ x ∈ (List.range m).map f := by
      simp only [List.mem_map, List.mem_range]
      constructor
      · rintro ⟨k, hk, rfl⟩
        obtain ⟨j, -, hj, e⟩ := hP.pm.fwd k (Nat.zero_le _) hk
        exact ⟨j, hj, e.symm⟩
      · rintro ⟨k, hk, rfl⟩
        obtain ⟨j, -, hj, e⟩ := hP.pm.bwd k (Nat.zero_le _) hk
        exact ⟨j, hj, e.symm⟩
    rw [hm, hf]
    unfold rowP
    rw [List.mem_filter, List.mem_filter, mem_evC, mem_evR]
/-- One more is issued. -/
theorem rowP_app {E : Int} {cy : Nat → Int} {ev : List Pr} {x : Pr} {c : Nat} (hc : x.2 * E + cy x.1.toNat = (c : Int)) (d : Nat) : rowP E cy (ev ++ [x]) d = if d = c then rowP E cy ev c ++ [x] else rowP E cy ev d := by
  unfold rowP
  rw [List.filter_append]
  by_cases e : d = c
  · subst e
    have : atc E cy d x = true := decide_eq_true hc
    rw [if_pos rfl, List.filter_cons, if_pos this]; rfl
  · have : atc E cy d x = false := decide_eq_false (by omega)
    rw [if_neg e, List.filter_cons, this]
    simp
theorem rowP_len (E : Int) (cy : Nat → Int) (ev : List Pr) (c : Nat) : (rowP E cy ev c).length ≤ ev.length := List.length_filter_le _ _
theorem evR_len (L n : Nat) : (evR L n).length = n * L := by
  induction n with
  | zero => simp [evR]
  | succ n ih => rw [evR_succ]; simp [ih, Nat.add_mul]
theorem evC_len (n L : Nat) : (evC n L).length = L * n := by
  induction L with
  | zero => simp [evC]
  | succ n ih => rw [evC_succ]; simp [ih, Nat.add_mul]
end Go.Proofs.Ytnfnjhaaaenldaa.Ro
