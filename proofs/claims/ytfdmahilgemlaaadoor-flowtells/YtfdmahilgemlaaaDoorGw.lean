/- Rings: what is told of a list of lists in order; a list that is empty stays so. Conditions: none. -/
import Derived.Test.YtfdmahilgemlaaaDoorGv
import Derived.Test.YtfdmahilgemlaaaDoorSrg
namespace Go.Proofs.YtfdmahilgemlaaaDoor.Fl
open Go.ChangeShapes Go.WideShapes Go.ChangeAt Go.RowKit Go.Maps
open _root_.Go.Proofs.YtfdmahilgemlaaaDoor.So _root_.Go.Proofs.YtfdmahilgemlaaaDoor.Ss _root_.Go.Proofs.YtfdmahilgemlaaaDoor.Op _root_.Go.Proofs.YtfdmahilgemlaaaDoor.Fw
set_option maxRecDepth 20000

theorem insNil_any (cv : Value) (w : World) : Calls Tryd.prog 55 #[.slice none 0 0, .int .i64 0, .int .i64 0, cv] w fun e w' => e = .returned (.tuple #[]) ∧ w' = w := by
  go_enter Tryd.func55, Tryd.ntmps55
  go_wp2
  refine wp_loop_rounds 1 ?_
  rw [rounds_succ]
  go_wp2
  go_end0
  exact ⟨rfl, rfl⟩
theorem stableNil_any (cv : Value) (w : World) : Calls Tryd.prog 45 #[.slice none 0 0, .int .i64 0, cv] w fun e w' => e = .returned (.tuple #[]) ∧ w' = w := by
  have HI : Hid _ := insNil_any cv
  go_enter Tryd.func45, Tryd.ntmps45
  go_wp2
  refine wp_loop_rounds 1 ?_
  rw [rounds_succ]
  go_wp2_with (first | (go_at_call 55; refine Calls.mono (HI.out _) ?_; rintro e w' ⟨rfl, hw⟩; subst w'))
  refine wp_loop_rounds 1 ?_
  rw [rounds_succ]
  go_wp2
  go_end0
  exact ⟨rfl, rfl⟩
theorem risingNil_any (w : World) : Calls Tryd.prog 20 #[.slice none 0 0, .func (.func 21) #[] #[]] w fun e w' => e = .returned (.slice none 0 0) ∧ Below w.heap.size w w' := by
  have HS : Hid _ := stableNil_any
  have H32 : Hid (∀ (cv : Value) (w : World), Calls Tryd.prog 32 #[.slice none 0 0, cv] w fun e w' => e = .returned (.tuple #[]) ∧ w' = w) := fun cv w => by
    go_enter Tryd.func32, Tryd.ntmps32
    go_wp2_with (first | (go_at_call 45; refine Calls.mono (HS.out _ _) ?_; rintro e w' ⟨rfl, hw⟩; subst w'))
    go_end0
    exact ⟨rfl, rfl⟩
  have H35 : Hid (∀ (cv : Value) (w : World), Calls Tryd.prog 35 #[.slice none 0 0, cv] w fun e w' => e = .returned (.slice none 0 0) ∧ w' = w) := fun cv w => by
    go_enter Tryd.func35, Tryd.ntmps35
    go_wp2
    go_ret
    exact ⟨rfl, rfl⟩
  clear HS
  go_enter Tryd.func20, Tryd.ntmps20
  go_wp2_with (first | (go_at_call 32; refine Calls.mono (H32.out _ _) ?_; rintro e w' ⟨rfl, hw⟩; subst w') | (go_at_call 35; refine Calls.mono (H35.out _ _) ?_; rintro e w' ⟨rfl, hw⟩; subst w'))
  go_ret
  exact ⟨rfl, by go_grown⟩

section
variable {t : Nat → Nat → Bool} {n : Nat}
theorem ring_mem {i j : Nat} : j ∈ ringL t n i ↔ j < n ∧ wB t n i j = true ∧ wB t n j i = true := by
  simp [ringL, List.mem_filter]
theorem ring_eq {i m : Nat} (h1 : wB t n i m = true) (h2 : wB t n m i = true) : ringL t n m = ringL t n i := by
  unfold ringL
  refine List.filter_congr fun j _ => ?_
  rw [Bool.eq_iff_iff]
  simp only [Bool.and_eq_true]
  exact ⟨fun h => ⟨wB_trans h1 h.1, wB_trans h.2 h2⟩, fun h => ⟨wB_trans h2 h.1, wB_trans h.2 h1⟩⟩
/-- A ring has a first block, which tells it. -/
theorem ring_head {i : Nat} (hi : i < n) (h : wB t n i i = true) : ∃ m, (ringL t n i).head? = some m ∧ m < n ∧ headB t n m = true ∧ ringL t n m = ringL t n i := by
  have hne : ringL t n i ≠ [] := fun e => by
    have : i ∈ ringL t n i := ring_mem.2 ⟨hi, h, h⟩
    rw [e] at this; simp at this
  obtain ⟨m, r, e⟩ := List.exists_cons_of_ne_nil hne
  have hm : m ∈ ringL t n i := by rw [e]; simp
  obtain ⟨h1, h2, h3⟩ := ring_mem.1 hm
  refine ⟨m, by rw [e]; rfl, h1, ?_, ring_eq h2 h3⟩
  have hmm : wB t n m m = true := wB_trans h3 h2
  unfold headB
  rw [hmm]
  cases ht : told t n m m with
  | false => rfl
  | true =>
    obtain ⟨k, hk, k1, k2⟩ := told_iff.1 ht
    have hkr : k ∈ ringL t n i := ring_mem.2 ⟨by omega, wB_trans h2 k2, wB_trans k1 h3⟩
    have hs : (ringL t n i).Pairwise (· < ·) := (List.pairwise_lt_range (n := n)).filter _
    rw [e] at hkr hs
    rcases List.mem_cons.1 hkr with rfl | hkr
    · omega
    · have := (List.pairwise_cons.1 hs).1 k hkr
      omega
theorem head_self {m : Nat} (hm : m < n) (h : headB t n m = true) : wB t n m m = true ∧ (ringL t n m).head? = some m := by
  have hw : wB t n m m = true := by unfold headB at h; rw [Bool.and_eq_true] at h; exact h.1
  obtain ⟨k, h1, h2, h3, h4⟩ := ring_head hm hw
  refine ⟨hw, ?_⟩
  have hk : k ∈ ringL t n m := List.mem_of_head? h1
  have hmm : m ∈ ringL t n m := ring_mem.2 ⟨hm, hw, hw⟩
  rcases Nat.lt_trichotomy k m with hlt | rfl | hgt
  · exact (rings_apart hlt h (by rw [h4]; exact hmm) hmm).elim
  · exact h1
  · exact (rings_apart hgt h3 hmm (by rw [h4]; exact hmm)).elim
/-- Lists that are rings, in the order of their first blocks, with all first blocks. -/
theorem rings_told {k : Nat} {key : Nat → Int} {lst : Nat → List Int} (h : ∀ i, i < k → ∃ m : Nat, m < n ∧ headB t n m = true ∧ key i = m ∧ lst i = (ringL t n m).map fun (j : Nat) => (j : Int))
    (hr : ∀ i j, i < j → j < k → key i < key j) (ha : ∀ m, m < n → headB t n m = true → ∃ i, i < k ∧ key i = m) : (List.range k).map lst = (ringsTo t n n).map fun l => l.map fun (j : Nat) => (j : Int) := by
  have e : (List.range k).map key = ((List.range n).filter (headB t n)).map fun (m : Nat) => (m : Int) := by
    refine rise_same _ _ ?_ ?_ fun z => ?_
    · rw [List.pairwise_map]
      refine List.Pairwise.imp_of_mem (R := (· < ·)) (fun {a b} ha hb' hab => ?_) List.pairwise_lt_range
      exact hr a b hab (List.mem_range.1 hb')
    · rw [List.pairwise_map]
      refine ((List.pairwise_lt_range (n := n)).filter _).imp ?_
      intro a b h; omega
    · simp only [List.mem_map, List.mem_filter, List.mem_range]
      constructor
      · rintro ⟨i, hi, rfl⟩
        obtain ⟨m, h1, h2, h3, _⟩ := h i hi
        exact ⟨m, ⟨h1, h2⟩, h3.symm⟩
      · rintro ⟨m, ⟨h1, h2⟩, rfl⟩
        obtain ⟨i, hi, e⟩ := ha m h1 h2
        exact ⟨i, hi, e⟩
  unfold ringsTo
  rw [List.map_map]
  have e2 : (List.range k).map lst = ((List.range k).map key).map fun z => (ringL t n z.toNat).map fun (j : Nat) => (j : Int) := by
    rw [List.map_map]
    refine List.map_congr_left fun i hi => ?_
    obtain ⟨m, h1, h2, h3, h4⟩ := h i (List.mem_range.1 hi)
    simp only [Function.comp_apply]
    rw [h4, h3, Int.toNat_natCast]
  rw [e2, e, List.map_map]
  refine List.map_congr_left fun m _ => ?_
  simp
end
end Go.Proofs.YtfdmahilgemlaaaDoor.Fl
