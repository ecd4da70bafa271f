/- Ways through a program's blocks: who is come to from whom, found block by block; what is reached; rings. Plain mathematics. Conditions: none. -/
namespace Go.Proofs.YtlinekpaffgcjaaDoor.Fw

/-- One step or more from x to y, by steps of t that stay below n. -/
inductive Way (t : Nat → Nat → Bool) (n : Nat) : Nat → Nat → Prop
  | one {x y : Nat} : y < n → t x y = true → Way t n x y
  | more {x y z : Nat} : Way t n x y → z < n → t y z = true → Way t n x z
theorem Way.lt {t : Nat → Nat → Bool} {n x y : Nat} (h : Way t n x y) : y < n := by cases h <;> assumption
theorem Way.trans {t : Nat → Nat → Bool} {n x y z : Nat} (h : Way t n x y) (g : Way t n y z) : Way t n x z := by
  induction g with
  | one hy ht => exact .more h hy ht
  | more _ hz ht ih => exact .more ih hz ht

/-- A search under way from b: the blocks r that are met behind b in the order in which they were met; the i-th of them is looked at, up to y. -/
structure Fi (t : Nat → Nat → Bool) (n b : Nat) (met : List Bool) (r : List Nat) (i y : Nat) : Prop where
  len : met.length = n
  iff : ∀ z, z < n → (met[z]? = some true ↔ z ∈ r)
  lt : ∀ z ∈ r, z < n
  way : ∀ z ∈ r, Way t n b z
  cnt : r.length + met.count false = n
  cl : ∀ k, k < i → ∀ x, (b :: r)[k]? = some x → ∀ z, z < n → t x z = true → z ∈ r
  cur : ∀ x, (b :: r)[i]? = some x → ∀ z, z < y → z < n → t x z = true → z ∈ r
section
variable {t : Nat → Nat → Bool} {n b : Nat} {met : List Bool} {r : List Nat} {i y x : Nat}
theorem Fi.init (t : Nat → Nat → Bool) (n b : Nat) : Fi t n b (List.replicate n false) [] 0 0 where
  len := by simp
  iff := fun z hz => by simp [hz]
  lt := fun z hz => by simp at hz
  way := fun z hz => by simp at hz
  cnt := by simp
  cl := fun k hk => by omega
  cur := fun x _ z hz => by omega
theorem Fi.small (h : Fi t n b met r i y) : r.length ≤ n := by have := h.cnt; omega
theorem Fi.at (_h : Fi t n b met r i y) {k : Nat} (hk : (b :: r)[k]? = some x) : x = b ∨ x ∈ r := by
  have := List.mem_of_getElem? hk
  simpa using this
theorem old {k y : Nat} (h : k < (b :: r).length) : (b :: (r ++ [y]))[k]? = (b :: r)[k]? := by
  rw [← List.cons_append, List.getElem?_append_left h]
theorem Fi.yes (h : Fi t n b met r i y) (hy : y < n) (hx : (b :: r)[i]? = some x) (ht : t x y = true) (hm : met[y]? = some false) : Fi t n b (met.set y true) (r ++ [y]) i (y + 1) := by
  have hi : i < (b :: r).length := by
    rcases Nat.lt_or_ge i (b :: r).length with h | h
    · exact h
    · rw [List.getElem?_eq_none h] at hx; cases hx
  have hyl : y < met.length := by rw [h.len]; exact hy
  have hg : met[y] = false := by rw [List.getElem?_eq_getElem hyl] at hm; exact Option.some.inj hm
  have hw : Way t n b y := by
    rcases h.at hx with e | e
    · rw [← e]; exact .one hy ht
    · exact .more (h.way x e) hy ht
  refine ⟨by simp [h.len], fun z hz => ?_, fun z hz => ?_, fun z hz => ?_, ?_, fun k hk x' hx' z hz hz' => ?_, fun x' hx' z hz hz' ht' => ?_⟩
  · by_cases e : y = z
    · subst e; simp [hyl]
    · rw [List.getElem?_set_ne e, h.iff z hz]
      simp only [List.mem_append, List.mem_singleton]
      exact ⟨Or.inl, fun g => g.resolve_right fun g => e g.symm⟩
  · rcases List.mem_append.1 hz with g | g
    · exact h.lt z g
    · rw [List.mem_singleton.1 g]; exact hy
  · rcases List.mem_append.1 hz with g | g
    · exact h.way z g
    · rw [List.mem_singleton.1 g]; exact hw
  · have hc := h.cnt
    have hp : 0 < met.count false := List.count_pos_iff.2 (by rw [← hg]; exact List.getElem_mem hyl)
    rw [List.count_set hyl, hg]
    simp
    omega
  · rw [old (by omega)] at hx'
    exact List.mem_append_left _ (h.cl k hk x' hx' z hz hz')
  · rw [old hi] at hx'
    obtain rfl : x = x' := Option.some.inj (hx.symm.trans hx')
    by_cases e : z = y
    · subst e; simp
    · exact List.mem_append_left _ (h.cur x hx z (by omega) hz' ht')
theorem Fi.no (h : Fi t n b met r i y) (hx : (b :: r)[i]? = some x) (hn : t x y = false ∨ met[y]? = some true) : Fi t n b met r i (y + 1) := by
  refine ⟨h.len, h.iff, h.lt, h.way, h.cnt, h.cl, fun x' hx' z hz hz' ht' => ?_⟩
  obtain rfl : x = x' := Option.some.inj (hx.symm.trans hx')
  by_cases e : z = y
  · subst e
    rcases hn with g | g
    · rw [g] at ht'; cases ht'
    · exact (h.iff z hz').1 g
  · exact h.cur x hx z (by omega) hz' ht'
theorem Fi.turn (h : Fi t n b met r i y) (hy : n ≤ y) : Fi t n b met r (i + 1) 0 := by
  refine ⟨h.len, h.iff, h.lt, h.way, h.cnt, fun k hk x hx z hz ht => ?_, fun x _ z hz => by omega⟩
  by_cases e : k = i
  · subst e; exact h.cur x hx z (by omega) hz ht
  · exact h.cl k (by omega) x hx z hz ht
theorem Fi.closed (h : Fi t n b met r i y) (hi : r.length + 1 ≤ i) {z : Nat} (hw : Way t n b z) : z ∈ r := by
  induction hw with
  | one hz ht => exact h.cl 0 (by omega) _ rfl _ hz ht
  | more _ hz ht ih =>
    obtain ⟨k, hk, e⟩ := List.getElem_of_mem ih
    exact h.cl (k + 1) (by omega) _ (by rw [List.getElem?_cons_succ, List.getElem?_eq_getElem hk, e]) _ hz ht
theorem Fi.done (h : Fi t n b met r i y) (hi : r.length + 1 ≤ i) {z : Nat} (hz : z < n) : met[z]? = some true ↔ Way t n b z :=
  ⟨fun g => h.way z ((h.iff z hz).1 g), fun g => (h.iff z hz).2 (h.closed hi g)⟩
end

open Classical in
/-- Can y be come to from x? -/
noncomputable def wB (t : Nat → Nat → Bool) (n x y : Nat) : Bool := decide (Way t n x y)
section
variable {t : Nat → Nat → Bool} {n : Nat}
theorem wB_iff {x y : Nat} : wB t n x y = true ↔ Way t n x y := by simp [wB]
theorem wB_trans {x y z : Nat} (h : wB t n x y = true) (g : wB t n y z = true) : wB t n x z = true := wB_iff.2 ((wB_iff.1 h).trans (wB_iff.1 g))
/-- What a search has met, when it is done. -/
theorem Fi.met {b : Nat} {met : List Bool} {r : List Nat} {i y : Nat} (h : Fi t n b met r i y) (hi : r.length + 1 ≤ i) : met = (List.range n).map (wB t n b) := by
  apply List.ext_getElem (by simp [h.len])
  intro z h1 h2
  have hz : z < n := by rw [← h.len]; exact h1
  have hd := h.done hi hz
  rw [List.getElem?_eq_getElem h1] at hd
  simp only [List.getElem_map, List.getElem_range]
  cases e : met[z] with
  | true =>
    rw [e] at hd
    exact (wB_iff.2 (hd.1 rfl)).symm
  | false =>
    rw [e] at hd
    cases g : wB t n b z with
    | true => exact absurd (hd.2 (wB_iff.1 g)) (by simp)
    | false => rfl
end
/-- What is reached. -/
noncomputable def reachL (t : Nat → Nat → Bool) (n : Nat) : List Nat := (List.range n).filter fun i => wB t n 0 i || i == 0
/-- The ring of i. -/
noncomputable def ringL (t : Nat → Nat → Bool) (n i : Nat) : List Nat := (List.range n).filter fun j => wB t n i j && wB t n j i
/-- Was j told, in a ring of one below i? -/
noncomputable def told (t : Nat → Nat → Bool) (n i j : Nat) : Bool := (List.range i).any fun k => wB t n k j && wB t n j k
/-- Is i the first of a ring? -/
noncomputable def headB (t : Nat → Nat → Bool) (n i : Nat) : Bool := wB t n i i && !told t n i i
noncomputable def ringsTo (t : Nat → Nat → Bool) (n i : Nat) : List (List Nat) := ((List.range i).filter (headB t n)).map (ringL t n)
section
variable {t : Nat → Nat → Bool} {n : Nat}
theorem told_iff {i j : Nat} : told t n i j = true ↔ ∃ k, k < i ∧ wB t n k j = true ∧ wB t n j k = true := by
  simp [told]
theorem told_zero (j : Nat) : told t n 0 j = false := by simp [told]
theorem told_succ (i j : Nat) : told t n (i + 1) j = (told t n i j || (wB t n i j && wB t n j i)) := by
  simp [told, List.range_succ]
theorem told_skip {i : Nat} (h : headB t n i = false) (j : Nat) : told t n (i + 1) j = told t n i j := by
  rw [told_succ]
  cases hw : wB t n i j && wB t n j i with
  | false => simp
  | true =>
    simp only [Bool.and_eq_true] at hw
    have hii := wB_trans hw.1 hw.2
    have ht : told t n i i = true := by
      cases e : told t n i i with
      | true => rfl
      | false => simp [headB, hii, e] at h
    obtain ⟨k, hk, h1, h2⟩ := told_iff.1 ht
    have : told t n i j = true := told_iff.2 ⟨k, hk, wB_trans h1 hw.1, wB_trans hw.2 h2⟩
    simp [this]
theorem rings_zero : ringsTo t n 0 = [] := by simp [ringsTo]
theorem rings_skip {i : Nat} (h : headB t n i = false) : ringsTo t n (i + 1) = ringsTo t n i := by
  simp [ringsTo, List.range_succ, h]
theorem rings_ring {i : Nat} (h : headB t n i = true) : ringsTo t n (i + 1) = ringsTo t n i ++ [ringL t n i] := by
  simp [ringsTo, List.range_succ, h]
/-- Two rings have no block in common. -/
theorem rings_apart {i k j : Nat} (hik : i < k) (hk : headB t n k = true) (h1 : j ∈ ringL t n i) (h2 : j ∈ ringL t n k) : False := by
  simp only [ringL, List.mem_filter, Bool.and_eq_true] at h1 h2
  have : told t n k k = true := told_iff.2 ⟨i, hik, wB_trans h1.2.1 h2.2.2, wB_trans h2.2.1 h1.2.2⟩
  simp [headB, this] at hk
theorem ring_nodup (i : Nat) : (ringL t n i).Nodup := List.Pairwise.filter _ List.nodup_range
/-- How often a block stands in the rings so far. -/
theorem ring_count (i j : Nat) : (ringL t n i).count j ≤ 1 := List.nodup_iff_count.1 (ring_nodup i) j
/-- A block that stands in a ring of one that is first was not told. -/
theorem fresh {i j : Nat} (h : headB t n i = true) (hj : j ∈ ringL t n i) : told t n i j = false := by
  cases e : told t n i j with
  | false => rfl
  | true =>
    obtain ⟨k, hk, h1, h2⟩ := told_iff.1 e
    simp only [ringL, List.mem_filter, Bool.and_eq_true] at hj
    have : told t n i i = true := told_iff.2 ⟨k, hk, wB_trans h1 hj.2.2, wB_trans hj.2.1 h2⟩
    simp [headB, this] at h
/-- What is reached is closed. -/
theorem reach_closed {x y : Nat} (hx : x ∈ reachL t n) (hy : y < n) (ht : t x y = true) : y ∈ reachL t n := by
  simp only [reachL, List.mem_filter, List.mem_range, Bool.or_eq_true, beq_iff_eq] at hx ⊢
  refine ⟨hy, Or.inl ?_⟩
  rcases hx.2 with h | h
  · exact wB_iff.2 (.more (wB_iff.1 h) hy ht)
  · subst h; exact wB_iff.2 (.one hy ht)
theorem reach_first (h : 0 < n) : (reachL t n)[0]? = some 0 := by
  obtain ⟨m, rfl⟩ : ∃ m, n = m + 1 := ⟨n - 1, by omega⟩
  unfold reachL
  rw [List.range_succ_eq_map, List.filter_cons_of_pos (by simp)]
  rfl
end

/-- A search that goes down first, at x: M was met when it came to x, M' now; the steps d of x are looked at. -/
structure Ds (t : Nat → Nat → Bool) (n x : Nat) (M M' d : Nat → Prop) : Prop where
  sub : ∀ z, M z → M' z
  way : ∀ z, M' z → ¬ M z → Way t n x z
  cl : ∀ z, M' z → ¬ M z → ∀ u, u < n → t z u = true → M' u
  own : ∀ u, d u → M' u
section
variable {t : Nat → Nat → Bool} {n x y : Nat} {M M' M2 d : Nat → Prop}
theorem Ds.init (t : Nat → Nat → Bool) (n x : Nat) (M : Nat → Prop) : Ds t n x M M fun _ => False :=
  ⟨fun _ h => h, fun _ h g => absurd h g, fun _ h g => absurd h g, fun _ h => h.elim⟩
theorem Ds.skip (h : Ds t n x M M' d) (hy : M' y) : Ds t n x M M' fun u => d u ∨ u = y :=
  ⟨h.sub, h.way, h.cl, fun u hu => hu.elim (h.own u) fun e => by rw [e]; exact hy⟩
/-- A step to one that was not met: it is met, and searched. -/
theorem Ds.call (h : Ds t n x M M' d) (hy : y < n) (ht : t x y = true) (g : Ds t n y (fun z => M' z ∨ z = y) M2 fun u => u < n ∧ t y u = true) : Ds t n x M M2 fun u => d u ∨ u = y := by
  have hyy : M2 y := g.sub y (Or.inr rfl)
  refine ⟨fun z hz => g.sub z (Or.inl (h.sub z hz)), fun z hz hm => ?_, fun z hz hm u hu hzu => ?_, fun u hu => ?_⟩
  · by_cases h1 : M' z
    · exact h.way z h1 hm
    · by_cases h2 : z = y
      · rw [h2]; exact .one hy ht
      · exact (Way.one hy ht).trans (g.way z hz fun e => e.elim h1 h2)
  · by_cases h1 : M' z
    · exact g.sub u (Or.inl (h.cl z h1 hm u hu hzu))
    · by_cases h2 : z = y
      · subst h2; exact g.own u ⟨hu, hzu⟩
      · exact g.cl z hz (fun e => e.elim h1 h2) u hu hzu
  · rcases hu with hu | rfl
    · exact g.sub u (Or.inl (h.own u hu))
    · exact hyy
/-- Begun with nothing met: what is met is what can be come to. -/
theorem Ds.done (h : Ds t n x (fun _ => False) M' fun u => u < n ∧ t x u = true) (z : Nat) : M' z ↔ Way t n x z := by
  refine ⟨fun hz => h.way z hz id, fun hw => ?_⟩
  induction hw with
  | one hy ht => exact h.own _ ⟨hy, ht⟩
  | more _ hz ht ih => exact h.cl _ ih id _ hz ht
/-- Begun with itself met. -/
theorem Ds.done_self (h : Ds t n x (fun z => z = x) M' fun u => u < n ∧ t x u = true) (z : Nat) : M' z ↔ z = x ∨ Way t n x z := by
  refine ⟨fun hz => ?_, fun hw => ?_⟩
  · by_cases e : z = x
    · exact Or.inl e
    · exact Or.inr (h.way z hz e)
  · rcases hw with rfl | hw
    · exact h.sub _ rfl
    · induction hw with
      | one hy ht => exact h.own _ ⟨hy, ht⟩
      | @more y z _ hz ht ih =>
        by_cases e : y = x
        · subst e; exact h.own _ ⟨hz, ht⟩
        · exact h.cl _ ih e _ hz ht
end
end Go.Proofs.YtlinekpaffgcjaaDoor.Fw
