/- Lists put into order in place, by swaps: what insertion, a rotation, a merge across the middle leave; what is left when of neighbours with one key one is kept. Plain mathematics. Conditions: none. -/
namespace Go.Proofs.YtddcndlogoajkaaGreatDoor.L8.Ss
variable {α : Type}
/-- Two places change their things. -/
def swp (f : Nat → α) (i j : Nat) : Nat → α := fun k => if k = i then f j else if k = j then f i else f k
/-- From a on, below b, the keys do not fall. -/
def Srt (key : α → Int) (f : Nat → α) (a b : Nat) : Prop := ∀ i j, a ≤ i → i < j → j < b → key (f i) ≤ key (f j)
/-- The things from a on, below b, are the same ones in another order; the others stand. -/
structure Pm (a b : Nat) (f g : Nat → α) : Prop where
  out : ∀ k, (k < a ∨ b ≤ k) → g k = f k
  fwd : ∀ k, a ≤ k → k < b → ∃ j, a ≤ j ∧ j < b ∧ g k = f j
  bwd : ∀ k, a ≤ k → k < b → ∃ j, a ≤ j ∧ j < b ∧ f k = g j
theorem Pm.refl (a b : Nat) (f : Nat → α) : Pm a b f f := ⟨fun _ _ => rfl, fun k h1 h2 => ⟨k, h1, h2, rfl⟩, fun k h1 h2 => ⟨k, h1, h2, rfl⟩⟩
theorem Pm.trans {a b : Nat} {f g h : Nat → α} (p : Pm a b f g) (q : Pm a b g h) : Pm a b f h := by
  refine ⟨fun k hk => (q.out k hk).trans (p.out k hk), fun k h1 h2 => ?_, fun k h1 h2 => ?_⟩
  · obtain ⟨j, j1, j2, e⟩ := q.fwd k h1 h2
    obtain ⟨l, l1, l2, e'⟩ := p.fwd j j1 j2
    exact ⟨l, l1, l2, e.trans e'⟩
  · obtain ⟨j, j1, j2, e⟩ := p.bwd k h1 h2
    obtain ⟨l, l1, l2, e'⟩ := q.bwd j j1 j2
    exact ⟨l, l1, l2, e.trans e'⟩
theorem Pm.mono {a b c d : Nat} {f g : Nat → α} (p : Pm a b f g) (h1 : c ≤ a) (h2 : b ≤ d) : Pm c d f g := by
  refine ⟨fun k hk => p.out k (by omega), fun k k1 k2 => ?_, fun k k1 k2 => ?_⟩
  · by_cases h : a ≤ k ∧ k < b
    · obtain ⟨j, j1, j2, e⟩ := p.fwd k h.1 h.2
      exact ⟨j, by omega, by omega, e⟩
    · exact ⟨k, k1, k2, p.out k (by omega)⟩
  · by_cases h : a ≤ k ∧ k < b
    · obtain ⟨j, j1, j2, e⟩ := p.bwd k h.1 h.2
      exact ⟨j, by omega, by omega, e⟩
    · exact ⟨k, k1, k2, (p.out k (by omega)).symm⟩
theorem Pm.swp {a b : Nat} (f : Nat → α) {i j : Nat} (h1 : a ≤ i) (h2 : i < b) (h3 : a ≤ j) (h4 : j < b) : Pm a b f (swp f i j) := by
  refine ⟨fun k hk => ?_, fun k k1 k2 => ?_, fun k k1 k2 => ?_⟩
  · unfold Ss.swp
    rw [if_neg (by omega), if_neg (by omega)]
  · unfold Ss.swp
    by_cases e : k = i
    · exact ⟨j, h3, h4, by simp [e]⟩
    · by_cases e' : k = j
      · exact ⟨i, h1, h2, by rw [if_neg e, if_pos e']⟩
      · exact ⟨k, k1, k2, by rw [if_neg e, if_neg e']⟩
  · unfold Ss.swp
    by_cases e : k = i
    · subst e
      by_cases e' : j = k
      · exact ⟨k, h1, h2, by simp [e']⟩
      · exact ⟨j, h3, h4, by rw [if_neg e', if_pos rfl]⟩
    · by_cases e' : k = j
      · subst e'
        exact ⟨i, h1, h2, by rw [if_pos rfl]⟩
      · exact ⟨k, k1, k2, by rw [if_neg e, if_neg e']⟩
theorem Srt.sub {key : α → Int} {f : Nat → α} {a b c d : Nat} (h : Srt key f a b) (h1 : a ≤ c) (h2 : d ≤ b) : Srt key f c d := fun i j i1 ij j1 => h i j (by omega) ij (by omega)
theorem Srt.same {key : α → Int} {f g : Nat → α} {a b : Nat} (h : Srt key f a b) (e : ∀ k, a ≤ k → k < b → g k = f k) : Srt key g a b := fun i j i1 ij j1 => by
  rw [e i i1 (by omega), e j (by omega) j1]; exact h i j i1 ij j1
theorem Srt.few (key : α → Int) (f : Nat → α) {a b : Nat} (h : b ≤ a + 1) : Srt key f a b := fun i j i1 ij j1 => by omega
theorem Srt.out {key : α → Int} {f g : Nat → α} {a b c d : Nat} (h : Srt key f a b) (p : Pm c d f g) (hd : b ≤ c ∨ d ≤ a) : Srt key g a b := h.same fun k k1 k2 => p.out k (by omega)
/-- A first half, none above the second's. -/
theorem Srt.join {key : α → Int} {f : Nat → α} {a m b : Nat} (h1 : Srt key f a m) (h2 : Srt key f m b) (h : ∀ i j, a ≤ i → i < m → m ≤ j → j < b → key (f i) ≤ key (f j)) : Srt key f a b := fun i j i1 ij j1 => by
  by_cases c : j < m
  · exact h1 i j i1 ij c
  · by_cases c' : i < m
    · exact h i j i1 c' (by omega) j1
    · exact h2 i j (by omega) ij j1

/-- One thing, at j, is under way down into what is in order below it. -/
def Ins (key : α → Int) (f : Nat → α) (a i j : Nat) : Prop := ∀ x y, a ≤ x → x < y → y ≤ i → y ≠ j → key (f x) ≤ key (f y)
theorem Ins.start {key : α → Int} {f : Nat → α} {a i : Nat} (h : Srt key f a i) : Ins key f a i i := fun x y x1 xy y1 ne => h x y x1 xy (by omega)
theorem Ins.step {key : α → Int} {f : Nat → α} {a i j : Nat} (h : Ins key f a i j) (ha : a < j) (hj : j ≤ i) (hl : key (f j) < key (f (j - 1))) : Ins key (swp f j (j - 1)) a i (j - 1) := by
  intro x y x1 xy y1 ne
  unfold swp
  by_cases c1 : y = j
  · subst c1
    rw [if_pos rfl]
    by_cases c2 : x = y - 1
    · rw [if_neg (by omega), if_pos c2]; omega
    · rw [if_neg (by omega), if_neg c2]
      exact h x (y - 1) x1 (by omega) (by omega) (by omega)
  · rw [if_neg c1, if_neg ne]
    by_cases c2 : x = j
    · rw [if_pos c2]
      exact h (j - 1) y (by omega) (by omega) y1 c1
    · rw [if_neg c2]
      by_cases c3 : x = j - 1
      · rw [if_pos c3]
        exact h j y (by omega) (by omega) y1 c1
      · rw [if_neg c3]
        exact h x y x1 xy y1 c1
theorem Ins.low {key : α → Int} {f : Nat → α} {a i j : Nat} (h : Ins key f a i j) (ha : j ≤ a) : Srt key f a (i + 1) := fun x y x1 xy y1 => h x y x1 xy (by omega) (by omega)
theorem Ins.stop {key : α → Int} {f : Nat → α} {a i j : Nat} (h : Ins key f a i j) (ha : a < j) (hj : j ≤ i) (hl : ¬ key (f j) < key (f (j - 1))) : Srt key f a (i + 1) := fun x y x1 xy y1 => by
  by_cases c : y = j
  · subst c
    by_cases c2 : x = y - 1
    · subst c2; omega
    · have := h x (y - 1) x1 (by omega) (by omega) (by omega)
      omega
  · exact h x y x1 xy (by omega) c

/-- Two ranges change their things. -/
def sr (f : Nat → α) (a b n : Nat) : Nat → α := fun k => if a ≤ k ∧ k < a + n then f (k - a + b) else if b ≤ k ∧ k < b + n then f (k - b + a) else f k
theorem sr_zero (f : Nat → α) (a b : Nat) : sr f a b 0 = f := funext fun k => by
  unfold sr; rw [if_neg (by omega), if_neg (by omega)]
theorem sr_step (f : Nat → α) {a b n i : Nat} (h : a + n ≤ b) (hi : i < n) : swp (sr f a b i) (a + i) (b + i) = sr f a b (i + 1) := funext fun k => by
  unfold swp sr
  by_cases c1 : k = a + i
  · subst c1
    rw [if_pos rfl, if_neg (by omega), if_neg (by omega), if_pos (by omega)]
    congr 1; omega
  · rw [if_neg c1]
    by_cases c2 : k = b + i
    · subst c2
      rw [if_pos rfl, if_neg (by omega), if_neg (by omega), if_neg (by omega), if_pos (by omega)]
      congr 1; omega
    · rw [if_neg c2]
      by_cases c3 : a ≤ k ∧ k < a + i
      · rw [if_pos c3, if_pos (by omega)]
      · rw [if_neg c3]
        by_cases c4 : b ≤ k ∧ k < b + i
        · rw [if_pos c4, if_neg (by omega), if_pos (by omega)]
        · rw [if_neg c4, if_neg (by omega), if_neg (by omega)]
theorem Pm.sr (f : Nat → α) {a b n lo hi : Nat} (h : a + n ≤ b) (h1 : lo ≤ a) (h2 : b + n ≤ hi) : ∀ i, i ≤ n → Pm lo hi f (sr f a b i)
  | 0, _ => by rw [sr_zero]; exact Pm.refl _ _ _
  | i + 1, hi' => by
    rw [← sr_step f h hi']
    exact (Pm.sr f h h1 h2 i (by omega)).trans (Pm.swp _ (by omega) (by omega) (by omega) (by omega))

/-- Two ranges beside one another change their places. -/
def rot (f : Nat → α) (a m b : Nat) : Nat → α := fun k => if a ≤ k ∧ k < a + (b - m) then f (k + (m - a)) else if a + (b - m) ≤ k ∧ k < b then f (k - (b - m)) else f k
theorem rot_gt (f : Nat → α) {m i j : Nat} (h : j < i) (hi : i ≤ m) : rot (sr f (m - i) m j) (m - (i - j)) m (m + j) = rot f (m - i) m (m + j) := funext fun k => by
  unfold rot sr
  by_cases c1 : m - i ≤ k ∧ k < m - i + (m + j - m)
  · rw [if_pos c1, if_neg (by omega), if_neg (by omega), if_pos (by omega)]
    congr 1; omega
  · rw [if_neg c1]
    by_cases c2 : m - i + (m + j - m) ≤ k ∧ k < m + j
    · rw [if_pos c2]
      by_cases c3 : m - (i - j) ≤ k ∧ k < m - (i - j) + (m + j - m)
      · rw [if_pos c3, if_neg (by omega), if_pos (by omega)]
        congr 1; omega
      · rw [if_neg c3, if_pos (by omega), if_neg (by omega), if_neg (by omega)]
    · rw [if_neg c2, if_neg (by omega), if_neg (by omega), if_neg (by omega), if_neg (by omega)]
theorem rot_lt (f : Nat → α) {m i j : Nat} (h : i < j) (hi : i ≤ m) : rot (sr f (m - i) (m + j - i) i) (m - i) m (m + (j - i)) = rot f (m - i) m (m + j) := funext fun k => by
  unfold rot sr
  by_cases c1 : m - i ≤ k ∧ k < m - i + (m + j - m)
  · rw [if_pos c1]
    by_cases c3 : m - i ≤ k ∧ k < m - i + (m + (j - i) - m)
    · rw [if_pos c3, if_neg (by omega), if_neg (by omega)]
    · rw [if_neg c3]
      by_cases c4 : k < m + (j - i)
      · rw [if_pos (by omega), if_pos (by omega)]
        congr 1; omega
      · omega
  · rw [if_neg c1]
    by_cases c2 : m - i + (m + j - m) ≤ k ∧ k < m + j
    · rw [if_pos c2, if_neg (by omega), if_neg (by omega), if_neg (by omega), if_pos (by omega)]
      congr 1; omega
    · rw [if_neg c2, if_neg (by omega), if_neg (by omega), if_neg (by omega), if_neg (by omega)]
theorem rot_eq (f : Nat → α) {m i : Nat} (hi : i ≤ m) : sr f (m - i) m i = rot f (m - i) m (m + i) := funext fun k => by
  unfold rot sr
  by_cases c1 : m - i ≤ k ∧ k < m - i + (m + i - m)
  · rw [if_pos c1, if_pos (by omega)]
    congr 1; omega
  · rw [if_neg c1, if_neg (by omega)]
    by_cases c2 : m - i + (m + i - m) ≤ k ∧ k < m + i
    · rw [if_pos c2, if_pos (by omega)]
      congr 1; omega
    · rw [if_neg c2, if_neg (by omega)]
theorem Pm.rot (f : Nat → α) {a m b : Nat} (h1 : a ≤ m) (h2 : m ≤ b) : Pm a b f (rot f a m b) := by
  refine ⟨fun k hk => ?_, fun k k1 k2 => ?_, fun k k1 k2 => ?_⟩
  · unfold Ss.rot; rw [if_neg (by omega), if_neg (by omega)]
  · unfold Ss.rot
    by_cases c : a ≤ k ∧ k < a + (b - m)
    · exact ⟨k + (m - a), by omega, by omega, by rw [if_pos c]⟩
    · exact ⟨k - (b - m), by omega, by omega, by rw [if_neg c, if_pos (by omega)]⟩
  · unfold Ss.rot
    by_cases c : k < m
    · exact ⟨k + (b - m), by omega, by omega, by rw [if_neg (by omega), if_pos (by omega)]; congr 1; omega⟩
    · exact ⟨k - (m - a), by omega, by omega, by rw [if_pos (by omega)]; congr 1; omega⟩

/-- The first thing, at a, has gone up to k. -/
def movR (f : Nat → α) (a k : Nat) : Nat → α := fun x => if a ≤ x ∧ x < k then f (x + 1) else if x = k then f a else f x
theorem movR_start (f : Nat → α) (a : Nat) : movR f a a = f := funext fun x => by
  unfold movR
  rw [if_neg (by omega)]
  by_cases c : x = a
  · rw [if_pos c, c]
  · rw [if_neg c]
theorem movR_step (f : Nat → α) {a k : Nat} (h : a ≤ k) : swp (movR f a k) k (k + 1) = movR f a (k + 1) := funext fun x => by
  unfold swp movR
  by_cases c1 : x = k
  · subst c1
    rw [if_pos rfl, if_neg (by omega), if_neg (by omega), if_pos (by omega)]
  · rw [if_neg c1]
    by_cases c2 : x = k + 1
    · subst c2
      rw [if_pos rfl, if_neg (by omega), if_pos rfl, if_neg (by omega), if_pos rfl]
    · rw [if_neg c2, if_neg c2]
      by_cases c3 : a ≤ x ∧ x < k
      · rw [if_pos c3, if_pos (by omega)]
      · rw [if_neg c3, if_neg c1, if_neg (by omega)]
theorem Pm.movR (f : Nat → α) {a b : Nat} : ∀ k, a ≤ k → k < b → Pm a b f (movR f a k) := by
  intro k h1 h2
  induction k with
  | zero => obtain rfl : a = 0 := by omega
            rw [movR_start]; exact Pm.refl _ _ _
  | succ k ih =>
    by_cases c : a = k + 1
    · subst c; rw [movR_start]; exact Pm.refl _ _ _
    · rw [← movR_step f (by omega)]
      exact (ih (by omega) (by omega)).trans (Pm.swp _ (by omega) (by omega) (by omega) (by omega))
theorem Srt.movR {key : α → Int} {f : Nat → α} {a b i : Nat} (h : Srt key f (a + 1) b) (i1 : a + 1 ≤ i) (i2 : i ≤ b) (hl : i = a + 1 ∨ key (f (i - 1)) < key (f a)) (hh : i = b ∨ key (f a) ≤ key (f i)) : Srt key (movR f a (i - 1)) a b := by
  intro x y x1 xy y1
  have low : ∀ z, a + 1 ≤ z → z < i → key (f z) ≤ key (f a) := fun z z1 z2 => by
    rcases hl with hl | hl
    · omega
    · by_cases c : z = i - 1
      · subst c; omega
      · have := h z (i - 1) z1 (by omega) (by omega); omega
  have high : ∀ z, i ≤ z → z < b → key (f a) ≤ key (f z) := fun z z1 z2 => by
    rcases hh with hh | hh
    · omega
    · by_cases c : z = i
      · subst c; exact hh
      · have := h i z i1 (by omega) z2; omega
  unfold Ss.movR
  by_cases c1 : x < i - 1
  · rw [if_pos (by omega)]
    by_cases c2 : y < i - 1
    · rw [if_pos (by omega)]; exact h (x + 1) (y + 1) (by omega) (by omega) (by omega)
    · rw [if_neg (by omega)]
      by_cases c3 : y = i - 1
      · rw [if_pos c3]; exact low (x + 1) (by omega) (by omega)
      · rw [if_neg c3]; exact h (x + 1) y (by omega) (by omega) y1
  · rw [if_neg (by omega)]
    by_cases c2 : x = i - 1
    · rw [if_pos c2, if_neg (by omega), if_neg (by omega)]; exact high y (by omega) y1
    · rw [if_neg c2, if_neg (by omega), if_neg (by omega)]; exact h x y (by omega) xy y1

/-- The last thing, at m, has gone down to k. -/
def movL (f : Nat → α) (m k : Nat) : Nat → α := fun x => if k < x ∧ x ≤ m then f (x - 1) else if x = k then f m else f x
theorem movL_start (f : Nat → α) (m : Nat) : movL f m m = f := funext fun x => by
  unfold movL
  rw [if_neg (by omega)]
  by_cases c : x = m
  · rw [if_pos c, c]
  · rw [if_neg c]
theorem movL_step (f : Nat → α) {m k : Nat} (h : k ≤ m) (h0 : 0 < k) : swp (movL f m k) k (k - 1) = movL f m (k - 1) := funext fun x => by
  unfold swp movL
  by_cases c1 : x = k
  · subst c1
    rw [if_pos rfl, if_neg (by omega), if_neg (by omega), if_pos (by omega)]
  · rw [if_neg c1]
    by_cases c2 : x = k - 1
    · rw [if_pos c2, if_neg (by omega), if_pos rfl, if_neg (by omega), if_pos c2]
    · rw [if_neg c2, if_neg c2]
      by_cases c3 : k < x ∧ x ≤ m
      · rw [if_pos c3, if_pos (by omega)]
      · rw [if_neg c3, if_neg c1, if_neg (by omega)]
theorem Pm.movL (f : Nat → α) {a m : Nat} : ∀ d, d ≤ m → a ≤ m - d → Pm a (m + 1) f (movL f m (m - d)) := by
  intro d h1 h2
  induction d with
  | zero => rw [Nat.sub_zero, movL_start]; exact Pm.refl _ _ _
  | succ d ih =>
    have e : m - (d + 1) = m - d - 1 := by omega
    rw [e, ← movL_step f (by omega) (by omega)]
    exact (ih (by omega) (by omega)).trans (Pm.swp _ (by omega) (by omega) (by omega) (by omega))
theorem Srt.movL {key : α → Int} {f : Nat → α} {a m i : Nat} (h : Srt key f a m) (i1 : a ≤ i) (i2 : i ≤ m) (hl : i = a ∨ key (f (i - 1)) ≤ key (f m)) (hh : i = m ∨ key (f m) < key (f i)) : Srt key (movL f m i) a (m + 1) := by
  intro x y x1 xy y1
  have low : ∀ z, a ≤ z → z < i → key (f z) ≤ key (f m) := fun z z1 z2 => by
    rcases hl with hl | hl
    · omega
    · by_cases c : z = i - 1
      · subst c; exact hl
      · have := h z (i - 1) z1 (by omega) (by omega); omega
  have high : ∀ z, i ≤ z → z < m → key (f m) ≤ key (f z) := fun z z1 z2 => by
    rcases hh with hh | hh
    · omega
    · by_cases c : z = i
      · subst c; omega
      · have := h i z i1 (by omega) z2; omega
  unfold Ss.movL
  by_cases c1 : y < i
  · rw [if_neg (by omega), if_neg (by omega), if_neg (by omega), if_neg (by omega)]
    exact h x y x1 xy (by omega)
  · by_cases c2 : y = i
    · rw [if_neg (by omega), if_neg (by omega), if_neg (by omega), if_pos c2]
      exact low x x1 (by omega)
    · rw [if_pos (show i < y ∧ y ≤ m by omega)]
      by_cases c3 : x < i
      · rw [if_neg (by omega), if_neg (by omega)]
        exact h x (y - 1) x1 (by omega) (by omega)
      · by_cases c4 : x = i
        · rw [if_neg (by omega), if_pos c4]; exact high (y - 1) (by omega) (by omega)
        · rw [if_pos (by omega)]; exact h (x - 1) (y - 1) (by omega) (by omega) (by omega)

/-- Two halves in order, cut across and turned: what is below mid is none above the rest; each half has two parts in order. -/
theorem cross {key : α → Int} {f : Nat → α} {a m b mid s e : Nat} (h1 : Srt key f a m) (h2 : Srt key f m b) (s1 : a ≤ s) (s2 : s ≤ m) (e1 : m ≤ e) (e2 : e ≤ b) (hm : mid + m = s + e)
    (hl : s = a ∨ e = b ∨ key (f (s - 1)) ≤ key (f e)) (hh : s = m ∨ e = m ∨ key (f (e - 1)) < key (f s)) :
    Srt key (rot f s m e) a s ∧ Srt key (rot f s m e) s mid ∧ Srt key (rot f s m e) mid e ∧ Srt key (rot f s m e) e b ∧ ∀ i j, a ≤ i → i < mid → mid ≤ j → j < b → key (rot f s m e i) ≤ key (rot f s m e j) := by
  have A : ∀ k, k < s → rot f s m e k = f k := fun k hk => by unfold rot; rw [if_neg (by omega), if_neg (by omega)]
  have B : ∀ k, s ≤ k → k < mid → rot f s m e k = f (k + (m - s)) := fun k k1 k2 => by unfold rot; rw [if_pos (by omega)]
  have C : ∀ k, mid ≤ k → k < e → rot f s m e k = f (k - (e - m)) := fun k k1 k2 => by unfold rot; rw [if_neg (by omega), if_pos (by omega)]
  have D : ∀ k, e ≤ k → rot f s m e k = f k := fun k hk => by unfold rot; rw [if_neg (by omega), if_neg (by omega)]
  have lo : ∀ x y, a ≤ x → x < s → e ≤ y → y < b → key (f x) ≤ key (f y) := fun x y x1 x2 y1 y2 => by
    rcases hl with hl | hl | hl
    · omega
    · omega
    · have p : key (f x) ≤ key (f (s - 1)) := by
        by_cases c : x = s - 1
        · subst c; exact Int.le_refl _
        · exact h1 x (s - 1) x1 (by omega) (by omega)
      have q : key (f e) ≤ key (f y) := by
        by_cases c : y = e
        · subst c; exact Int.le_refl _
        · exact h2 e y e1 (by omega) y2
      omega
  have hi : ∀ x y, m ≤ x → x < e → s ≤ y → y < m → key (f x) ≤ key (f y) := fun x y x1 x2 y1 y2 => by
    rcases hh with hh | hh | hh
    · omega
    · omega
    · have p : key (f x) ≤ key (f (e - 1)) := by
        by_cases c : x = e - 1
        · subst c; exact Int.le_refl _
        · exact h2 x (e - 1) x1 (by omega) (by omega)
      have q : key (f s) ≤ key (f y) := by
        by_cases c : y = s
        · subst c; exact Int.le_refl _
        · exact h1 s y s1 (by omega) y2
      omega
  refine ⟨fun i j i1 ij j1 => ?_, fun i j i1 ij j1 => ?_, fun i j i1 ij j1 => ?_, fun i j i1 ij j1 => ?_, fun i j i1 i2 j1 j2 => ?_⟩
  · rw [A i (by omega), A j j1]; exact h1 i j i1 ij (by omega)
  · rw [B i i1 (by omega), B j (by omega) j1]; exact h2 _ _ (by omega) (by omega) (by omega)
  · rw [C i i1 (by omega), C j (by omega) j1]; exact h1 _ _ (by omega) (by omega) (by omega)
  · rw [D i i1, D j (by omega)]; exact h2 i j (by omega) ij j1
  · by_cases c1 : i < s
    · rw [A i c1]
      by_cases c2 : j < e
      · rw [C j j1 c2]; exact h1 _ _ i1 (by omega) (by omega)
      · rw [D j (by omega)]; exact lo i j i1 c1 (by omega) j2
    · rw [B i (by omega) i2]
      by_cases c2 : j < e
      · rw [C j j1 c2]; exact hi _ _ (by omega) (by omega) (by omega) (by omega)
      · rw [D j (by omega)]; exact h2 _ _ (by omega) (by omega) j2
/-- What was none above the rest stays so, if each is put into another order by itself. -/
theorem apart {key : α → Int} {f g : Nat → α} {a m b : Nat} (p : Pm a m f g) (h : ∀ i j, a ≤ i → i < m → m ≤ j → j < b → key (f i) ≤ key (f j)) :
    ∀ i j, a ≤ i → i < m → m ≤ j → j < b → key (g i) ≤ key (g j) := fun i j i1 i2 j1 j2 => by
  obtain ⟨l, l1, l2, e⟩ := p.fwd i i1 i2
  rw [e, p.out j (by omega)]
  exact h l j l1 l2 j1 j2
theorem apart' {key : α → Int} {f g : Nat → α} {a m b : Nat} (p : Pm m b f g) (h : ∀ i j, a ≤ i → i < m → m ≤ j → j < b → key (f i) ≤ key (f j)) :
    ∀ i j, a ≤ i → i < m → m ≤ j → j < b → key (g i) ≤ key (g j) := fun i j i1 i2 j1 j2 => by
  obtain ⟨l, l1, l2, e⟩ := p.fwd j j1 j2
  rw [e, p.out i (by omega)]
  exact h i l i1 i2 l1 l2

/-- From lo on, below n, each stretch of s, as laid from 0, is in order. -/
def Blk (key : α → Int) (f : Nat → α) (s lo n : Nat) : Prop := ∀ c, s ∣ c → lo ≤ c → c < n → Srt key f c (min (c + s) n)
/-- Below hi, each stretch of s, as laid from 0, is in order. -/
def Done (key : α → Int) (f : Nat → α) (s hi : Nat) : Prop := ∀ c, s ∣ c → c < hi → Srt key f c (min (c + s) hi)
theorem le_of_dvd {s c a : Nat} (h1 : s ∣ c) (h2 : s ∣ a) (h : c < a + s) : c ≤ a := by
  obtain ⟨k, rfl⟩ := h1
  obtain ⟨l, rfl⟩ := h2
  have : s * k < s * (l + 1) := by rw [Nat.mul_add, Nat.mul_one]; exact h
  have := Nat.lt_of_mul_lt_mul_left this
  exact Nat.mul_le_mul_left s (by omega)
theorem Done.nil (key : α → Int) (f : Nat → α) (s : Nat) : Done key f s 0 := fun c _ h => by omega
theorem Done.step {key : α → Int} {f g : Nat → α} {s a b : Nat} (h : Done key f s a) (ha : s ∣ a) (p : Pm a b f g) (hb : a ≤ b) (hb' : b ≤ a + s) (ho : Srt key g a b) : Done key g s b := fun c hc hlt => by
  have hle : c ≤ a := le_of_dvd hc ha (by omega)
  by_cases e : c = a
  · subst e
    exact ho.sub (Nat.le_refl _) (by omega)
  · have h1 : c + s ≤ a := by
      have := le_of_dvd (Nat.dvd_add hc (Nat.dvd_refl s)) ha (by omega)
      exact this
    have h2 := h c hc (by omega)
    have e1 : min (c + s) b = c + s := by omega
    have e2 : min (c + s) a = c + s := by omega
    rw [e2] at h2
    rw [e1]
    exact h2.out p (Or.inl h1)
theorem Done.blk {key : α → Int} {f : Nat → α} {s n : Nat} (h : Done key f s n) : Blk key f s 0 n := fun c hc _ hlt => h c hc hlt
theorem Blk.after {key : α → Int} {f g : Nat → α} {s a b n : Nat} (h : Blk key f s a n) (p : Pm a b f g) (hb : a ≤ b) : Blk key g s b n := fun c hc hlo hlt => (h c hc (by omega) hlt).out p (Or.inr hlo)
theorem Done.all {key : α → Int} {f : Nat → α} {s n : Nat} (h : Done key f s n) (hs : n ≤ s) : Srt key f 0 n := by
  by_cases e : n = 0
  · exact Srt.few key f (by omega)
  · exact (h 0 (Nat.dvd_zero s) (by omega)).sub (Nat.le_refl _) (by omega)

/-- What is left when of neighbours with one key one is kept: k things. -/
structure Cd (key : α → Int) (f g : Nat → α) (n k : Nat) : Prop where
  le : k ≤ n
  rise : ∀ i j, i < j → j < k → key (g i) < key (g j)
  of : ∀ i, i < k → ∃ j, j < n ∧ g i = f j
  all : ∀ j, j < n → ∃ i, i < k ∧ key (g i) = key (f j)
theorem Cd.self {key : α → Int} {f : Nat → α} {n : Nat} (h : ∀ i j, i < j → j < n → key (f i) < key (f j)) : Cd key f f n n :=
  ⟨Nat.le_refl _, h, fun i hi => ⟨i, hi, rfl⟩, fun j hj => ⟨j, hj, rfl⟩⟩
/-- The same, under way: what is below x + 1 is looked at; the things from x on are as they were. -/
structure Cp (key : α → Int) (f g : Nat → α) (n x k : Nat) : Prop where
  pos : 0 < k
  le : k ≤ x
  lt : x < n
  cd : Cd key f g (x + 1) k
  last : key (g (k - 1)) = key (f x)
  rest : ∀ y, x ≤ y → y < n → g y = f y
/-- Up to k0 the keys rise. -/
theorem rise_more {key : α → Int} {f : Nat → α} {k n : Nat} (hs : Srt key f 0 n) (h : ∀ i j, i < j → j < k → key (f i) < key (f j)) (hk : k < n) (h0 : 0 < k) (hne : key (f k) ≠ key (f (k - 1))) : ∀ i j, i < j → j < k + 1 → key (f i) < key (f j) := fun i j ij j1 => by
  by_cases c : j < k
  · exact h i j ij c
  · obtain rfl : j = k := by omega
    have := hs (j - 1) j (by omega) (by omega) hk
    by_cases c' : i = j - 1
    · subst c'; omega
    · have := h i (j - 1) (by omega) (by omega)
      omega
theorem Cp.start {key : α → Int} {f : Nat → α} {k n : Nat} (h : ∀ i j, i < j → j < k → key (f i) < key (f j)) (hk : k < n) (h0 : 0 < k) (he : key (f k) = key (f (k - 1))) : Cp key f f n k k := by
  refine ⟨h0, Nat.le_refl _, hk, ⟨by omega, h, fun i hi => ⟨i, by omega, rfl⟩, fun j hj => ?_⟩, he.symm, fun y _ _ => rfl⟩
  by_cases c : j < k
  · exact ⟨j, c, rfl⟩
  · obtain rfl : j = k := by omega
    exact ⟨j - 1, by omega, he.symm⟩
theorem Cp.skip {key : α → Int} {f g : Nat → α} {n x k : Nat} (h : Cp key f g n x k) (hx : x + 1 < n) (he : key (f (x + 1)) = key (f x)) : Cp key f g n (x + 1) k := by
  have hle := h.le
  have hpos := h.pos
  refine ⟨hpos, by omega, hx, ⟨by omega, h.cd.rise, fun i hi => ?_, fun j hj => ?_⟩, h.last.trans he.symm, fun y y1 y2 => h.rest y (by omega) y2⟩
  · obtain ⟨j, j1, e⟩ := h.cd.of i hi
    exact ⟨j, by omega, e⟩
  · by_cases c : j < x + 1
    · exact h.cd.all j c
    · obtain rfl : j = x + 1 := by omega
      exact ⟨k - 1, by omega, h.last.trans he.symm⟩
/-- One place holds another thing. -/
def put (g : Nat → α) (k : Nat) (v : α) : Nat → α := fun x => if x = k then v else g x
theorem put_same (g : Nat → α) (k : Nat) (v : α) : put g k v k = v := if_pos rfl
theorem put_other (g : Nat → α) {k x : Nat} (v : α) (h : x ≠ k) : put g k v x = g x := if_neg h
theorem swp_put (f : Nat → α) {i j : Nat} : put (put f i (f j)) j (f i) = swp f i j := funext fun k => by
  unfold put swp
  by_cases c1 : k = j
  · by_cases c2 : k = i
    · rw [if_pos c1, if_pos c2]; rw [← c2, c1]
    · rw [if_pos c1, if_neg c2, if_pos c1]
  · rw [if_neg c1]
    by_cases c2 : k = i
    · rw [if_pos c2, if_pos c2]
    · rw [if_neg c2, if_neg c2, if_neg c1]
theorem Cp.keep {key : α → Int} {f g : Nat → α} {n x k : Nat} (hs : Srt key f 0 n) (h : Cp key f g n x k) (hx : x + 1 < n) (hne : key (f (x + 1)) ≠ key (f x)) : Cp key f (put g k (f (x + 1))) n (x + 1) (k + 1) := by
  have hle := h.le
  have hpos := h.pos
  have hlt : key (f x) < key (f (x + 1)) := by
    have := hs x (x + 1) (by omega) (by omega) hx
    omega
  refine ⟨by omega, by omega, hx, ⟨by omega, fun i j ij j1 => ?_, fun i hi => ?_, fun j hj => ?_⟩, ?_, fun y y1 y2 => ?_⟩
  · rw [put_other g _ (show i ≠ k by omega)]
    by_cases c : j < k
    · rw [put_other g _ (by omega)]; exact h.cd.rise i j ij c
    · obtain rfl : j = k := by omega
      rw [put_same]
      have hl := h.last
      by_cases c' : i = j - 1
      · subst c'; omega
      · have := h.cd.rise i (j - 1) (by omega) (by omega)
        omega
  · by_cases c : i < k
    · obtain ⟨j, j1, e⟩ := h.cd.of i c
      exact ⟨j, by omega, by rw [put_other g _ (by omega), e]⟩
    · obtain rfl : i = k := by omega
      exact ⟨x + 1, by omega, put_same g _ _⟩
  · by_cases c : j < x + 1
    · obtain ⟨i, i1, e⟩ := h.cd.all j c
      exact ⟨i, by omega, by rw [put_other g _ (by omega), e]⟩
    · obtain rfl : j = x + 1 := by omega
      exact ⟨k, by omega, by rw [put_same]⟩
  · rw [Nat.add_sub_cancel, put_same]
  · rw [put_other g _ (by omega)]; exact h.rest y (by omega) y2
theorem Cp.end {key : α → Int} {f g : Nat → α} {n x k : Nat} (h : Cp key f g n x k) (hx : x + 1 = n) : Cd key f g n k := hx ▸ h.cd
end Go.Proofs.YtddcndlogoajkaaGreatDoor.L8.Ss
