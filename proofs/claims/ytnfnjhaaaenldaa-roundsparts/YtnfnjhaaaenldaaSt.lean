/- Lists put into order in place: things of one key stand as they stood. Plain mathematics. Conditions: none. -/
import Derived.Test.YtnfnjhaaaenldaaSs
namespace Go.Proofs.Ytnfnjhaaaenldaa.Ss
variable {α : Type}
/-- As before, and things of one key stand as they stood. -/
structure Ps (key : α → Int) (a b : Nat) (f g : Nat → α) : Prop where
  pm : Pm a b f g
  st : ∃ s : Nat → Nat, (∀ i, a ≤ i → i < b → a ≤ s i ∧ s i < b) ∧ (∀ i, i < a ∨ b ≤ i → s i = i) ∧ (∀ i, g i = f (s i)) ∧ ∀ i j, i < j → key (g i) = key (g j) → s i < s j
theorem Ps.refl (key : α → Int) (a b : Nat) (f : Nat → α) : Ps key a b f f := ⟨Pm.refl a b f, id, fun _ h1 h2 => ⟨h1, h2⟩, fun _ _ => rfl, fun _ => rfl, fun _ _ h _ => h⟩
theorem Ps.trans {key : α → Int} {a b : Nat} {f g h : Nat → α} (p : Ps key a b f g) (q : Ps key a b g h) : Ps key a b f h := by
  obtain ⟨s, s1, s2, s3, s4⟩ := p.st
  obtain ⟨t, t1, t2, t3, t4⟩ := q.st
  refine ⟨p.pm.trans q.pm, fun i => s (t i), fun i h1 h2 => ?_, fun i hi => ?_, fun i => ?_, fun i j hij e => ?_⟩
  · obtain ⟨x, y⟩ := t1 i h1 h2
    exact s1 _ x y
  · show s (t i) = i
    rw [t2 i hi, s2 i hi]
  · rw [t3, s3]
  · refine s4 _ _ (t4 i j hij e) ?_
    rw [← t3, ← t3]; exact e
theorem Ps.mono {key : α → Int} {a b c d : Nat} {f g : Nat → α} (p : Ps key a b f g) (h1 : c ≤ a) (h2 : b ≤ d) : Ps key c d f g := by
  obtain ⟨s, s1, s2, s3, s4⟩ := p.st
  refine ⟨p.pm.mono h1 h2, s, fun i i1 i2 => ?_, fun i hi => s2 i (by omega), s3, s4⟩
  by_cases h : a ≤ i ∧ i < b
  · obtain ⟨x, y⟩ := s1 i h.1 h.2
    exact ⟨by omega, by omega⟩
  · rw [s2 i (by omega)]; exact ⟨i1, i2⟩
theorem Ps.swp {key : α → Int} {a b : Nat} (f : Nat → α) {p j : Nat} (hp : p = j + 1) (h1 : a ≤ j) (h2 : p < b) (hk : key (f p) < key (f j)) : Ps key a b f (swp f p j) := by
  refine ⟨Pm.swp f (by omega) h2 h1 (by omega), fun k => if k = p then j else if k = j then p else k, fun i i1 i2 => ?_, fun i hi => ?_, fun i => ?_, fun x y hxy e => ?_⟩
  · dsimp only; split
    · omega
    · split <;> omega
  · dsimp only; rw [if_neg (by omega), if_neg (by omega)]
  · unfold Ss.swp
    dsimp only
    split
    · rfl
    · split <;> rfl
  · dsimp only
    by_cases c : x = j ∧ y = p
    · exfalso
      obtain ⟨rfl, rfl⟩ := c
      unfold Ss.swp at e
      rw [if_neg (by omega), if_pos rfl, if_pos rfl] at e
      omega
    · split
      · split
        · omega
        · split <;> omega
      · split
        · split
          · omega
          · split <;> omega
        · split
          · omega
          · split <;> omega
theorem Ps.rot {key : α → Int} (f : Nat → α) {a m b : Nat} (h1 : a ≤ m) (h2 : m ≤ b) (hk : ∀ i j, a ≤ i → i < m → m ≤ j → j < b → key (f j) < key (f i)) : Ps key a b f (rot f a m b) := by
  refine ⟨Pm.rot f h1 h2, fun k => if a ≤ k ∧ k < a + (b - m) then k + (m - a) else if a + (b - m) ≤ k ∧ k < b then k - (b - m) else k, fun i i1 i2 => ?_, fun i hi => ?_, fun i => ?_, fun x y hxy e => ?_⟩
  · dsimp only; split
    · omega
    · split <;> omega
  · dsimp only; rw [if_neg (by omega), if_neg (by omega)]
  · unfold Ss.rot
    dsimp only
    split
    · rfl
    · split <;> rfl
  · dsimp only
    by_cases c : (a ≤ x ∧ x < a + (b - m)) ∧ (a + (b - m) ≤ y ∧ y < b)
    · exfalso
      unfold Ss.rot at e
      rw [if_pos c.1, if_neg (by omega), if_pos c.2] at e
      have := hk (y - (b - m)) (x + (m - a)) (by omega) (by omega) (by omega) (by omega)
      omega
    · split
      · split
        · omega
        · split <;> omega
      · split
        · split
          · omega
          · split <;> omega
        · split
          · omega
          · split <;> omega
theorem Ps.movR {key : α → Int} (f : Nat → α) {a b : Nat} (k : Nat) (h1 : a ≤ k) (h2 : k < b) (hk : ∀ x, a < x → x ≤ k → key (f x) < key (f a)) : Ps key a b f (movR f a k) := by
  refine ⟨Pm.movR f k h1 h2, fun x => if a ≤ x ∧ x < k then x + 1 else if x = k then a else x, fun i i1 i2 => ?_, fun i hi => ?_, fun i => ?_, fun x y hxy e => ?_⟩
  · dsimp only; split
    · omega
    · split <;> omega
  · dsimp only; rw [if_neg (by omega), if_neg (by omega)]
  · unfold Ss.movR
    dsimp only
    split
    · rfl
    · split <;> rfl
  · dsimp only
    by_cases c : (a ≤ x ∧ x < k) ∧ y = k
    · exfalso
      obtain ⟨c1, rfl⟩ := c
      unfold Ss.movR at e
      rw [if_pos c1, if_neg (by omega), if_pos rfl] at e
      have := hk (x + 1) (by omega) (by omega)
      omega
    · split
      · split
        · omega
        · split <;> omega
      · split
        · split
          · omega
          · split <;> omega
        · split
          · omega
          · split <;> omega
theorem Ps.movL {key : α → Int} (f : Nat → α) {a m : Nat} (k : Nat) (h1 : a ≤ k) (h2 : k ≤ m) (hk : ∀ x, k ≤ x → x < m → key (f m) < key (f x)) : Ps key a (m + 1) f (movL f m k) := by
  have hp := Pm.movL f (a := a) (m := m) (m - k) (by omega) (by omega)
  rw [show m - (m - k) = k by omega] at hp
  refine ⟨hp, fun x => if k < x ∧ x ≤ m then x - 1 else if x = k then m else x, fun i i1 i2 => ?_, fun i hi => ?_, fun i => ?_, fun x y hxy e => ?_⟩
  · dsimp only; split
    · omega
    · split <;> omega
  · dsimp only; rw [if_neg (by omega), if_neg (by omega)]
  · unfold Ss.movL
    dsimp only
    split
    · rfl
    · split <;> rfl
  · dsimp only
    by_cases c : x = k ∧ (k < y ∧ y ≤ m)
    · exfalso
      obtain ⟨rfl, c1⟩ := c
      unfold Ss.movL at e
      rw [if_neg (by omega), if_pos rfl, if_pos c1] at e
      have := hk (y - 1) (by omega) (by omega)
      omega
    · split
      · split
        · omega
        · split <;> omega
      · split
        · split
          · omega
          · split <;> omega
        · split
          · omega
          · split <;> omega
/-- What goes from the first place up, and stops behind all that are less. -/
theorem less_R {key : α → Int} {f : Nat → α} {a b i : Nat} (h : Srt key f (a + 1) b) (i2 : i ≤ b) (hl : i = a + 1 ∨ key (f (i - 1)) < key (f a)) : ∀ x, a < x → x ≤ i - 1 → key (f x) < key (f a) := fun x x1 x2 => by
  rcases hl with hl | hl
  · omega
  · by_cases c : x = i - 1
    · subst c; exact hl
    · have := h x (i - 1) (by omega) (by omega) (by omega); omega
theorem less_L {key : α → Int} {f : Nat → α} {a m i : Nat} (h : Srt key f a m) (i1 : a ≤ i) (hh : i = m ∨ key (f m) < key (f i)) : ∀ x, i ≤ x → x < m → key (f m) < key (f x) := fun x x1 x2 => by
  rcases hh with hh | hh
  · omega
  · by_cases c : x = i
    · subst c; exact hh
    · have := h i x i1 (by omega) x2; omega
theorem less_X {key : α → Int} {f : Nat → α} {a m b s e : Nat} (h1 : Srt key f a m) (h2 : Srt key f m b) (s1 : a ≤ s) (e2 : e ≤ b) (hh : s = m ∨ e = m ∨ key (f (e - 1)) < key (f s)) : ∀ i j, s ≤ i → i < m → m ≤ j → j < e → key (f j) < key (f i) := fun y x y1 y2 x1 x2 => by
  rcases hh with hh | hh | hh
  · omega
  · omega
  · have p : key (f x) ≤ key (f (e - 1)) := by
      by_cases c : x = e - 1
      · subst c; exact Int.le_refl _
      · exact h2 x (e - 1) x1 (by omega) (by omega)
    have q : key (f s) ≤ key (f y) := by
      by_cases c : y = s
      · subst c; exact Int.le_refl _
      · exact h1 s y s1 (by omega) y2
    omega
end Go.Proofs.Ytnfnjhaaaenldaa.Ss
