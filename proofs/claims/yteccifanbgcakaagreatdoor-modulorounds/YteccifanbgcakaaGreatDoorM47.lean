/- Rounds of a body written one behind the other into one list: each of its dependences is one of the body's, within a round or from round to round; so cycles that keep the body's keep the list's: plain mathematics. Conditions: none. Rounds written one behind the other, in memory; what a plan that is taken says of them. Conditions: said at each. -/
import Derived.Test.YteccifanbgcakaaGreatDoorM46
import Derived.Test.YteccifanbgcakaaGreatDoorM28
import Derived.Test.YteccifanbgcakaaGreatDoorM35
import Derived.Test.YteccifanbgcakaaGreatDoorM54
import Derived.Test.YteccifanbgcakaaGreatDoorM41
import Derived.Test.YteccifanbgcakaaGreatDoorM32
namespace Go.Proofs.YteccifanbgcakaaGreatDoor.Bn
open _root_.Go.Proofs.YteccifanbgcakaaGreatDoor.Op _root_.Go.Proofs.YteccifanbgcakaaGreatDoor.Al
open _root_.Go.Proofs.YteccifanbgcakaaGreatDoor.Dp
open _root_.Go.Proofs.YteccifanbgcakaaGreatDoor.Tb (Tab)
set_option maxRecDepth 20000

/-- k rounds of a body. -/
def rep (xs : List O) : Nat → List O
  | 0 => []
  | k + 1 => rep xs k ++ xs
theorem rep_len (xs : List O) : ∀ k, (rep xs k).length = k * xs.length
  | 0 => by simp [rep]
  | k + 1 => by unfold rep; rw [List.length_append, rep_len xs k, Nat.add_mul, Nat.one_mul]
theorem rep_mem {xs : List O} {o : O} : ∀ {k : Nat}, o ∈ rep xs k → o ∈ xs
  | 0, h => by cases h
  | k + 1, h => by
    rcases List.mem_append.1 h with h | h
    · exact rep_mem h
    · exact h
theorem mul_le_of {n r k : Nat} (h : r < k) : r * n + n ≤ k * n := by
  have := Nat.mul_le_mul_right n (show r + 1 ≤ k from h)
  rw [Nat.add_mul, Nat.one_mul] at this
  exact this
theorem rep_get {xs : List O} : ∀ {k r a : Nat}, r < k → a < xs.length → (rep xs k)[r * xs.length + a]? = xs[a]?
  | 0, _, _, h, _ => by omega
  | k + 1, r, a, h, ha => by
    unfold rep
    by_cases c : r < k
    · have := mul_le_of (n := xs.length) c
      rw [List.getElem?_append_left (by rw [rep_len]; omega)]
      exact rep_get c ha
    · obtain rfl : r = k := by omega
      rw [List.getElem?_append_right (by rw [rep_len]; omega), rep_len]
      congr 1
      omega
theorem parts {n k m : Nat} (h : m < k * n) : ∃ r a, r < k ∧ a < n ∧ m = r * n + a := by
  have hn : 0 < n := by
    rcases Nat.eq_zero_or_pos n with e | e
    · subst e; omega
    · exact e
  refine ⟨m / n, m % n, ?_, Nat.mod_lt _ hn, ?_⟩
  · exact (Nat.div_lt_iff_lt_mul hn).2 h
  · rw [Nat.mul_comm]; exact (Nat.div_add_mod m n).symm
theorem eq_parts {n r1 r2 a b : Nat} (ha : a < n) (hb : b < n) (h : r1 * n + a = r2 * n + b) : r1 = r2 ∧ a = b := by
  rcases Nat.lt_trichotomy r1 r2 with c | c | c
  · have := mul_le_of (n := n) c; omega
  · subst c; exact ⟨rfl, by omega⟩
  · have := mul_le_of (n := n) c; omega
theorem lt_parts {n r1 r2 a b : Nat} (hb : b < n) (h : r1 * n + a < r2 * n + b) : r1 ≤ r2 := by
  rcases Nat.lt_or_ge r2 r1 with c | c
  · have := mul_le_of (n := n) c; omega
  · exact c
theorem wqN_rep {xs : List O} {k r a : Nat} (reg : Int) (hr : r < k) (ha : a < xs.length) : wqN (rep xs k) reg (r * xs.length + a) = wqN xs reg a := by
  unfold wqN
  rw [rep_get hr ha]
theorem lastD_rep {xs : List O} {k r : Nat} (reg : Int) (hr : r < k) : ∀ b, b ≤ xs.length → lastD (rep xs k) reg (r * xs.length + b) = if 0 ≤ lastD xs reg b then (r * xs.length : Nat) + lastD xs reg b else lastD (rep xs k) reg (r * xs.length)
  | 0, _ => by
    show lastD (rep xs k) reg (r * xs.length) = if (0 : Int) ≤ -1 then _ else _
    rw [if_neg (by omega)]
  | b + 1, h => by
    have ih := lastD_rep (xs := xs) (k := k) (r := r) reg hr b (by omega)
    have e1 := lastD_next (rep xs k) reg (r * xs.length + b)
    have e2 := lastD_next xs reg b
    have hb : b < xs.length := by omega
    rw [wqN_rep reg hr hb] at e1
    show lastD (rep xs k) reg (r * xs.length + b + 1) = _
    rw [e1, e2]
    by_cases c : wqN xs reg b = true
    · rw [if_pos c, if_pos c, if_pos (by omega)]
      omega
    · rw [if_neg c, if_neg c]
      exact ih
theorem lastD_round {xs : List O} {k : Nat} (reg : Int) : ∀ r, r ≤ k → (lastD xs reg xs.length < 0 → lastD (rep xs k) reg (r * xs.length) = -1) ∧ (0 ≤ lastD xs reg xs.length → ∀ s, r = s + 1 → lastD (rep xs k) reg (r * xs.length) = (s * xs.length : Nat) + lastD xs reg xs.length)
  | 0, _ => ⟨fun _ => by rw [Nat.zero_mul]; rfl, fun _ s e => by omega⟩
  | r + 1, h => by
    have ih := lastD_round (xs := xs) (k := k) reg r (by omega)
    have h1 := lastD_rep (xs := xs) (k := k) (r := r) reg (by omega) xs.length (Nat.le_refl _)
    rw [Nat.add_mul, Nat.one_mul]
    refine ⟨fun c => ?_, fun c s e => ?_⟩
    · rw [h1, if_neg (by omega)]
      exact ih.1 c
    · obtain rfl : r = s := by omega
      rw [h1, if_pos c]
theorem flT_rep {xs : List O} {k r1 r2 a b : Nat} {reg : Int} (h2 : r2 < k) (ha : a < xs.length) (hb : b < xs.length) (h : flT (rep xs k) (r1 * xs.length + a) (r2 * xs.length + b) false reg = true) :
    (r1 = r2 ∧ flT xs a b false reg = true) ∨ (r2 = r1 + 1 ∧ flT xs a b true reg = true) := by
  have h3 : lastD (rep xs k) reg (r2 * xs.length + b) = ((r1 * xs.length + a : Nat) : Int) := by
    unfold flT at h
    simpa using h
  have g1 := lastD_in xs reg b
  rw [lastD_rep reg h2 b (by omega)] at h3
  by_cases c : 0 ≤ lastD xs reg b
  · rw [if_pos c] at h3
    obtain ⟨v, hv⟩ : ∃ v : Nat, lastD xs reg b = v := ⟨(lastD xs reg b).toNat, by omega⟩
    rw [hv] at h3 g1
    obtain ⟨e1, e2⟩ := eq_parts (n := xs.length) (r1 := r2) (r2 := r1) (a := v) (b := a) (by omega) ha (by omega)
    refine .inl ⟨e1.symm, ?_⟩
    unfold flT
    simp [hv, e2]
  · rw [if_neg c] at h3
    have g2 := lastD_in xs reg xs.length
    have hq := lastD_round (xs := xs) (k := k) reg r2 (by omega)
    by_cases c2 : 0 ≤ lastD xs reg xs.length
    · rcases r2 with _ | s
      · rw [Nat.zero_mul] at h3
        have h3 : (-1 : Int) = ((r1 * xs.length + a : Nat) : Int) := h3
        omega
      · rw [hq.2 c2 s rfl] at h3
        obtain ⟨v, hv⟩ : ∃ v : Nat, lastD xs reg xs.length = v := ⟨(lastD xs reg xs.length).toNat, by omega⟩
        rw [hv] at h3 g2
        obtain ⟨e1, e2⟩ := eq_parts (n := xs.length) (r1 := s) (r2 := r1) (a := v) (b := a) (by omega) ha (by omega)
        refine .inr ⟨by omega, ?_⟩
        unfold flT
        simp [hv, e2]
        omega
    · rw [hq.1 (by omega)] at h3
      omega
theorem flB_rep {xs : List O} {o : O} {k r1 r2 a b : Nat} (h2 : r2 < k) (ha : a < xs.length) (hb : b < xs.length) (h : flB (rep xs k) o (r1 * xs.length + a) (r2 * xs.length + b) false = true) :
    (r1 = r2 ∧ flB xs o a b false = true) ∨ (r2 = r1 + 1 ∧ flB xs o a b true = true) := by
  unfold flB at *
  obtain ⟨m, hm, hf⟩ := List.any_eq_true.1 h
  rcases flT_rep h2 ha hb hf with ⟨e, g⟩ | ⟨e, g⟩
  · exact .inl ⟨e, List.any_eq_true.2 ⟨m, hm, g⟩⟩
  · exact .inr ⟨e, List.any_eq_true.2 ⟨m, hm, g⟩⟩
theorem atL_rep {xs : List O} {k r a : Nat} (hr : r < k) (ha : a < xs.length) : atL (rep xs k) ((r * xs.length + a : Nat) : Int) = atL xs (a : Int) := by
  unfold atL
  rw [Int.toNat_natCast, Int.toNat_natCast, rep_get hr ha]
theorem inL_rep {xs : List O} {k r a : Nat} (hr : r < k) (ha : a < xs.length) : inL (rep xs k) ((r * xs.length + a : Nat) : Int) = true ∧ inL xs (a : Int) = true := by
  have := mul_le_of (n := xs.length) hr
  unfold inL
  rw [rep_len]
  simp only [Bool.and_eq_true, decide_eq_true_eq]
  omega
theorem pairB_rep {xs : List O} {k r1 r2 a b : Nat} (h1 : r1 < k) (h2 : r2 < k) (ha : a < xs.length) (hb : b < xs.length) : pairB (rep xs k) ((r1 * xs.length + a : Nat) : Int) ((r2 * xs.length + b : Nat) : Int) = pairB xs (a : Int) (b : Int) := by
  unfold pairB memB
  rw [atL_rep h1 ha, atL_rep h2 hb, (inL_rep h1 ha).1, (inL_rep h1 ha).2, (inL_rep h2 hb).1, (inL_rep h2 hb).2]
theorem wtL_cut (xs : List O) (i j : Nat) (reg : Int) : wtL (cut xs (i : Int) (j : Int)) reg = true ↔ ∃ m o, i ≤ m ∧ m < j ∧ xs[m]? = some o ∧ Al.wt reg o = true := by
  unfold wtL cut
  rw [Int.toNat_natCast, Int.toNat_natCast, List.any_eq_true]
  constructor
  · rintro ⟨o, ho, h⟩
    obtain ⟨p, hp⟩ := List.mem_iff_getElem?.1 ho
    rw [List.getElem?_take] at hp
    split at hp
    · rw [List.getElem?_drop] at hp
      exact ⟨i + p, o, by omega, by omega, hp, h⟩
    · cases hp
  · rintro ⟨m, o, h1, h2, h3, h4⟩
    refine ⟨o, List.mem_iff_getElem?.2 ⟨m - i, ?_⟩, h4⟩
    rw [List.getElem?_take, if_pos (by omega), List.getElem?_drop, show i + (m - i) = m by omega]
    exact h3
theorem may_mono {a b : O} {st su : List O} (h : wtL st a.a = true → wtL su a.a = true) (g : may a b st = true) : may a b su = true := by
  unfold may at *
  simp only [Bool.or_eq_true] at *
  rcases g with g | g
  · exact .inl g
  · exact .inr (h g)
theorem meet_rep {xs : List O} {k r1 r2 a b : Nat} (h1 : r1 < k) (h2 : r2 < k) (ha : a < xs.length) (hb : b < xs.length) (h : meetB (rep xs k) ((r1 * xs.length + a : Nat) : Int) ((r2 * xs.length + b : Nat) : Int) = true) :
    (r1 = r2 → meetB xs (a : Int) (b : Int) = true) ∧ roundB xs (a : Int) (b : Int) = true := by
  unfold meetB roundB at *
  rw [pairB_rep h1 h2 ha hb, atL_rep h1 ha, atL_rep h2 hb] at h
  simp only [Bool.and_eq_true, decide_eq_true_eq] at h ⊢
  obtain ⟨⟨g1, g2⟩, g3⟩ := h
  refine ⟨fun e => ?_, g2, may_mono (fun hw => ?_) g3⟩
  · subst e
    refine ⟨⟨by omega, g2⟩, may_mono (fun hw => ?_) g3⟩
    obtain ⟨m, o, m1, m2, m3, m4⟩ := (wtL_cut _ _ _ _).1 hw
    refine (wtL_cut _ _ _ _).2 ⟨m - r1 * xs.length, o, by omega, by omega, ?_, m4⟩
    rw [← m3, show m = r1 * xs.length + (m - r1 * xs.length) by omega, rep_get h1 (by omega)]
    congr 1
    omega
  · obtain ⟨m, o, m1, m2, m3, m4⟩ := (wtL_cut _ _ _ _).1 hw
    unfold wtL
    exact List.any_eq_true.2 ⟨o, rep_mem (List.mem_of_getElem? m3), m4⟩
theorem pairD_same {t : Tab} {a b : O} {i j i' j' : Nat} {d d' : Int} {m m' : Bool} (hm : m = true → m' = true) {x : Ed} (h : x ∈ pairD t a b i j d m) : x.f = (i : Int) ∧ x.t = (j : Int) ∧ ∃ y ∈ pairD t a b i' j' d' m', y.f = (i' : Int) ∧ y.t = (j' : Int) ∧ y.d = d' ∧ y.l = x.l := by
  have one : ∀ (c : Bool) (e : Ed), x ∈ (if c = true then [e] else []) → c = true ∧ x = e := fun c e h => by
    cases c
    · simp at h
    · simpa using h
  have mk : ∀ (c : Bool) (e : Ed), c = true → e ∈ (if c = true then [e] else []) := fun c e h => by rw [if_pos h]; exact List.mem_singleton.2 rfl
  unfold pairD at h ⊢
  rcases List.mem_append.1 h with h | h
  · obtain ⟨c, rfl⟩ := one _ _ h
    exact ⟨rfl, rfl, _, List.mem_append_left _ (mk _ ⟨i', j', 0, d', 1⟩ c), rfl, rfl, rfl, rfl⟩
  · rcases List.mem_append.1 h with h | h
    · obtain ⟨c, rfl⟩ := one _ _ h
      exact ⟨rfl, rfl, _, List.mem_append_right _ (List.mem_append_left _ (mk _ ⟨i', j', max 0 (latO t a - latO t b + 1), d', 2⟩ c)), rfl, rfl, rfl, rfl⟩
    · rcases List.mem_append.1 h with h | h
      · obtain ⟨c, rfl⟩ := one _ _ h
        have c' : (m' && (a.op == 16 || b.op == 16)) = true := by
          simp only [Bool.and_eq_true] at c ⊢
          exact ⟨hm c.1, c.2⟩
        exact ⟨rfl, rfl, _, List.mem_append_right _ (List.mem_append_right _ (List.mem_append_left _ (mk _ ⟨i', j', if a.op = 16 then (if b.op = 15 then t.l 2 else 1) else 0, d', 3⟩ c'))), rfl, rfl, rfl, rfl⟩
      · obtain ⟨c, rfl⟩ := one _ _ h
        exact ⟨rfl, rfl, _, List.mem_append_right _ (List.mem_append_right _ (List.mem_append_right _ (mk _ ⟨i', j', 1, d', 4⟩ c))), rfl, rfl, rfl, rfl⟩
/-- Each dependence of the rounds is one of the body. -/
theorem rep_edge {t : Tab} {xs : List O} {k : Nat} {x : Ed} (h : x ∈ ofD t (rep xs k) (rep xs k).length) :
    ∃ r1 r2 a b : Nat, r1 < k ∧ r2 < k ∧ a < xs.length ∧ b < xs.length ∧ r1 ≤ r2 ∧ x.f = ((r1 * xs.length + a : Nat) : Int) ∧ x.t = ((r2 * xs.length + b : Nat) : Int) ∧
      ((r1 = r2 ∧ ∃ y ∈ ofD t xs xs.length, y.f = (a : Int) ∧ y.t = (b : Int) ∧ y.d = 0 ∧ y.l = x.l) ∨ (r1 < r2 ∧ ∃ y ∈ roundD t xs xs.length, y.f = (a : Int) ∧ y.t = (b : Int) ∧ y.d = 1 ∧ y.l = x.l)) := by
  obtain ⟨j, hj, hx⟩ := cat_mem.1 h
  obtain ⟨i, hi, hx⟩ := cat_mem.1 hx
  rw [rep_len] at hj
  obtain ⟨r2, b, h2, hb, rfl⟩ := parts hj
  obtain ⟨r1, a, h1, ha, rfl⟩ := parts (Nat.lt_trans hi hj)
  have hr := lt_parts hb hi
  rw [atL_rep h1 ha, atL_rep h2 hb] at hx
  have inW : r1 = r2 → ∀ y, y ∈ oneD t xs (atL xs (a : Int)) (atL xs (b : Int)) a b 0 false (meetB xs a b) → y ∈ ofD t xs xs.length := fun e y hy => cat_mem.2 ⟨b, hb, cat_mem.2 ⟨a, by subst e; omega, hy⟩⟩
  have inA : ∀ y, y ∈ oneD t xs (atL xs (a : Int)) (atL xs (b : Int)) a b 1 true (roundB xs a b) → y ∈ roundD t xs xs.length := fun y hy => cat_mem.2 ⟨b, hb, cat_mem.2 ⟨a, ha, hy⟩⟩
  unfold oneD at hx inW inA
  rcases List.mem_append.1 hx with hx | hx
  · by_cases c : flB (rep xs k) (atL xs (b : Int)) (r1 * xs.length + a) (r2 * xs.length + b) false = true
    · rw [if_pos c] at hx
      have hx := List.mem_singleton.1 hx
      subst hx
      refine ⟨r1, r2, a, b, h1, h2, ha, hb, hr, rfl, rfl, ?_⟩
      rcases flB_rep h2 ha hb c with ⟨e, g⟩ | ⟨e, g⟩
      · exact .inl ⟨e, _, inW e ⟨a, b, latO t (atL xs (a : Int)), 0, 0⟩ (List.mem_append_left _ (by rw [if_pos g]; exact List.mem_singleton.2 rfl)), rfl, rfl, rfl, rfl⟩
      · exact .inr ⟨by omega, _, inA ⟨a, b, latO t (atL xs (a : Int)), 1, 0⟩ (List.mem_append_left _ (by rw [if_pos g]; exact List.mem_singleton.2 rfl)), rfl, rfl, rfl, rfl⟩
    · rw [if_neg c] at hx; cases hx
  · by_cases e : r1 = r2
    · obtain ⟨e1, e2, y, hy, f1, f2, f3, f4⟩ := pairD_same (i' := a) (j' := b) (d' := 0) (fun hm => (meet_rep h1 h2 ha hb hm).1 e) hx
      exact ⟨r1, r2, a, b, h1, h2, ha, hb, hr, e1, e2, .inl ⟨e, y, inW e y (List.mem_append_right _ hy), f1, f2, f3, f4⟩⟩
    · obtain ⟨e1, e2, y, hy, f1, f2, f3, f4⟩ := pairD_same (i' := a) (j' := b) (d' := 1) (fun hm => (meet_rep h1 h2 ha hb hm).2) hx
      exact ⟨r1, r2, a, b, h1, h2, ha, hb, hr, e1, e2, .inr ⟨by omega, y, inA y (List.mem_append_right _ hy), f1, f2, f3, f4⟩⟩
/-- Cycles that keep the body's dependences keep the rounds'. -/
theorem rep_kept {t : Tab} {xs : List O} (hA : Lall xs) {k : Nat} {E : Int} {C : Nat → Int} (hE : 0 ≤ E) (hk : ∀ e ∈ loopE t xs, C e.f.toNat + e.l ≤ C e.t.toNat + e.d * E) {c : Nat → Int} (hc : ∀ r a, r < k → a < xs.length → c (r * xs.length + a) = r * E + C a) :
    ∀ x ∈ ofE t (rep xs k), c x.f.toNat + x.l ≤ c x.t.toNat := fun x hx => by
  have hB : Lall (rep xs k) := fun o ho => hA o (rep_mem ho)
  rw [ofD_eq t hB] at hx
  have hl : ∀ y, (y ∈ ofD t xs xs.length ∨ y ∈ roundD t xs xs.length) → C y.f.toNat + y.l ≤ C y.t.toNat + y.d * E := fun y hy => hk y (by
    show y ∈ ofE t xs ++ acrossE xs (ptsL t xs) xs.length
    rw [ofD_eq t hA, roundD_eq t hA]
    exact List.mem_append.2 hy)
  obtain ⟨r1, r2, a, b, h1, h2, ha, hb, hr, e1, e2, h⟩ := rep_edge hx
  rw [e1, e2, Int.toNat_natCast, Int.toNat_natCast, hc r1 a h1 ha, hc r2 b h2 hb]
  rcases h with ⟨e, y, hy, f1, f2, f3, f4⟩ | ⟨e, y, hy, f1, f2, f3, f4⟩
  · have := hl y (.inl hy)
    rw [f1, f2, f3, f4, Int.toNat_natCast, Int.toNat_natCast] at this
    subst e
    omega
  · have := hl y (.inr hy)
    rw [f1, f2, f3, f4, Int.toNat_natCast, Int.toNat_natCast] at this
    obtain ⟨s, rfl⟩ : ∃ s : Nat, r2 = r1 + 1 + s := ⟨r2 - r1 - 1, by omega⟩
    have h5 : 0 ≤ (s : Int) * E := Int.mul_nonneg (by omega) hE
    have h6 : ((r1 + 1 + s : Nat) : Int) * E = (r1 : Int) * E + E + (s : Int) * E := by
      rw [show ((r1 + 1 + s : Nat) : Int) = (r1 : Int) + 1 + s by omega, Int.add_mul, Int.add_mul, Int.one_mul]
    rw [h6]
    omega
end Go.Proofs.YteccifanbgcakaaGreatDoor.Bn

namespace Go.Proofs.YteccifanbgcakaaGreatDoor.Mo
open Go.ChangeShapes Go.WideShapes Go.ChangeAt Go.RowKit
open _root_.Go.Proofs.YteccifanbgcakaaGreatDoor.Op _root_.Go.Proofs.YteccifanbgcakaaGreatDoor.So _root_.Go.Proofs.YteccifanbgcakaaGreatDoor.Dp _root_.Go.Proofs.YteccifanbgcakaaGreatDoor.Bn
open _root_.Go.Proofs.YteccifanbgcakaaGreatDoor.Ls (clN clN_at clN_lt Nl arC arC_all arC_yes arC_no areCycles_any)
open _root_.Go.Proofs.YteccifanbgcakaaGreatDoor.Rv (RAt Few frB tkF tk_few take_any evOk NwOut ring_ok tn addK)
open _root_.Go.Proofs.YteccifanbgcakaaGreatDoor.Tb (Tab TabAt Bnds)
set_option maxRecDepth 20000

open _root_.Go.Proofs.YteccifanbgcakaaGreatDoor.Ls (clV_D)
/-- In which cycle the m-th operation of the rounds is issued. -/
def crF (n : Nat) (E : Int) (g : Nat → Int) : Nat → Int := fun m => ((m / n : Nat) : Int) * E + g (m % n)
theorem crF_at {n : Nat} {E : Int} {g : Nat → Int} {r a : Nat} (ha : a < n) : crF n E g (r * n + a) = r * E + g a := by
  have h0 : 0 < n := by omega
  unfold crF
  rw [Nat.mul_comm r n, Nat.mul_add_div h0, Nat.div_eq_of_lt ha, Nat.add_zero, Nat.mul_add_mod, Nat.mod_eq_of_lt ha]
theorem rep_put (xs : List O) (k : Nat) {i : Nat} (h : i < xs.length) : rep xs k ++ xs.take (i + 1) = (rep xs k ++ xs.take i) ++ [xs[i]] := by
  rw [List.take_succ_eq_append_getElem h, List.append_assoc]
theorem rep_full (xs : List O) (k : Nat) : rep xs k ++ xs.take xs.length = rep xs (k + 1) := by rw [List.take_length]; rfl
theorem rep_part_len (xs : List O) (k : Nat) {i : Nat} (h : i ≤ xs.length) : (rep xs k ++ xs.take i).length = k * xs.length + i := by
  rw [List.length_append, rep_len, List.length_take, Nat.min_eq_left h]
theorem lis_rep {t : Tab} {xs : List O} {k : Nat} (h : lisE t xs = 0) (hk : k ≤ 5) (hn : xs.length ≤ 12) : lisE t (rep xs k) = 0 := by
  obtain ⟨h1, h2, h3⟩ := lis_all h
  have hl : k * xs.length ≤ 5 * 12 := Nat.mul_le_mul hk hn
  unfold lisE
  rw [if_neg (by rw [h1]; decide), if_neg (by rw [rep_len]; omega), if_pos (List.all_eq_true.2 fun o ho => h3 o (rep_mem ho))]
theorem clN_rep {xs : List O} {k r a : Nat} (hr : r < k) (ha : a < xs.length) : clN (rep xs k) (r * xs.length + a) = clN xs a := by
  unfold Ls.clN
  rw [rep_get hr ha]
/-- Never are more units busy than there are. -/
theorem rounds_cnt {t : Tab} {xs : List O} {g : Nat → Int} {E S : Int} {k : Nat} (h : mcB t xs xs.length g E S = true) {c : Nat} (hc : c < 4) (y : Int) : cnt (fun j => decide (clN (rep xs k) j = c) && decide (crF xs.length E g j ≤ y ∧ y < crF xs.length E g j + (t.b c).toNat)) (k * xs.length) ≤ (t.u c).toNat := by
  obtain ⟨h1, h2, h3, -, -, -, -, -, h9⟩ := mc_parts h
  obtain ⟨ht, -, -, -⟩ := rg_ok h1
  have hd := (tab_in ht).1
  exact rounds_units (n := xs.length) (k := k) (B := (t.b c).toNat) (U := (t.u c).toNat) (E := E) (by omega) (C := g) (cl := fun a => decide (clN xs a = c)) (fun z hz0 hz1 => by
    have := (ku_su ht (by omega) h3 h9 c hc z).1
    simpa using this) (c := crF xs.length E g) (cl' := fun j => decide (clN (rep xs k) j = c)) (fun r a hr ha => ⟨crF_at ha, by rw [clN_rep hr ha]⟩) y
/-- Every dependence of the rounds is kept. -/
theorem rounds_kept {w : World} {ao : Option Addr} {t : Tab} {xs : List O} {g : Nat → Int} {E S : Int} {k : Nat} (hO : OpsAt w ao xs) (h : mcB t xs xs.length g E S = true) : ∀ x ∈ ofE t (rep xs k), crF xs.length E g x.f.toNat + x.l ≤ crF xs.length E g x.t.toNat := by
  obtain ⟨h1, h2, h3, -, -, -, -, h8, -⟩ := mc_parts h
  obtain ⟨ht, -, hl, -⟩ := rg_ok h1
  have hd := (tab_in ht).1
  exact rep_kept (fun o ho => ⟨hO.ok o ho, (lis_all hl).2.2 o ho⟩) (by omega) (kpB_iff.1 h8) fun r a hr ha => crF_at ha
theorem ncells_put (m : Nat) (cf : Nat → Int) : ncells (m + 1) cf = ncells m cf ++ [.int .i64 (cf m)] := by
  unfold ncells
  rw [List.range_succ, List.map_append]
  rfl
theorem ocells_put (ys : List O) (o : O) : ocells (ys ++ [o]) = ocells ys ++ [.int .i8 o.op, .int .u8 o.d, .int .u8 o.a, .int .u8 o.b, .int .i64 o.im] := by
  unfold ocells
  rw [List.flatMap_append]
  simp
/-- The rounds so far, and their cycles, each in a row of its own. -/
structure Rs (w W : World) (t : Tab) (E : Int) (a : Option Addr) (n ccap : Nat) (S : Int) (va vc : Value) (ys : List O) (m : Nat) (cf : Nat → Int) : Prop where
  x : Cx w W t E a n ccap S
  o : W.ownsRow (w.heap.size + 2) 46 5 va ys.length (ocells ys)
  c : W.ownsRow (w.heap.size + 2) 3 1 vc m (ncells m cf)
  ne : ∀ b, va.ownBlock = some b → ¬ vc.ownBlock = some b
theorem Rs.next {w W W' : World} {t : Tab} {E : Int} {a : Option Addr} {n ccap : Nat} {S : Int} {va vc : Value} {ys : List O} {m : Nat} {cf : Nat → Int} (h : Rs w W t E a n ccap S va vc ys m cf) (g : Below W.heap.size W W') : Rs w W' t E a n ccap S va vc ys m cf := ⟨h.x.next g, row_up h.o g, row_up h.c g, h.ne⟩
theorem Rs.addO {w W X w3 : World} {t : Tab} {E : Int} {a : Option Addr} {n ccap : Nat} {S : Int} {va vc : Value} {ys : List O} {m : Nat} {cf : Nat → Int} {o : O} {g cp : Nat} (h : Rs w W t E a n ccap S va vc ys m cf) (g0 : Below W.heap.size W X) (hgrow : X.grownBy w3 va.ownBlock) (hown : w3.ownsRow (w.heap.size + 2) 46 5 (.slice (some ⟨g, 0, none⟩) (ys.length + 1) cp) (ys.length + 1) (ocells ys ++ [.int .i8 o.op, .int .u8 o.d, .int .u8 o.a, .int .u8 o.b, .int .i64 o.im])) (hat : va.ownBlock = some g ∨ g = X.heap.size) : Rs w w3 t E a n ccap S (.slice (some ⟨g, 0, none⟩) (ys ++ [o]).length cp) vc (ys ++ [o]) m cf := by
  have s2 := h.next g0
  have hl := s2.x.p.lt
  have B : Below (w.heap.size + 2) X w3 := (grown_fr hgrow).below (by omega) fun k hk e => by
    have := (s2.o.lt k e).1
    omega
  refine ⟨⟨s2.x.t.below B (by omega), s2.x.p.below B (by omega), s2.x.up.trans (B.mono (by omega))⟩, ?_, row_fr s2.c (grown_fr hgrow) fun k hk e => s2.ne k e hk, fun b hb hvc => ?_⟩
  · rw [ocells_put, List.length_append]
    exact hown
  · have hb : some g = some b := hb
    injection hb with hb
    subst hb
    rcases hat with hat | hat
    · exact h.ne _ hat hvc
    · have := (s2.c.lt _ hvc).2
      omega
theorem Rs.addC {w W X w3 : World} {t : Tab} {E : Int} {a : Option Addr} {n ccap : Nat} {S : Int} {va vc : Value} {ys : List O} {m : Nat} {cf : Nat → Int} {g cp : Nat} (h : Rs w W t E a n ccap S va vc ys m cf) (g0 : Below W.heap.size W X) (hgrow : X.grownBy w3 vc.ownBlock) (hown : w3.ownsRow (w.heap.size + 2) 3 1 (.slice (some ⟨g, 0, none⟩) (m + 1) cp) (m + 1) (ncells m cf ++ [.int .i64 (cf m)])) (hat : vc.ownBlock = some g ∨ g = X.heap.size) : Rs w w3 t E a n ccap S va (.slice (some ⟨g, 0, none⟩) (m + 1) cp) ys (m + 1) cf := by
  have s2 := h.next g0
  have hl := s2.x.p.lt
  have B : Below (w.heap.size + 2) X w3 := (grown_fr hgrow).below (by omega) fun k hk e => by
    have := (s2.c.lt k e).1
    omega
  refine ⟨⟨s2.x.t.below B (by omega), s2.x.p.below B (by omega), s2.x.up.trans (B.mono (by omega))⟩, row_fr s2.o (grown_fr hgrow) fun k hk e => s2.ne k hk e, ?_, fun b hb hvc => ?_⟩
  · rw [ncells_put]
    exact hown
  · have hvc : some g = some b := hvc
    injection hvc with hvc
    subst hvc
    rcases hat with hat | hat
    · exact h.ne _ hb hat
    · have := (s2.o.lt _ hb).2
      omega
theorem rs_start {w W : World} {t : Tab} {E : Int} {a : Option Addr} {n ccap : Nat} {S : Int} {cf : Nat → Int} (h : Cx w W t E a n ccap S) : Rs w W t E a n ccap S (.slice none 0 0) (.slice none 0 0) [] 0 cf := ⟨h, ⟨rfl, .inl ⟨rfl, rfl⟩⟩, ⟨rfl, .inl ⟨rfl, rfl⟩⟩, fun b hb => by cases hb⟩
/-- A row of numbers is a list in memory. -/
theorem nl_row {W : World} {B m c : Nat} {a : Option Addr} {cf : Nat → Int} (h : W.ownsRow B 3 1 (.slice a m c) m (ncells m cf)) : ∀ j, j < m → ∃ b, a = some ⟨b, 0, none⟩ ∧ b < W.heap.size ∧ W.cell? ⟨b, j, none⟩ = some (.int .i64 (cf j)) := fun j hj => by
  rcases h.2 with ⟨-, h1⟩ | ⟨g, cap, cur, h1, h2, h3, h4⟩
  · omega
  · injection h1 with e1 e2 e3
    subst e1
    refine ⟨g, rfl, (h.lt g rfl).2, ?_⟩
    have := h.cells (g := g) rfl j (.int .i64 (cf j)) (by
      unfold ncells
      rw [List.getElem?_map, List.getElem?_range hj]
      rfl)
    rw [add_at, Nat.zero_add] at this
    exact this
theorem row_cap {W : World} {B e s m : Nat} {v : Value} {l : List Value} (h : W.ownsRow B e s v m l) : ∃ a c, v = .slice a m c ∧ m ≤ c := by
  rcases h.2 with ⟨h0, h1⟩ | ⟨g, cap, cur, h1, h2, h3, h4, h5⟩
  · subst h1; exact ⟨none, 0, h0, Nat.le_refl _⟩
  · exact ⟨_, _, h1, h4⟩
end Go.Proofs.YteccifanbgcakaaGreatDoor.Mo
