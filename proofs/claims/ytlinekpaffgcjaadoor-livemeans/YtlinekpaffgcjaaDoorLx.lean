/- Sets of registers into blocks, as a list of numbers: what an end has, what is into a block; lists that grow, round by round or out of a list of work, until nothing is left to grow: the least. Plain mathematics. Conditions: none. -/
import Derived.Test.YtlinekpaffgcjaaDoorLw
namespace Go.Proofs.YtlinekpaffgcjaaDoor.Lv

/-- The set into a block, none beyond the list. -/
def inN (xs : List Nat) (t : Nat) : Nat := xs.getD t 0
def bitN (xs : List Nat) (t r : Nat) : Bool := (inN xs t).testBit r
theorem inN_eq {xs : List Nat} {t : Nat} (h : t < xs.length) : inN xs t = xs[t] := by simp [inN, h]
theorem inN_set {xs : List Nat} {i y : Nat} (hi : i < xs.length) (t : Nat) : inN (xs.set i y) t = if i = t then y else inN xs t := by
  unfold inN
  by_cases e : i = t
  · subst e; simp [hi]
  · simp [e, List.getElem?_set_ne e]
def E.reg : E → Option Nat
  | .jump _ => none
  | .branch a _ _ => some a
  | .halt a => some a
  | .loop a _ => some a
structure SmallB (k : B) : Prop where
  ops : ∀ o ∈ k.ops, Small o
  body : ∀ o ∈ k.body, Small o
  a : ∀ a, k.e.reg = some a → a < 32
def endN (k : B) (xs : List Nat) : Nat :=
  match k.e with
  | .jump t => inN xs t
  | .branch a t e => 2 ^ a ||| inN xs t ||| inN xs e
  | .halt a => 2 ^ a
  | .loop a t => 2 ^ a ||| loopN k.body (inN xs t)
def intoN (k : B) (xs : List Nat) : Nat := aheadNL k.ops (endN k xs)
def Fit (xs : List Nat) : Prop := ∀ t, inN xs t < 4294967296
theorem Fit.set {xs : List Nat} (h : Fit xs) {i y : Nat} (hy : y < 4294967296) : Fit (xs.set i y) := fun t => by
  rcases Nat.lt_or_ge i xs.length with g | g
  · rw [inN_set g]; split
    · exact hy
    · exact h t
  · rw [List.set_eq_of_length_le g]; exact h t
theorem Fit.zero (n : Nat) : Fit (List.replicate n 0) := fun t => by
  unfold inN; rw [List.getD_eq_getElem?_getD, List.getElem?_replicate]; split <;> simp
theorem endN_lt {k : B} {xs : List Nat} (hk : SmallB k) (hx : Fit xs) : endN k xs < 4294967296 := by
  have ha := hk.a
  unfold endN
  cases h : k.e with
  | jump t => exact hx t
  | branch a t e =>
    rw [h] at ha
    exact Nat.or_lt_two_pow (n := 32) (Nat.or_lt_two_pow (n := 32) (pow32 (ha a rfl)) (hx t)) (hx e)
  | halt a => rw [h] at ha; exact pow32 (ha a rfl)
  | loop a t =>
    rw [h] at ha
    exact Nat.or_lt_two_pow (n := 32) (pow32 (ha a rfl)) (loopN_lt (hx t) hk.body)
theorem endN_bit {k : B} {xs : List Nat} (hk : SmallB k) (hx : Fit xs) (r : Nat) : (endN k xs).testBit r = aheadE k (bitN xs) r := by
  have e : ∀ a : Nat, decide (a = r) = (r == a) := fun a => by rw [Bool.eq_iff_iff, decide_eq_true_iff, beq_iff_eq]; exact eq_comm
  unfold endN aheadE
  cases h : k.e with
  | jump t => rfl
  | branch a t e' => simp only [Nat.testBit_or, Nat.testBit_two_pow, bitN, e]
  | halt a => simp only [Nat.testBit_two_pow, e]
  | loop a t =>
    simp only [Nat.testBit_or, Nat.testBit_two_pow, e, loopN_bit (hx t) hk.body]
    rfl
theorem intoN_lt {k : B} {xs : List Nat} (hk : SmallB k) (hx : Fit xs) : intoN k xs < 4294967296 := aheadNL_lt (endN_lt hk hx) hk.ops
theorem intoN_bit {k : B} {xs : List Nat} (hk : SmallB k) (hx : Fit xs) (r : Nat) : (intoN k xs).testBit r = into k (bitN xs) r := by
  rw [intoN, aheadNL_bit (endN_lt hk hx) hk.ops, into, aheadL_eq, aheadL_eq, endN_bit hk hx]
/-- What is into a block hangs on those alone that it turns to. -/
theorem endN_other {k : B} {xs : List Nat} {t y : Nat} (ht : t ∉ k.e.succ) : endN k (xs.set t y) = endN k xs := by
  have key : ∀ u, t ≠ u → inN (xs.set t y) u = inN xs u := fun u hu => by unfold inN; rw [List.getD_eq_getElem?_getD, List.getElem?_set_ne hu]; rfl
  unfold endN
  cases h : k.e with
  | jump u => rw [h] at ht; dsimp only; rw [key u (by simpa [E.succ] using ht)]
  | branch a u v =>
    rw [h] at ht; simp only [E.succ, List.mem_cons, List.not_mem_nil, or_false, not_or] at ht
    dsimp only; rw [key u ht.1, key v ht.2]
  | halt a => rfl
  | loop a u => rw [h] at ht; dsimp only; rw [key u (by simpa [E.succ] using ht)]
theorem intoN_other {k : B} {xs : List Nat} {t y : Nat} (ht : t ∉ k.e.succ) : intoN k (xs.set t y) = intoN k xs := by rw [intoN, intoN, endN_other ht]

/-- No more than the least. -/
structure So (P : List B) (xs : List Nat) : Prop where
  len : xs.length = P.length
  fit : Fit xs
  live : ∀ t r, bitN xs t r = true → Live P r t
theorem So.init (P : List B) : So P (List.replicate P.length 0) :=
  ⟨by simp, Fit.zero _, fun t r h => by
    rw [bitN, inN, List.getD_eq_getElem?_getD, List.getElem?_replicate] at h
    split at h <;> simp at h⟩
theorem So.set {P : List B} {xs : List Nat} (h : So P xs) {i y : Nat} (hi : i < xs.length) (hy : y < 4294967296) (hl : ∀ r, y.testBit r = true → Live P r i) : So P (xs.set i y) :=
  ⟨by simp [h.len], h.fit.set hy, fun t r g => by
    rw [bitN, inN_set hi] at g
    split at g
    · subst_vars; exact hl r g
    · exact h.live t r g⟩
theorem So.into {P : List B} {xs : List Nat} (h : So P xs) {i r : Nat} {k : B} (hk : P[i]? = some k) (hs : SmallB k) (g : (intoN k xs).testBit r = true) : Live P r i := by
  rw [intoN_bit hs h.fit] at g
  exact Live.sound (fun t => h.live t r) hk g
/-- One block anew, with what it had; without it. -/
theorem So.put {P : List B} {xs : List Nat} (h : So P xs) {i : Nat} {k : B} (hk : P[i]? = some k) (hs : SmallB k) : So P (xs.set i (inN xs i ||| intoN k xs)) := by
  have hi : i < xs.length := by rw [h.len]; exact (List.getElem?_eq_some_iff.1 hk).1
  refine h.set hi (Nat.or_lt_two_pow (n := 32) (h.fit i) (intoN_lt hs h.fit)) fun r g => ?_
  rw [Nat.testBit_or, Bool.or_eq_true] at g
  rcases g with g | g
  · exact h.live i r g
  · exact h.into hk hs g
theorem So.new {P : List B} {xs : List Nat} (h : So P xs) {i : Nat} {k : B} (hk : P[i]? = some k) (hs : SmallB k) : So P (xs.set i (intoN k xs)) := by
  have hi : i < xs.length := by rw [h.len]; exact (List.getElem?_eq_some_iff.1 hk).1
  exact h.set hi (intoN_lt hs h.fit) fun r g => h.into hk hs g
/-- Nothing is left to grow at a block. -/
def Shut (k : B) (xs : List Nat) (i : Nat) : Prop := inN xs i ||| intoN k xs = inN xs i
theorem So.done {P : List B} {xs : List Nat} (h : So P xs) (hs : ∀ (i : Nat) k, P[i]? = some k → SmallB k) (hc : ∀ (i : Nat) k, P[i]? = some k → Shut k xs i) (t r : Nat) : bitN xs t r = true ↔ Live P r t :=
  live_iff (fun t => h.live t r) (fun b k hk g => by
    rw [← intoN_bit (hs b k hk) h.fit] at g
    have := congrArg (fun x => Nat.testBit x r) (hc b k hk)
    simp only [Nat.testBit_or, g, Bool.or_true] at this
    exact this.symm) t
theorem So.eq {P : List B} {xs ys : List Nat} (h : So P xs) (g : So P ys) (e : ∀ t r, bitN xs t r = bitN ys t r) : xs = ys :=
  List.ext_getElem (by rw [h.len, g.len]) fun i h1 h2 => by
    have := Nat.eq_of_testBit_eq (x := inN xs i) (y := inN ys i) fun r => e i r
    rwa [inN_eq h1, inN_eq h2] at this
/-- Both answers are the same. -/
theorem So.same {P : List B} {xs ys : List Nat} (hs : ∀ (i : Nat) k, P[i]? = some k → SmallB k) (h : So P xs) (hc : ∀ (i : Nat) k, P[i]? = some k → Shut k xs i) (g : So P ys) (gc : ∀ (i : Nat) k, P[i]? = some k → Shut k ys i) : xs = ys :=
  h.eq g fun t r => by rw [Bool.eq_iff_iff, h.done hs hc, g.done hs gc]
/-- Into a block is what is asked of it. -/
theorem So.fix {P : List B} {xs : List Nat} (h : So P xs) (hs : ∀ (i : Nat) k, P[i]? = some k → SmallB k) (hc : ∀ (i : Nat) k, P[i]? = some k → Shut k xs i) {i : Nat} {k : B} (hk : P[i]? = some k) : intoN k xs = inN xs i :=
  Nat.eq_of_testBit_eq fun r => by
    rw [intoN_bit (hs i k hk) h.fit]
    exact into_live (h.done hs hc · r) hk

/-- A round under way, from the last block down: nothing has grown yet, or something has. -/
def Rnd (P : List B) (xs : List Nat) (grown : Bool) (i : Nat) : Prop := grown = false → ∀ j k, i ≤ j → P[j]? = some k → Shut k xs j
theorem Rnd.init (P : List B) (xs : List Nat) : Rnd P xs false P.length := fun _ j k hj hk => by
  have := (List.getElem?_eq_some_iff.1 hk).1
  omega
theorem Rnd.step {P : List B} {xs : List Nat} {grown : Bool} {i : Nat} {k : B} (h : Rnd P xs grown (i + 1)) (hk : P[i]? = some k) (hi : i < xs.length) : Rnd P (xs.set i (inN xs i ||| intoN k xs)) (grown || (inN xs i ||| intoN k xs) != inN xs i) i := fun hg => by
  rw [Bool.or_eq_false_iff] at hg
  have e : inN xs i ||| intoN k xs = inN xs i := by simpa using hg.2
  have e2 : xs.set i (inN xs i ||| intoN k xs) = xs := by rw [e, inN_eq hi, List.set_getElem_self]
  rw [e2]
  intro j k' hj hk'
  rcases Nat.lt_or_ge i j with g | g
  · exact h hg.1 j k' g hk'
  · obtain rfl : j = i := by omega
    rw [hk] at hk'; cases hk'
    exact e
theorem Rnd.done {P : List B} {xs : List Nat} (h : Rnd P xs false 0) (j : Nat) (k : B) (hk : P[j]? = some k) : Shut k xs j := h rfl j k (Nat.zero_le _) hk

/-- Out of a list of work: what is not in it has nothing left to grow. -/
def Work (P : List B) (xs : List Nat) (work : Nat → Prop) : Prop := ∀ j k, P[j]? = some k → ¬ work j → Shut k xs j
/-- A block is taken out; whatever turns to it comes in, if it has grown. -/
theorem Work.step {P : List B} {xs : List Nat} {work work' : Nat → Prop} {i : Nat} {k : B} (h : Work P xs work) (hk : P[i]? = some k) (hi : i < xs.length) (h1 : ∀ j, work j → j ≠ i → work' j) (h2 : inN xs i ||| intoN k xs ≠ inN xs i → ∀ j k', P[j]? = some k' → i ∈ k'.e.succ → work' j) : Work P (xs.set i (inN xs i ||| intoN k xs)) work' := fun j k' hk' hw => by
  by_cases e : inN xs i ||| intoN k xs = inN xs i
  · have e2 : xs.set i (inN xs i ||| intoN k xs) = xs := by rw [e, inN_eq hi, List.set_getElem_self]
    rw [e2]
    by_cases ej : j = i
    · subst ej; rw [hk] at hk'; cases hk'; exact e
    · exact h j k' hk' fun g => hw (h1 j g ej)
  · have ht : i ∉ k'.e.succ := fun g => hw (h2 e j k' hk' g)
    unfold Shut
    rw [intoN_other ht, inN_set hi]
    by_cases ej : i = j
    · subst ej; rw [hk] at hk'; cases hk'
      rw [if_pos rfl, Nat.or_assoc, Nat.or_self]
    · rw [if_neg ej]
      exact h j k' hk' fun g => hw (h1 j g fun e => ej e.symm)
theorem Work.done {P : List B} {xs : List Nat} {work : Nat → Prop} (h : Work P xs work) (hn : ∀ j, j < P.length → ¬ work j) (j : Nat) (k : B) (hk : P[j]? = some k) : Shut k xs j :=
  h j k hk (hn j (List.getElem?_eq_some_iff.1 hk).1)
end Go.Proofs.YtlinekpaffgcjaaDoor.Lv
