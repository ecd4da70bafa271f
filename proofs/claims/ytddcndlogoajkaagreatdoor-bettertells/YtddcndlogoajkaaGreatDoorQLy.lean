/- A program's operations and blocks as what they read and write. Plain mathematics over the program in memory. Conditions: none. -/
import Derived.Test.YtddcndlogoajkaaGreatDoorQPk
namespace Go.Proofs.YtddcndlogoajkaaGreatDoor.L8.Lv

/-- What an operation reads, and what it writes. -/
structure W where
  rd : List Nat
  wr : Option Nat
/-- Ahead of an operation, of a list of them. -/
def aheadO (o : W) (X : Nat → Bool) (r : Nat) : Bool := o.rd.contains r || (X r && o.wr != some r)
def aheadL : List W → (Nat → Bool) → Nat → Bool
  | [], X => X
  | o :: l, X => aheadO o (aheadL l X)
/-- What a list reads ahead of any write of it; what it leaves unwritten. -/
def gen : List W → Nat → Bool
  | [], _ => false
  | o :: l, r => o.rd.contains r || (gen l r && o.wr != some r)
def keep (l : List W) (r : Nat) : Bool := l.all fun o => o.wr != some r
theorem aheadL_eq (l : List W) (X : Nat → Bool) (r : Nat) : aheadL l X r = (gen l r || (X r && keep l r)) := by
  induction l with
  | nil => simp [aheadL, gen, keep]
  | cons o l ih =>
    simp only [aheadL, aheadO, gen, ih, keep, List.all_cons]
    cases o.rd.contains r <;> cases gen l r <;> cases X r <;> cases o.wr != some r <;> simp
/-- A block's end. -/
inductive E where
  | jump (t : Nat)
  | branch (a t e : Nat)
  | halt (a : Nat)
  | loop (a t : Nat)
structure B where
  ops : List W
  body : List W
  e : E
/-- Where an end turns to; what it reads of its own. -/
def E.succ : E → List Nat
  | .jump t => [t]
  | .branch _ t e => [t, e]
  | .halt _ => []
  | .loop _ t => [t]
def E.own : E → Nat → Bool
  | .jump _, _ => false
  | .branch a _ _, r => r == a
  | .halt a, r => r == a
  | .loop a _, r => r == a
def E.isLoop : E → Bool
  | .loop _ _ => true
  | _ => false
/-- A loop's set: what Then has, and what Body reads: it stays so, however often it is asked. -/
def loopX (body : List W) (X : Nat → Bool) (r : Nat) : Bool := X r || gen body r
theorem loop_first (body : List W) (X : Nat → Bool) (r : Nat) : (X r || aheadL body X r) = loopX body X r := by
  rw [aheadL_eq, loopX]; cases X r <;> cases gen body r <;> simp
def aheadE (b : B) (inn : Nat → Nat → Bool) (r : Nat) : Bool :=
  match b.e with
  | .jump t => inn t r
  | .branch a t e => r == a || inn t r || inn e r
  | .halt a => r == a
  | .loop a t => r == a || loopX b.body (inn t) r
/-- Into a block, by what is into the others. -/
def into (b : B) (inn : Nat → Nat → Bool) (r : Nat) : Bool := aheadL b.ops (aheadE b inn) r
/-- What an end reads of its own, a loop's Body with it. -/
def endGen (b : B) (r : Nat) : Bool := b.e.own r || (b.e.isLoop && gen b.body r)
theorem aheadE_iff (b : B) (inn : Nat → Nat → Bool) (r : Nat) : aheadE b inn r = true ↔ endGen b r = true ∨ ∃ t ∈ b.e.succ, inn t r = true := by
  cases h : b.e <;> simp [aheadE, endGen, h, E.own, E.isLoop, E.succ, loopX, or_comm, or_left_comm]
theorem into_iff (b : B) (inn : Nat → Nat → Bool) (r : Nat) : into b inn r = true ↔ gen b.ops r = true ∨ keep b.ops r = true ∧ (endGen b r = true ∨ ∃ t ∈ b.e.succ, inn t r = true) := by
  rw [into, aheadL_eq, Bool.or_eq_true, Bool.and_eq_true, aheadE_iff]
  constructor
  · rintro (h | ⟨h, g⟩)
    · exact .inl h
    · exact .inr ⟨g, h⟩
  · rintro (h | ⟨h, g⟩)
    · exact .inl h
    · exact .inr ⟨g, h⟩

/-- Live into a block: some way from there reads it. -/
inductive Live (P : List B) (r : Nat) : Nat → Prop
  | here {b : Nat} {k : B} : P[b]? = some k → (gen k.ops r = true ∨ keep k.ops r = true ∧ endGen k r = true) → Live P r b
  | step {b t : Nat} {k : B} : P[b]? = some k → keep k.ops r = true → t ∈ k.e.succ → Live P r t → Live P r b
theorem Live.sound {P : List B} {r b : Nat} {k : B} {inn : Nat → Nat → Bool} (h : ∀ t, inn t r = true → Live P r t) (hk : P[b]? = some k) (hi : into k inn r = true) : Live P r b := by
  rcases (into_iff k inn r).1 hi with g | ⟨g, g' | ⟨t, ht, g'⟩⟩
  · exact .here hk (.inl g)
  · exact .here hk (.inr ⟨g, g'⟩)
  · exact .step hk g ht (h t g')
theorem Live.least {P : List B} {r b : Nat} {inn : Nat → Nat → Bool} (hc : ∀ b k, P[b]? = some k → into k inn r = true → inn b r = true) (h : Live P r b) : inn b r = true := by
  induction h with
  | here hk h => exact hc _ _ hk ((into_iff _ _ _).2 (h.imp id fun h => ⟨h.1, .inl h.2⟩))
  | step hk h ht _ ih => exact hc _ _ hk ((into_iff _ _ _).2 (.inr ⟨h, .inr ⟨_, ht, ih⟩⟩))
/-- Sets that are sound and closed are the least. -/
theorem live_iff {P : List B} {r : Nat} {inn : Nat → Nat → Bool} (h : ∀ t, inn t r = true → Live P r t) (hc : ∀ b k, P[b]? = some k → into k inn r = true → inn b r = true) (b : Nat) : inn b r = true ↔ Live P r b :=
  ⟨h b, Live.least hc⟩
/-- Places: a block's Ops (part 0), its end (1), its Body (2), behind a round of it (3). -/
structure Pc where
  b : Nat
  part : Nat
  op : Nat
deriving DecidableEq
def listOf (k : B) (part : Nat) : List W := if part = 2 then k.body else k.ops
def nextE (b : Nat) : E → List Pc
  | .jump t => [⟨t, 0, 0⟩]
  | .branch _ t e => [⟨t, 0, 0⟩, ⟨e, 0, 0⟩]
  | .halt _ => []
  | .loop _ t => [⟨b, 2, 0⟩, ⟨t, 0, 0⟩]
def next (k : B) (x : Pc) : List Pc :=
  if x.part = 0 ∨ x.part = 2 then (if x.op < (listOf k x.part).length then [⟨x.b, x.part, x.op + 1⟩] else [⟨x.b, x.part + 1, 0⟩]) else nextE x.b k.e
def readAt (k : B) (x : Pc) (r : Nat) : Bool :=
  if x.part = 0 ∨ x.part = 2 then (match (listOf k x.part)[x.op]? with | some o => o.rd.contains r | none => false) else (x.part == 1 && k.e.own r)
def wroteAt (k : B) (x : Pc) (r : Nat) : Bool :=
  if x.part = 0 ∨ x.part = 2 then (match (listOf k x.part)[x.op]? with | some o => o.wr == some r | none => false) else false
/-- From a place some way reads the register ahead of any write. -/
inductive At (P : List B) (r : Nat) : Pc → Prop
  | read {x : Pc} {k : B} : P[x.b]? = some k → readAt k x r = true → At P r x
  | step {x y : Pc} {k : B} : P[x.b]? = some k → wroteAt k x r = false → y ∈ next k x → At P r y → At P r x
/-- A search of places under way: those that are met, the first i of them looked at. -/
structure Bf (P : List B) (r : Nat) (st : Pc) (seen : List Pc) (i : Nat) : Prop where
  le : i ≤ seen.length
  has : st ∈ seen
  ok : ∀ x ∈ seen, At P r x → At P r st
  cl : ∀ j, j < i → ∀ x, seen[j]? = some x → ∀ k, P[x.b]? = some k → readAt k x r = false ∧ (wroteAt k x r = false → ∀ y ∈ next k x, y ∈ seen)
theorem Bf.init (P : List B) (r : Nat) (st : Pc) : Bf P r st [st] 0 :=
  ⟨by simp, by simp, fun x hx h => by simp at hx; exact hx ▸ h, fun j hj => by omega⟩
/-- One is looked at: nothing read, and all behind it met. -/
theorem Bf.turn {P : List B} {r i : Nat} {st x : Pc} {seen : List Pc} {k : B} (h : Bf P r st seen i) (hx : seen[i]? = some x) (hk : P[x.b]? = some k) (hr : readAt k x r = false) (hn : wroteAt k x r = false → ∀ y ∈ next k x, y ∈ seen) : Bf P r st seen (i + 1) :=
  ⟨(List.getElem?_eq_some_iff.1 hx).1, h.has, h.ok, fun j hj z hz k' hk' => by
    rcases Nat.lt_or_ge j i with g | g
    · exact h.cl j g z hz k' hk'
    · obtain rfl : j = i := by omega
      rw [hx] at hz; cases hz
      rw [hk] at hk'; cases hk'
      exact ⟨hr, hn⟩⟩
/-- All looked at: no way reads it. -/
theorem Bf.done {P : List B} {r : Nat} {st : Pc} {seen : List Pc} (h : Bf P r st seen seen.length) : ¬ At P r st := fun hA => by
  have key : ∀ x, At P r x → x ∉ seen := fun x hx => by
    induction hx with
    | @read x k hk hr =>
      intro hm
      obtain ⟨j, hj, e⟩ := List.getElem_of_mem hm
      have := (h.cl j hj x (by rw [List.getElem?_eq_getElem hj, e]) k hk).1
      rw [hr] at this; cases this
    | @step x y k hk hw hy _ ih =>
      intro hm
      obtain ⟨j, hj, e⟩ := List.getElem_of_mem hm
      exact ih ((h.cl j hj x (by rw [List.getElem?_eq_getElem hj, e]) k hk).2 hw y hy)
  exact key st hA h.has
end Go.Proofs.YtddcndlogoajkaaGreatDoor.L8.Lv
namespace Go.Proofs.YtddcndlogoajkaaGreatDoor.L8.Lv

/-- A register taken out, put in. -/
def clr (x d : Nat) : Nat := x &&& (4294967295 - 2 ^ d)
def put (x d : Nat) : Nat := x ||| 2 ^ d
theorem bit32 {x i : Nat} (h : x < 4294967296) (hi : 32 ≤ i) : x.testBit i = false :=
  Nat.testBit_lt_two_pow (Nat.lt_of_lt_of_le (show x < 2 ^ 32 from h) (Nat.pow_le_pow_right (n := 2) (by decide) hi))
theorem pow32 {d : Nat} (h : d < 32) : 2 ^ d < 4294967296 := Nat.pow_lt_pow_right (a := 2) (n := 32) (by decide) h
theorem put_bit (x d i : Nat) : (put x d).testBit i = (x.testBit i || decide (d = i)) := by
  rw [put, Nat.testBit_or, Nat.testBit_two_pow]
theorem clr_bit {x d : Nat} (hx : x < 4294967296) (hd : d < 32) (i : Nat) : (clr x d).testBit i = (x.testBit i && !decide (d = i)) := by
  have hm := pow32 hd
  rw [clr, Nat.testBit_and, show 4294967295 - 2 ^ d = 2 ^ 32 - (2 ^ d + 1) by omega, Nat.testBit_two_pow_sub_succ hm, Nat.testBit_two_pow]
  by_cases hi : i < 32
  · simp [hi]
  · simp [bit32 hx (by omega : 32 ≤ i)]
theorem put_lt {x d : Nat} (hx : x < 4294967296) (hd : d < 32) : put x d < 4294967296 := Nat.or_lt_two_pow (n := 32) hx (pow32 hd)
theorem clr_lt {x : Nat} (d : Nat) (hx : x < 4294967296) : clr x d < 4294967296 := Nat.lt_of_le_of_lt Nat.and_le_left hx
/-- All registers that are named are below 32. -/
def Small (o : W) : Prop := (∀ r ∈ o.rd, r < 32) ∧ ∀ d, o.wr = some d → d < 32
def wipe (o : W) (x : Nat) : Nat := match o.wr with
  | some d => clr x d
  | none => x
def aheadN (o : W) (x : Nat) : Nat := o.rd.foldl put (wipe o x)
def aheadNL : List W → Nat → Nat
  | [], x => x
  | o :: l, x => aheadN o (aheadNL l x)
theorem wipe_lt {o : W} {x : Nat} (hx : x < 4294967296) : wipe o x < 4294967296 := by
  unfold wipe; split
  · exact clr_lt _ hx
  · exact hx
theorem fold_bit (l : List Nat) (x i : Nat) : (l.foldl put x).testBit i = (x.testBit i || l.contains i) := by
  induction l generalizing x with
  | nil => simp
  | cons a l ih =>
    rw [List.foldl_cons, ih, put_bit, List.contains_cons, Bool.or_assoc]
    congr 2
    rw [Bool.eq_iff_iff, decide_eq_true_iff, beq_iff_eq]
    exact eq_comm
theorem fold_lt {l : List Nat} {x : Nat} (hx : x < 4294967296) (hl : ∀ r ∈ l, r < 32) : l.foldl put x < 4294967296 := by
  induction l generalizing x with
  | nil => exact hx
  | cons a l ih => exact ih (put_lt hx (hl a List.mem_cons_self)) fun r hr => hl r (List.mem_cons_of_mem _ hr)
theorem wipe_bit {o : W} {x : Nat} (hx : x < 4294967296) (ho : Small o) (i : Nat) : (wipe o x).testBit i = (x.testBit i && o.wr != some i) := by
  unfold wipe
  cases h : o.wr with
  | none => simp
  | some d =>
    dsimp only
    rw [clr_bit hx (ho.2 d h)]
    congr 1
theorem aheadN_bit {o : W} {x : Nat} (hx : x < 4294967296) (ho : Small o) (i : Nat) : (aheadN o x).testBit i = aheadO o x.testBit i := by
  rw [aheadN, fold_bit, wipe_bit hx ho, aheadO, Bool.or_comm]
theorem aheadN_lt {o : W} {x : Nat} (hx : x < 4294967296) (ho : Small o) : aheadN o x < 4294967296 := fold_lt (wipe_lt hx) ho.1
theorem aheadNL_lt {l : List W} {x : Nat} (hx : x < 4294967296) (hl : ∀ o ∈ l, Small o) : aheadNL l x < 4294967296 := by
  induction l with
  | nil => exact hx
  | cons o l ih => exact aheadN_lt (ih fun o ho => hl o (List.mem_cons_of_mem _ ho)) (hl o List.mem_cons_self)
theorem aheadNL_bit {l : List W} {x : Nat} (hx : x < 4294967296) (hl : ∀ o ∈ l, Small o) (i : Nat) : (aheadNL l x).testBit i = aheadL l x.testBit i := by
  induction l generalizing i with
  | nil => rfl
  | cons o l ih =>
    have hs := fun o ho => hl o (List.mem_cons_of_mem _ ho)
    rw [aheadNL, aheadN_bit (aheadNL_lt hx hs) (hl o List.mem_cons_self), aheadL]
    simp only [aheadO, ih hs]
/-- A loop's set. -/
def loopN (body : List W) (x : Nat) : Nat := x ||| aheadNL body x
theorem loopN_lt {l : List W} {x : Nat} (hx : x < 4294967296) (hl : ∀ o ∈ l, Small o) : loopN l x < 4294967296 := Nat.or_lt_two_pow (n := 32) hx (aheadNL_lt hx hl)
theorem loopN_bit {l : List W} {x : Nat} (hx : x < 4294967296) (hl : ∀ o ∈ l, Small o) (i : Nat) : (loopN l x).testBit i = loopX l x.testBit i := by
  rw [loopN, Nat.testBit_or, aheadNL_bit hx hl, loop_first]
theorem loopN_again {l : List W} {x : Nat} (hx : x < 4294967296) (hl : ∀ o ∈ l, Small o) : loopN l (loopN l x) = loopN l x :=
  Nat.eq_of_testBit_eq fun i => by
    rw [loopN_bit (loopN_lt hx hl) hl, loopN_bit hx hl]
    simp only [loopX, loopN_bit hx hl]
    cases x.testBit i <;> cases gen l i <;> rfl
/-- Sets grow as numbers do. -/
theorem grow (x y : Nat) : x ≤ x ||| y := Nat.left_le_or
theorem grow_lt {x y : Nat} (h : x ||| y ≠ x) : x < x ||| y := by have := grow x y; omega

/-- What is left to grow. -/
def left (xs : List Nat) : Nat := (xs.map fun x => 4294967296 - x).sum
theorem left_set {xs : List Nat} {i y : Nat} (hi : i < xs.length) (h : xs[i] < y) (hy : y < 4294967296) : left (xs.set i y) < left xs := by
  induction xs generalizing i with
  | nil => simp at hi
  | cons x xs ih =>
    cases i with
    | zero => simp only [List.set_cons_zero, left, List.map_cons, List.sum_cons, List.getElem_cons_zero] at *; omega
    | succ i =>
      have := ih (i := i) (by simpa using hi) (by simpa using h)
      simp only [List.set_cons_succ, left, List.map_cons, List.sum_cons] at *; omega

/-- So many numbers below n, none twice, are no more than n. -/
theorem few {l : List Nat} {n : Nat} (h : l.Nodup) (hl : ∀ x ∈ l, x < n) : l.length ≤ n := by
  induction n generalizing l with
  | zero =>
    cases l with
    | nil => simp
    | cons a l => exact absurd (hl a List.mem_cons_self) (by omega)
  | succ n ih =>
    by_cases hn : n ∈ l
    · have := ih (h.erase n) fun x hx => by
        have hx' := (h.mem_erase_iff).1 hx
        have := hl x hx'.2
        have := hx'.1
        omega
      rw [List.length_erase_of_mem hn] at this
      omega
    · have := ih h fun x hx => by
        have h1 := hl x hx
        have : x ≠ n := fun e => hn (e ▸ hx)
        omega
      omega
/-- A place's own number. -/
def code (m : Nat) (x : Pc) : Nat := (x.b * 4 + x.part) * m + x.op
theorem code_lt {n m : Nat} {x : Pc} (h1 : x.b < n) (h2 : x.part < 4) (h3 : x.op < m) : code m x < n * 4 * m := by
  unfold code
  have h : (x.b * 4 + x.part + 1) * m ≤ n * 4 * m := Nat.mul_le_mul_right m (by omega)
  rw [Nat.succ_mul] at h
  omega
theorem code_inj {m : Nat} {x y : Pc} (hx : x.op < m) (hy : y.op < m) (px : x.part < 4) (py : y.part < 4) (h : code m x = code m y) : x = y := by
  unfold code at h
  have e1 : x.b * 4 + x.part = y.b * 4 + y.part := by
    have a := congrArg (· / m) h
    have hm : 0 < m := by omega
    simpa [Nat.mul_comm _ m, Nat.mul_add_div hm, Nat.div_eq_of_lt hx, Nat.div_eq_of_lt hy] using a
  obtain ⟨a, b, c⟩ := x
  obtain ⟨a', b', c'⟩ := y
  dsimp only at *
  rw [e1] at h
  have : c = c' := by omega
  have : b = b' := by omega
  have : a = a' := by omega
  subst_vars
  rfl
theorem places {l : List Pc} {n m : Nat} (h : l.Nodup) (hl : ∀ x ∈ l, x.b < n ∧ x.part < 4 ∧ x.op < m) : l.length ≤ n * 4 * m := by
  have := few (l := l.map (code m)) (n := n * 4 * m) (by
    rw [List.Nodup, List.pairwise_map]
    exact h.imp_of_mem fun ha hb hab e => hab (code_inj (hl _ ha).2.2 (hl _ hb).2.2 (hl _ ha).2.1 (hl _ hb).2.1 e)) fun x hx => by
      obtain ⟨y, hy, rfl⟩ := List.mem_map.1 hx
      exact code_lt (hl y hy).1 (hl y hy).2.1 (hl y hy).2.2
  simpa using this
end Go.Proofs.YtddcndlogoajkaaGreatDoor.L8.Lv
namespace Go.Proofs.YtddcndlogoajkaaGreatDoor.L8.Lv

/-- The set into a block, none beyond the list. -/
def inN (xs : List Nat) (t : Nat) : Nat := xs.getD t 0
def bitN (xs : List Nat) (t r : Nat) : Bool := (inN xs t).testBit r
theorem inN_eq {xs : List Nat} {t : Nat} (h : t < xs.length) : inN xs t = xs[t] := by simp [inN, h]
theorem inN_set {xs : List Nat} {i y : Nat} (hi : i < xs.length) (t : Nat) : inN (xs.set i y) t = if i = t then y else inN xs t := by
  unfold inN
  by_cases e : i = t
  · subst e; simp [hi]
  · simp [e, List.getElem?_set_ne e]
def E.reg : E → Option Nat
  | .jump _ => none
  | .branch a _ _ => some a
  | .halt a => some a
  | .loop a _ => some a
structure SmallB (k : B) : Prop where
  ops : ∀ o ∈ k.ops, Small o
  body : ∀ o ∈ k.body, Small o
  a : ∀ a, k.e.reg = some a → a < 32
def endN (k : B) (xs : List Nat) : Nat :=
  match k.e with
  | .jump t => inN xs t
  | .branch a t e => 2 ^ a ||| inN xs t ||| inN xs e
  | .halt a => 2 ^ a
  | .loop a t => 2 ^ a ||| loopN k.body (inN xs t)
def intoN (k : B) (xs : List Nat) : Nat := aheadNL k.ops (endN k xs)
def Fit (xs : List Nat) : Prop := ∀ t, inN xs t < 4294967296
theorem Fit.set {xs : List Nat} (h : Fit xs) {i y : Nat} (hy : y < 4294967296) : Fit (xs.set i y) := fun t => by
  rcases Nat.lt_or_ge i xs.length with g | g
  · rw [inN_set g]; split
    · exact hy
    · exact h t
  · rw [List.set_eq_of_length_le g]; exact h t
theorem Fit.zero (n : Nat) : Fit (List.replicate n 0) := fun t => by
  unfold inN; rw [List.getD_eq_getElem?_getD, List.getElem?_replicate]; split <;> simp
theorem endN_lt {k : B} {xs : List Nat} (hk : SmallB k) (hx : Fit xs) : endN k xs < 4294967296 := by
  have ha := hk.a
  unfold endN
  cases h : k.e with
  | jump t => exact hx t
  | branch a t e =>
    rw [h] at ha
    exact Nat.or_lt_two_pow (n := 32) (Nat.or_lt_two_pow (n := 32) (pow32 (ha a rfl)) (hx t)) (hx e)
  | halt a => rw [h] at ha; exact pow32 (ha a rfl)
  | loop a t =>
    rw [h] at ha
    exact Nat.or_lt_two_pow (n := 32) (pow32 (ha a rfl)) (loopN_lt (hx t) hk.body)
theorem endN_bit {k : B} {xs : List Nat} (hk : SmallB k) (hx : Fit xs) (r : Nat) : (endN k xs).testBit r = aheadE k (bitN xs) r := by
  have e : ∀ a : Nat, decide (a = r) = (r == a) := fun a => by rw [Bool.eq_iff_iff, decide_eq_true_iff, beq_iff_eq]; exact eq_comm
  unfold endN aheadE
  cases h : k.e with
  | jump t => rfl
  | branch a t e' => simp only [Nat.testBit_or, Nat.testBit_two_pow, bitN, e]
  | halt a => simp only [Nat.testBit_two_pow, e]
  | loop a t =>
    simp only [Nat.testBit_or, Nat.testBit_two_pow, e, loopN_bit (hx t) hk.body]
    rfl
theorem intoN_lt {k : B} {xs : List Nat} (hk : SmallB k) (hx : Fit xs) : intoN k xs < 4294967296 := aheadNL_lt (endN_lt hk hx) hk.ops
theorem intoN_bit {k : B} {xs : List Nat} (hk : SmallB k) (hx : Fit xs) (r : Nat) : (intoN k xs).testBit r = into k (bitN xs) r := by
  rw [intoN, aheadNL_bit (endN_lt hk hx) hk.ops, into, aheadL_eq, aheadL_eq, endN_bit hk hx]
/-- What is into a block hangs on those alone that it turns to. -/
theorem endN_other {k : B} {xs : List Nat} {t y : Nat} (ht : t ∉ k.e.succ) : endN k (xs.set t y) = endN k xs := by
  have key : ∀ u, t ≠ u → inN (xs.set t y) u = inN xs u := fun u hu => by unfold inN; rw [List.getD_eq_getElem?_getD, List.getElem?_set_ne hu]; rfl
  unfold endN
  cases h : k.e with
  | jump u => rw [h] at ht; dsimp only; rw [key u (by simpa [E.succ] using ht)]
  | branch a u v =>
    rw [h] at ht; simp only [E.succ, List.mem_cons, List.not_mem_nil, or_false, not_or] at ht
    dsimp only; rw [key u ht.1, key v ht.2]
  | halt a => rfl
  | loop a u => rw [h] at ht; dsimp only; rw [key u (by simpa [E.succ] using ht)]
theorem intoN_other {k : B} {xs : List Nat} {t y : Nat} (ht : t ∉ k.e.succ) : intoN k (xs.set t y) = intoN k xs := by rw [intoN, intoN, endN_other ht]

/-- No more than the least. -/
structure So (P : List B) (xs : List Nat) : Prop where
  len : xs.length = P.length
  fit : Fit xs
  live : ∀ t r, bitN xs t r = true → Live P r t
theorem So.init (P : List B) : So P (List.replicate P.length 0) :=
  ⟨by simp, Fit.zero _, fun t r h => by
    rw [bitN, inN, List.getD_eq_getElem?_getD, List.getElem?_replicate] at h
    split at h <;> simp at h⟩
theorem So.set {P : List B} {xs : List Nat} (h : So P xs) {i y : Nat} (hi : i < xs.length) (hy : y < 4294967296) (hl : ∀ r, y.testBit r = true → Live P r i) : So P (xs.set i y) :=
  ⟨by simp [h.len], h.fit.set hy, fun t r g => by
    rw [bitN, inN_set hi] at g
    split at g
    · subst_vars; exact hl r g
    · exact h.live t r g⟩
theorem So.into {P : List B} {xs : List Nat} (h : So P xs) {i r : Nat} {k : B} (hk : P[i]? = some k) (hs : SmallB k) (g : (intoN k xs).testBit r = true) : Live P r i := by
  rw [intoN_bit hs h.fit] at g
  exact Live.sound (fun t => h.live t r) hk g
/-- One block anew, with what it had; without it. -/
theorem So.put {P : List B} {xs : List Nat} (h : So P xs) {i : Nat} {k : B} (hk : P[i]? = some k) (hs : SmallB k) : So P (xs.set i (inN xs i ||| intoN k xs)) := by
  have hi : i < xs.length := by rw [h.len]; exact (List.getElem?_eq_some_iff.1 hk).1
  refine h.set hi (Nat.or_lt_two_pow (n := 32) (h.fit i) (intoN_lt hs h.fit)) fun r g => ?_
  rw [Nat.testBit_or, Bool.or_eq_true] at g
  rcases g with g | g
  · exact h.live i r g
  · exact h.into hk hs g
theorem So.new {P : List B} {xs : List Nat} (h : So P xs) {i : Nat} {k : B} (hk : P[i]? = some k) (hs : SmallB k) : So P (xs.set i (intoN k xs)) := by
  have hi : i < xs.length := by rw [h.len]; exact (List.getElem?_eq_some_iff.1 hk).1
  exact h.set hi (intoN_lt hs h.fit) fun r g => h.into hk hs g
/-- Nothing is left to grow at a block. -/
def Shut (k : B) (xs : List Nat) (i : Nat) : Prop := inN xs i ||| intoN k xs = inN xs i
theorem So.done {P : List B} {xs : List Nat} (h : So P xs) (hs : ∀ (i : Nat) k, P[i]? = some k → SmallB k) (hc : ∀ (i : Nat) k, P[i]? = some k → Shut k xs i) (t r : Nat) : bitN xs t r = true ↔ Live P r t :=
  live_iff (fun t => h.live t r) (fun b k hk g => by
    rw [← intoN_bit (hs b k hk) h.fit] at g
    have := congrArg (fun x => Nat.testBit x r) (hc b k hk)
    simp only [Nat.testBit_or, g, Bool.or_true] at this
    exact this.symm) t
theorem So.eq {P : List B} {xs ys : List Nat} (h : So P xs) (g : So P ys) (e : ∀ t r, bitN xs t r = bitN ys t r) : xs = ys :=
  List.ext_getElem (by rw [h.len, g.len]) fun i h1 h2 => by
    have := Nat.eq_of_testBit_eq (x := inN xs i) (y := inN ys i) fun r => e i r
    rwa [inN_eq h1, inN_eq h2] at this
/-- Both answers are the same. -/
theorem So.same {P : List B} {xs ys : List Nat} (hs : ∀ (i : Nat) k, P[i]? = some k → SmallB k) (h : So P xs) (hc : ∀ (i : Nat) k, P[i]? = some k → Shut k xs i) (g : So P ys) (gc : ∀ (i : Nat) k, P[i]? = some k → Shut k ys i) : xs = ys :=
  h.eq g fun t r => by rw [Bool.eq_iff_iff, h.done hs hc, g.done hs gc]
/-- A round under way, from the last block down: nothing has grown yet, or something has. -/
def Rnd (P : List B) (xs : List Nat) (grown : Bool) (i : Nat) : Prop := grown = false → ∀ j k, i ≤ j → P[j]? = some k → Shut k xs j
theorem Rnd.init (P : List B) (xs : List Nat) : Rnd P xs false P.length := fun _ j k hj hk => by
  have := (List.getElem?_eq_some_iff.1 hk).1
  omega
theorem Rnd.step {P : List B} {xs : List Nat} {grown : Bool} {i : Nat} {k : B} (h : Rnd P xs grown (i + 1)) (hk : P[i]? = some k) (hi : i < xs.length) : Rnd P (xs.set i (inN xs i ||| intoN k xs)) (grown || (inN xs i ||| intoN k xs) != inN xs i) i := fun hg => by
  rw [Bool.or_eq_false_iff] at hg
  have e : inN xs i ||| intoN k xs = inN xs i := by simpa using hg.2
  have e2 : xs.set i (inN xs i ||| intoN k xs) = xs := by rw [e, inN_eq hi, List.set_getElem_self]
  rw [e2]
  intro j k' hj hk'
  rcases Nat.lt_or_ge i j with g | g
  · exact h hg.1 j k' g hk'
  · obtain rfl : j = i := by omega
    rw [hk] at hk'; cases hk'
    exact e
theorem Rnd.done {P : List B} {xs : List Nat} (h : Rnd P xs false 0) (j : Nat) (k : B) (hk : P[j]? = some k) : Shut k xs j := h rfl j k (Nat.zero_le _) hk

/-- Out of a list of work: what is not in it has nothing left to grow. -/
def Work (P : List B) (xs : List Nat) (work : Nat → Prop) : Prop := ∀ j k, P[j]? = some k → ¬ work j → Shut k xs j
/-- A block is taken out; whatever turns to it comes in, if it has grown. -/
theorem Work.step {P : List B} {xs : List Nat} {work work' : Nat → Prop} {i : Nat} {k : B} (h : Work P xs work) (hk : P[i]? = some k) (hi : i < xs.length) (h1 : ∀ j, work j → j ≠ i → work' j) (h2 : inN xs i ||| intoN k xs ≠ inN xs i → ∀ j k', P[j]? = some k' → i ∈ k'.e.succ → work' j) : Work P (xs.set i (inN xs i ||| intoN k xs)) work' := fun j k' hk' hw => by
  by_cases e : inN xs i ||| intoN k xs = inN xs i
  · have e2 : xs.set i (inN xs i ||| intoN k xs) = xs := by rw [e, inN_eq hi, List.set_getElem_self]
    rw [e2]
    by_cases ej : j = i
    · subst ej; rw [hk] at hk'; cases hk'; exact e
    · exact h j k' hk' fun g => hw (h1 j g ej)
  · have ht : i ∉ k'.e.succ := fun g => hw (h2 e j k' hk' g)
    unfold Shut
    rw [intoN_other ht, inN_set hi]
    by_cases ej : i = j
    · subst ej; rw [hk] at hk'; cases hk'
      rw [if_pos rfl, Nat.or_assoc, Nat.or_self]
    · rw [if_neg ej]
      exact h j k' hk' fun g => hw (h1 j g fun e => ej e.symm)
theorem Work.done {P : List B} {xs : List Nat} {work : Nat → Prop} (h : Work P xs work) (hn : ∀ j, j < P.length → ¬ work j) (j : Nat) (k : B) (hk : P[j]? = some k) : Shut k xs j :=
  h j k hk (hn j (List.getElem?_eq_some_iff.1 hk).1)
end Go.Proofs.YtddcndlogoajkaaGreatDoor.L8.Lv
namespace Go.Proofs.YtddcndlogoajkaaGreatDoor.L8.Lv
open _root_.Go.Proofs.YtddcndlogoajkaaGreatDoor.L8.Op

/-- What an operation reads. -/
def rdL (o : O) : List Nat := match kOf o.op with
  | some k => if okF k o && k.A then (if k.B && !(o.a == o.b) then [o.a.toNat, o.b.toNat] else [o.a.toNat]) else []
  | none => []
def wOf (o : O) : W := ⟨rdL o, if wrB o then some o.d.toNat else none⟩
theorem small_of (o : O) (ho : o.Ok) : Small (wOf o) := by
  obtain ⟨_, _, hd, _, ha, _, hb, _, _, _⟩ := ho
  cases h : kOf o.op with
  | none => exact ⟨fun r hr => by simp [wOf, rdL, h] at hr, fun d e => by simp [wOf, wrB, h] at e⟩
  | some k =>
    cases hf : okF k o with
    | false => exact ⟨fun r hr => by simp [wOf, rdL, h, hf] at hr, fun d e => by simp [wOf, wrB, h, hf] at e⟩
    | true =>
      have hf' := hf
      simp only [okF, Bool.and_eq_true] at hf'
      obtain ⟨⟨⟨h1, h2⟩, h3⟩, _⟩ := hf'
      constructor
      · intro r hr
        simp only [wOf, rdL, h, hf, Bool.true_and] at hr
        cases hA : k.A with
        | false => simp [hA] at hr
        | true =>
          simp only [hA, rH, if_true, decide_eq_true_eq] at h2 hr
          cases hB : k.B with
          | false => simp only [hB, Bool.false_and, Bool.false_eq_true, if_false, List.mem_singleton] at hr; omega
          | true =>
            simp only [hB, rH, Bool.true_or, if_true, decide_eq_true_eq] at h3
            simp only [hB, Bool.true_and] at hr
            split at hr
            · simp only [List.mem_cons, List.not_mem_nil, or_false] at hr; omega
            · simp only [List.mem_singleton] at hr; omega
      · intro d e
        simp only [wOf, wrB, h, hf, Bool.true_and] at e
        cases hD : k.D with
        | false => simp [hD] at e
        | true =>
          simp only [hD, rH, if_true, decide_eq_true_eq] at h1
          simp only [hD, if_true, Option.some.injEq] at e
          omega
def eOf (x : Bk) : E := if x.fin = 0 then .jump x.thn.toNat else if x.fin = 1 then .branch x.a.toNat x.thn.toNat x.els.toNat else if x.fin = 2 then .halt x.a.toNat else .loop x.a.toNat x.thn.toNat
def bOf (x : Bk) : B := ⟨x.ops.map wOf, x.body.map wOf, eOf x⟩
theorem end_of {x : Bk} {n : Int} (h : ckB x n = 0) : endB x n = true := by
  unfold ckB at h
  split at h
  · split at h
    · assumption
    · cases h
  · cases h
theorem end_reg {x : Bk} {n : Int} (h : endB x n = true) (hf : x.fin ≠ 0) : x.a < 32 := by
  simp only [endB, Bool.and_eq_true, eK, decide_eq_true_eq] at h
  have h2 := h.1.1.1.2
  have : eA x.fin = true := by simp only [eA, decide_eq_true_eq]; omega
  rw [this] at h2
  simpa [rH] using h2
theorem end_thn {x : Bk} {n : Int} (h : endB x n = true) (hf : x.fin ≠ 2) : 0 ≤ x.thn ∧ x.thn < n := by
  simp only [endB, Bool.and_eq_true, eK, decide_eq_true_eq] at h
  have h2 := h.1.1.2
  have : eT x.fin = true := by simp only [eT, decide_eq_true_eq]; omega
  rw [this] at h2
  simpa [bH] using h2
theorem end_els {x : Bk} {n : Int} (h : endB x n = true) (hf : x.fin = 1) : 0 ≤ x.els ∧ x.els < n := by
  simp only [endB, Bool.and_eq_true] at h
  have h2 := h.1.2
  have : eE x.fin = true := by simp only [eE, decide_eq_true_eq]; omega
  rw [this] at h2
  simpa [bH] using h2
theorem smallB_of {x : Bk} {n : Int} (h : endB x n = true) (h0 : 0 ≤ x.a) (ho : ∀ o ∈ x.ops, o.Ok) (hb : ∀ o ∈ x.body, o.Ok) : SmallB (bOf x) where
  ops := fun o h => by
    obtain ⟨y, hy, rfl⟩ := List.mem_map.1 h
    exact small_of y (ho y hy)
  body := fun o h => by
    obtain ⟨y, hy, rfl⟩ := List.mem_map.1 h
    exact small_of y (hb y hy)
  a := fun a e => by
    have hr := end_reg h
    simp only [bOf, eOf] at e
    split at e
    · cases e
    · rename_i hf
      have hr := hr hf
      split at e
      · cases e; omega
      · split at e <;> (cases e; omega)
end Go.Proofs.YtddcndlogoajkaaGreatDoor.L8.Lv
