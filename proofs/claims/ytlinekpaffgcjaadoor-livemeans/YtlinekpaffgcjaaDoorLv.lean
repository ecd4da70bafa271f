/- What is still read: for each place of a program the registers whose values matter; the least sets are what ways reach. Plain mathematics. Conditions: none. -/
namespace Go.Proofs.YtlinekpaffgcjaaDoor.Lv

/-- What an operation reads, and what it writes. -/
structure W where
  rd : List Nat
  wr : Option Nat
/-- Ahead of an operation, of a list of them. -/
def aheadO (o : W) (X : Nat → Bool) (r : Nat) : Bool := o.rd.contains r || (X r && o.wr != some r)
def aheadL : List W → (Nat → Bool) → Nat → Bool
  | [], X => X
  | o :: l, X => aheadO o (aheadL l X)
/-- What a list reads ahead of any write of it; what it leaves unwritten. -/
def gen : List W → Nat → Bool
  | [], _ => false
  | o :: l, r => o.rd.contains r || (gen l r && o.wr != some r)
def keep (l : List W) (r : Nat) : Bool := l.all fun o => o.wr != some r
theorem aheadL_eq (l : List W) (X : Nat → Bool) (r : Nat) : aheadL l X r = (gen l r || (X r && keep l r)) := by
  induction l with
  | nil => simp [aheadL, gen, keep]
  | cons o l ih =>
    simp only [aheadL, aheadO, gen, ih, keep, List.all_cons]
    cases o.rd.contains r <;> cases gen l r <;> cases X r <;> cases o.wr != some r <;> simp
/-- A list from its end: one operation more ahead of it. -/
theorem aheadL_drop (l : List W) (X : Nat → Bool) {i : Nat} (h : i < l.length) : aheadL (l.drop i) X = aheadO l[i] (aheadL (l.drop (i + 1)) X) := by
  rw [List.drop_eq_getElem_cons h]; rfl

/-- A block's end. -/
inductive E where
  | jump (t : Nat)
  | branch (a t e : Nat)
  | halt (a : Nat)
  | loop (a t : Nat)
structure B where
  ops : List W
  body : List W
  e : E
/-- Where an end turns to; what it reads of its own. -/
def E.succ : E → List Nat
  | .jump t => [t]
  | .branch _ t e => [t, e]
  | .halt _ => []
  | .loop _ t => [t]
def E.own : E → Nat → Bool
  | .jump _, _ => false
  | .branch a _ _, r => r == a
  | .halt a, r => r == a
  | .loop a _, r => r == a
def E.isLoop : E → Bool
  | .loop _ _ => true
  | _ => false
/-- A loop's set: what Then has, and what Body reads: it stays so, however often it is asked. -/
def loopX (body : List W) (X : Nat → Bool) (r : Nat) : Bool := X r || gen body r
theorem loop_first (body : List W) (X : Nat → Bool) (r : Nat) : (X r || aheadL body X r) = loopX body X r := by
  rw [aheadL_eq, loopX]; cases X r <;> cases gen body r <;> simp
theorem loop_again (body : List W) (X : Nat → Bool) (r : Nat) : (loopX body X r || aheadL body (loopX body X) r) = loopX body X r := by
  rw [aheadL_eq]; simp only [loopX]; cases X r <;> cases gen body r <;> simp
/-- It is the least. -/
theorem loop_least (body : List W) (X Y : Nat → Bool) (r : Nat) (h1 : X r = true → Y r = true) (h2 : aheadL body Y r = true → Y r = true) (h : loopX body X r = true) : Y r = true := by
  rw [loopX, Bool.or_eq_true] at h
  rcases h with h | h
  · exact h1 h
  · exact h2 (by rw [aheadL_eq, h]; rfl)
def aheadE (b : B) (inn : Nat → Nat → Bool) (r : Nat) : Bool :=
  match b.e with
  | .jump t => inn t r
  | .branch a t e => r == a || inn t r || inn e r
  | .halt a => r == a
  | .loop a t => r == a || loopX b.body (inn t) r
/-- Into a block, by what is into the others. -/
def into (b : B) (inn : Nat → Nat → Bool) (r : Nat) : Bool := aheadL b.ops (aheadE b inn) r
/-- What an end reads of its own, a loop's Body with it. -/
def endGen (b : B) (r : Nat) : Bool := b.e.own r || (b.e.isLoop && gen b.body r)
theorem aheadE_iff (b : B) (inn : Nat → Nat → Bool) (r : Nat) : aheadE b inn r = true ↔ endGen b r = true ∨ ∃ t ∈ b.e.succ, inn t r = true := by
  cases h : b.e <;> simp [aheadE, endGen, h, E.own, E.isLoop, E.succ, loopX, or_comm, or_left_comm]
theorem into_iff (b : B) (inn : Nat → Nat → Bool) (r : Nat) : into b inn r = true ↔ gen b.ops r = true ∨ keep b.ops r = true ∧ (endGen b r = true ∨ ∃ t ∈ b.e.succ, inn t r = true) := by
  rw [into, aheadL_eq, Bool.or_eq_true, Bool.and_eq_true, aheadE_iff]
  constructor
  · rintro (h | ⟨h, g⟩)
    · exact .inl h
    · exact .inr ⟨g, h⟩
  · rintro (h | ⟨h, g⟩)
    · exact .inl h
    · exact .inr ⟨g, h⟩

/-- Live into a block: some way from there reads it. -/
inductive Live (P : List B) (r : Nat) : Nat → Prop
  | here {b : Nat} {k : B} : P[b]? = some k → (gen k.ops r = true ∨ keep k.ops r = true ∧ endGen k r = true) → Live P r b
  | step {b t : Nat} {k : B} : P[b]? = some k → keep k.ops r = true → t ∈ k.e.succ → Live P r t → Live P r b
theorem Live.sound {P : List B} {r b : Nat} {k : B} {inn : Nat → Nat → Bool} (h : ∀ t, inn t r = true → Live P r t) (hk : P[b]? = some k) (hi : into k inn r = true) : Live P r b := by
  rcases (into_iff k inn r).1 hi with g | ⟨g, g' | ⟨t, ht, g'⟩⟩
  · exact .here hk (.inl g)
  · exact .here hk (.inr ⟨g, g'⟩)
  · exact .step hk g ht (h t g')
theorem Live.least {P : List B} {r b : Nat} {inn : Nat → Nat → Bool} (hc : ∀ b k, P[b]? = some k → into k inn r = true → inn b r = true) (h : Live P r b) : inn b r = true := by
  induction h with
  | here hk h => exact hc _ _ hk ((into_iff _ _ _).2 (h.imp id fun h => ⟨h.1, .inl h.2⟩))
  | step hk h ht _ ih => exact hc _ _ hk ((into_iff _ _ _).2 (.inr ⟨h, .inr ⟨_, ht, ih⟩⟩))
/-- Sets that are sound and closed are the least. -/
theorem live_iff {P : List B} {r : Nat} {inn : Nat → Nat → Bool} (h : ∀ t, inn t r = true → Live P r t) (hc : ∀ b k, P[b]? = some k → into k inn r = true → inn b r = true) (b : Nat) : inn b r = true ↔ Live P r b :=
  ⟨h b, Live.least hc⟩
/-- Two such answers are the same. -/
theorem live_same {P : List B} {r : Nat} {i1 i2 : Nat → Nat → Bool} (h1 : ∀ t, i1 t r = true → Live P r t) (c1 : ∀ b k, P[b]? = some k → into k i1 r = true → i1 b r = true) (h2 : ∀ t, i2 t r = true → Live P r t) (c2 : ∀ b k, P[b]? = some k → into k i2 r = true → i2 b r = true) (b : Nat) : i1 b r = i2 b r := by
  rw [Bool.eq_iff_iff, live_iff h1 c1, live_iff h2 c2]
/-- They are what they ask. -/
theorem into_live {P : List B} {r b : Nat} {k : B} {inn : Nat → Nat → Bool} (h : ∀ t, inn t r = true ↔ Live P r t) (hk : P[b]? = some k) : into k inn r = inn b r := by
  rw [Bool.eq_iff_iff]
  constructor
  · exact fun g => (h b).2 (Live.sound (fun t => (h t).1) hk g)
  · intro g
    have g := (h b).1 g
    cases g with
    | here hk' h' => rw [hk] at hk'; cases hk'; exact (into_iff _ _ _).2 (h'.imp id fun h => ⟨h.1, .inl h.2⟩)
    | step hk' h' ht h'' => rw [hk] at hk'; cases hk'; exact (into_iff _ _ _).2 (.inr ⟨h', .inr ⟨_, ht, (h _).2 h''⟩⟩)

/-- Places: a block's Ops (part 0), its end (1), its Body (2), behind a round of it (3). -/
structure Pc where
  b : Nat
  part : Nat
  op : Nat
deriving DecidableEq
def listOf (k : B) (part : Nat) : List W := if part = 2 then k.body else k.ops
def nextE (b : Nat) : E → List Pc
  | .jump t => [⟨t, 0, 0⟩]
  | .branch _ t e => [⟨t, 0, 0⟩, ⟨e, 0, 0⟩]
  | .halt _ => []
  | .loop _ t => [⟨b, 2, 0⟩, ⟨t, 0, 0⟩]
def next (k : B) (x : Pc) : List Pc :=
  if x.part = 0 ∨ x.part = 2 then (if x.op < (listOf k x.part).length then [⟨x.b, x.part, x.op + 1⟩] else [⟨x.b, x.part + 1, 0⟩]) else nextE x.b k.e
def readAt (k : B) (x : Pc) (r : Nat) : Bool :=
  if x.part = 0 ∨ x.part = 2 then (match (listOf k x.part)[x.op]? with | some o => o.rd.contains r | none => false) else (x.part == 1 && k.e.own r)
def wroteAt (k : B) (x : Pc) (r : Nat) : Bool :=
  if x.part = 0 ∨ x.part = 2 then (match (listOf k x.part)[x.op]? with | some o => o.wr == some r | none => false) else false
/-- From a place some way reads the register ahead of any write. -/
inductive At (P : List B) (r : Nat) : Pc → Prop
  | read {x : Pc} {k : B} : P[x.b]? = some k → readAt k x r = true → At P r x
  | step {x y : Pc} {k : B} : P[x.b]? = some k → wroteAt k x r = false → y ∈ next k x → At P r y → At P r x
/-- Behind a round; at an end. -/
def Rest (P : List B) (r : Nat) (k : B) : Prop := (∃ t ∈ k.e.succ, Live P r t) ∨ k.e.isLoop = true ∧ gen k.body r = true
def Ends (P : List B) (r : Nat) (k : B) : Prop := k.e.own r = true ∨ Rest P r k
def Here (P : List B) (r : Nat) (x : Pc) : Prop := ∃ k, P[x.b]? = some k ∧
  ((x.part = 0 ∧ (gen (k.ops.drop x.op) r = true ∨ keep (k.ops.drop x.op) r = true ∧ Ends P r k)) ∨ (x.part = 1 ∧ Ends P r k) ∨ (x.part = 2 ∧ (k.e.isLoop = true → gen (k.body.drop x.op) r = true ∨ keep (k.body.drop x.op) r = true ∧ Rest P r k)) ∨ (x.part ≠ 0 ∧ x.part ≠ 1 ∧ x.part ≠ 2 ∧ (k.e.isLoop = true → Rest P r k)))
theorem gen_drop {l : List W} {i r : Nat} (h : i < l.length) : gen (l.drop i) r = (l[i].rd.contains r || (gen (l.drop (i + 1)) r && l[i].wr != some r)) := by rw [List.drop_eq_getElem_cons h]; rfl
theorem keep_drop {l : List W} {i r : Nat} (h : i < l.length) : keep (l.drop i) r = (l[i].wr != some r && keep (l.drop (i + 1)) r) := by rw [List.drop_eq_getElem_cons h]; rfl
theorem live_of {P : List B} {r b : Nat} {k : B} (hk : P[b]? = some k) (h : gen k.ops r = true ∨ keep k.ops r = true ∧ Ends P r k) : Live P r b := by
  rcases h with h | ⟨h, g | ⟨t, ht, g⟩ | ⟨g, g'⟩⟩
  · exact .here hk (.inl h)
  · exact .here hk (.inr ⟨h, by simp [endGen, g]⟩)
  · exact .step hk h ht g
  · exact .here hk (.inr ⟨h, by simp [endGen, g, g']⟩)
theorem live_here {P : List B} {r t : Nat} (h : Here P r ⟨t, 0, 0⟩) : Live P r t := by
  obtain ⟨k, hk, h⟩ := h
  simp only [List.drop_zero, true_and] at h
  rcases h with h | h | h | h
  · exact live_of hk h
  · exact absurd h.1 (by decide)
  · exact absurd h.1 (by decide)
  · exact absurd rfl h.1
/-- A list's part of Here: one operation further. -/
theorem list_step {l : List W} {i r : Nat} {Q : Prop} (h : i < l.length) (hw : (l[i].wr == some r) = false) (g : gen (l.drop (i + 1)) r = true ∨ keep (l.drop (i + 1)) r = true ∧ Q) : gen (l.drop i) r = true ∨ keep (l.drop i) r = true ∧ Q := by
  have hn : (l[i].wr != some r) = true := by simp only [bne, hw, Bool.not_false]
  rcases g with g | ⟨g, q⟩
  · exact .inl (by rw [gen_drop h, g, hn]; simp)
  · exact .inr ⟨by rw [keep_drop h, g, hn]; rfl, q⟩
theorem list_read {l : List W} {i r : Nat} {o : W} (h : l[i]? = some o) (ho : o.rd.contains r = true) : gen (l.drop i) r = true := by
  obtain ⟨hi, e⟩ := List.getElem?_eq_some_iff.1 h
  rw [gen_drop hi, e, ho]; rfl
theorem list_end {l : List W} {i r : Nat} {Q : Prop} (h : ¬ i < l.length) (q : Q) : gen (l.drop i) r = true ∨ keep (l.drop i) r = true ∧ Q :=
  .inr ⟨by rw [List.drop_eq_nil_of_le (by omega)]; rfl, q⟩
theorem rest_of {P : List B} {r b : Nat} {k : B} {y : Pc} (hk : P[b]? = some k) (hy : y ∈ nextE b k.e) (h : Here P r y) : Rest P r k := by
  have two : y = ⟨b, 2, 0⟩ → k.e.isLoop = true → Rest P r k := fun e hl => by
    subst e
    obtain ⟨k', hk', h⟩ := h
    dsimp only at hk' h
    rw [hk] at hk'; cases hk'
    rcases h with h | h | h | h
    · exact absurd h.1 (by decide)
    · exact absurd h.1 (by decide)
    · rcases h.2 hl with g | g
      · exact .inr ⟨hl, g⟩
      · exact g.2
    · exact absurd rfl h.2.2.1
  have to : ∀ t, y = ⟨t, 0, 0⟩ → t ∈ k.e.succ → Rest P r k := fun t e ht => .inl ⟨t, ht, live_here (e ▸ h)⟩
  cases he : k.e with
  | jump t => rw [he] at hy to; simp only [nextE, List.mem_singleton] at hy; exact to t hy (by simp [E.succ])
  | branch a t e =>
    rw [he] at hy to; simp only [nextE, List.mem_cons, List.not_mem_nil, or_false] at hy
    rcases hy with hy | hy
    · exact to t hy (by simp [E.succ])
    · exact to e hy (by simp [E.succ])
  | halt a => rw [he] at hy; simp [nextE] at hy
  | loop a t =>
    rw [he] at hy to two; simp only [nextE, List.mem_cons, List.not_mem_nil, or_false] at hy
    rcases hy with hy | hy
    · exact two hy rfl
    · exact to t hy (by simp [E.succ])
theorem here_of {P : List B} {r : Nat} {x : Pc} (h : At P r x) : Here P r x := by
  induction h with
  | @read x k hk h =>
    refine ⟨k, hk, ?_⟩
    obtain ⟨b, part, op⟩ := x
    by_cases h0 : part = 0
    · subst h0
      refine .inl ⟨rfl, .inl ?_⟩
      simp only [readAt, listOf, true_or, if_true, show ¬ (0 : Nat) = 2 from by decide, if_false] at h
      cases ho : k.ops[op]? with
      | none => rw [ho] at h; cases h
      | some o => rw [ho] at h; exact list_read ho h
    · by_cases h2 : part = 2
      · subst h2
        refine .inr (.inr (.inl ⟨rfl, fun _ => .inl ?_⟩))
        simp only [readAt, listOf, or_true, if_true] at h
        cases ho : k.body[op]? with
        | none => rw [ho] at h; cases h
        | some o => rw [ho] at h; exact list_read ho h
      · simp only [readAt, h0, h2, or_self, if_false, Bool.and_eq_true, beq_iff_eq] at h
        exact .inr (.inl ⟨h.1, .inl h.2⟩)
  | @step x y k hk hw hy _ ih =>
    refine ⟨k, hk, ?_⟩
    obtain ⟨b, part, op⟩ := x
    by_cases h0 : part = 0
    · subst h0
      refine .inl ⟨rfl, ?_⟩
      simp only [next, wroteAt, listOf, true_or, if_true, show ¬ (0 : Nat) = 2 from by decide, if_false] at hy hw
      by_cases hl : op < k.ops.length
      · simp only [hl, if_true, List.mem_singleton] at hy
        rw [List.getElem?_eq_getElem hl] at hw
        subst hy
        obtain ⟨k', hk', g⟩ := ih
        dsimp only at hk hk' g
        rw [hk] at hk'; cases hk'
        refine list_step hl hw ?_
        rcases g with g | g | g | g
        · exact g.2
        · exact absurd g.1 (by decide)
        · exact absurd g.1 (by decide)
        · exact absurd rfl g.1
      · simp only [hl, if_false, List.mem_singleton] at hy
        subst hy
        obtain ⟨k', hk', g⟩ := ih
        dsimp only at hk hk' g
        rw [hk] at hk'; cases hk'
        refine list_end hl ?_
        rcases g with g | g | g | g
        · exact absurd g.1 (by decide)
        · exact g.2
        · exact absurd g.1 (by decide)
        · exact absurd rfl g.2.1
    · by_cases h2 : part = 2
      · subst h2
        refine .inr (.inr (.inl ⟨rfl, fun hlp => ?_⟩))
        simp only [next, wroteAt, listOf, or_true, if_true] at hy hw
        by_cases hl : op < k.body.length
        · simp only [hl, if_true, List.mem_singleton] at hy
          rw [List.getElem?_eq_getElem hl] at hw
          subst hy
          obtain ⟨k', hk', g⟩ := ih
          dsimp only at hk hk' g
          rw [hk] at hk'; cases hk'
          refine list_step hl hw ?_
          rcases g with g | g | g | g
          · exact absurd g.1 (by decide)
          · exact absurd g.1 (by decide)
          · exact g.2 hlp
          · exact absurd rfl g.2.2.1
        · simp only [hl, if_false, List.mem_singleton] at hy
          subst hy
          obtain ⟨k', hk', g⟩ := ih
          dsimp only at hk hk' g
          rw [hk] at hk'; cases hk'
          refine list_end hl ?_
          rcases g with g | g | g | g
          · exact absurd g.1 (by decide)
          · exact absurd g.1 (by decide)
          · exact absurd g.1 (by decide)
          · exact g.2.2.2 hlp
      · simp only [next, h0, h2, or_self, if_false] at hy
        have hr := rest_of hk hy ih
        by_cases h1 : part = 1
        · exact .inr (.inl ⟨h1, .inr hr⟩)
        · exact .inr (.inr (.inr ⟨h0, h1, h2, fun _ => hr⟩))
/-- And back: a list's places. -/
theorem at_list {P : List B} {r b part : Nat} {k : B} (hp : part = 0 ∨ part = 2) (hk : P[b]? = some k) (n : Nat) : ∀ i, (listOf k part).length - i ≤ n → (gen ((listOf k part).drop i) r = true ∨ keep ((listOf k part).drop i) r = true ∧ At P r ⟨b, part + 1, 0⟩) → At P r ⟨b, part, i⟩ := by
  induction n with
  | zero =>
    intro i hi h
    have hl : ¬ i < (listOf k part).length := by omega
    rw [List.drop_eq_nil_of_le (by omega)] at h
    rcases h with h | h
    · cases h
    · exact .step (k := k) hk (by simp [wroteAt, hp, List.getElem?_eq_none (Nat.le_of_not_lt hl)]) (y := ⟨b, part + 1, 0⟩) (by simp [next, hp, hl]) h.2
  | succ n ih =>
    intro i hi h
    by_cases hl : i < (listOf k part).length
    · rw [gen_drop hl, keep_drop hl] at h
      by_cases hr : (listOf k part)[i].rd.contains r = true
      · exact .read (k := k) hk (by simp only [readAt, hp, if_true, List.getElem?_eq_getElem hl]; exact hr)
      · have hr' : (listOf k part)[i].rd.contains r = false := by simpa using hr
        rw [hr', Bool.false_or, Bool.and_eq_true, Bool.and_eq_true] at h
        have hw : ((listOf k part)[i].wr != some r) = true := by
          rcases h with h | h
          · exact h.2
          · exact h.1.1
        refine .step (k := k) hk ?_ (y := ⟨b, part, i + 1⟩) (by simp [next, hp, hl]) (ih (i + 1) (by omega) ?_)
        · simp only [wroteAt, hp, if_true, List.getElem?_eq_getElem hl]
          simpa [bne] using hw
        · rcases h with h | h
          · exact .inl h.1
          · exact .inr ⟨h.1.2, h.2⟩
    · rw [List.drop_eq_nil_of_le (by omega)] at h
      rcases h with h | h
      · cases h
      · exact .step (k := k) hk (by simp [wroteAt, hp, List.getElem?_eq_none (Nat.le_of_not_lt hl)]) (y := ⟨b, part + 1, 0⟩) (by simp [next, hp, hl]) h.2
theorem at_end {P : List B} {r b : Nat} {k : B} (hk : P[b]? = some k) (h : endGen k r = true ∨ ∃ t ∈ k.e.succ, At P r ⟨t, 0, 0⟩) : At P r ⟨b, 1, 0⟩ := by
  have hw : wroteAt k ⟨b, 1, 0⟩ r = false := rfl
  rcases h with h | ⟨t, ht, h⟩
  · rw [endGen, Bool.or_eq_true, Bool.and_eq_true] at h
    rcases h with h | ⟨h1, h2⟩
    · exact .read (k := k) hk (by simp [readAt, h])
    · refine .step (k := k) hk hw (y := ⟨b, 2, 0⟩) ?_ (at_list (.inr rfl) hk _ 0 (Nat.le_refl _) (.inl (by simpa [listOf] using h2)))
      cases he : k.e with
      | loop a t => simp [next, nextE, he]
      | _ => rw [he] at h1; cases h1
  · refine .step (k := k) hk hw (y := ⟨t, 0, 0⟩) ?_ h
    cases he : k.e <;> rw [he] at ht <;> simp [E.succ] at ht <;> simp [next, nextE, he, ht]
theorem at_of {P : List B} {r b : Nat} (h : Live P r b) : At P r ⟨b, 0, 0⟩ := by
  induction h with
  | @here b k hk h =>
    refine at_list (.inl rfl) hk _ 0 (Nat.le_refl _) ?_
    simp only [listOf, List.drop_zero, show ¬ (0 : Nat) = 2 from by decide, if_false]
    exact h.imp id fun h => ⟨h.1, at_end hk (.inl h.2)⟩
  | @step b t k hk h ht _ ih =>
    refine at_list (.inl rfl) hk _ 0 (Nat.le_refl _) ?_
    simp only [listOf, List.drop_zero, show ¬ (0 : Nat) = 2 from by decide, if_false]
    exact .inr ⟨h, at_end hk (.inr ⟨t, ht, ih⟩)⟩
/-- Live into a block, by ways of places: the same. -/
theorem at_iff {P : List B} {r b : Nat} : At P r ⟨b, 0, 0⟩ ↔ Live P r b := ⟨fun h => live_here (here_of h), at_of⟩

/-- A search of places under way: those that are met, the first i of them looked at. -/
structure Bf (P : List B) (r : Nat) (st : Pc) (seen : List Pc) (i : Nat) : Prop where
  le : i ≤ seen.length
  has : st ∈ seen
  ok : ∀ x ∈ seen, At P r x → At P r st
  cl : ∀ j, j < i → ∀ x, seen[j]? = some x → ∀ k, P[x.b]? = some k → readAt k x r = false ∧ (wroteAt k x r = false → ∀ y ∈ next k x, y ∈ seen)
theorem Bf.init (P : List B) (r : Nat) (st : Pc) : Bf P r st [st] 0 :=
  ⟨by simp, by simp, fun x hx h => by simp at hx; exact hx ▸ h, fun j hj => by omega⟩
/-- It is read here: found. -/
theorem Bf.found {P : List B} {r i : Nat} {st x : Pc} {seen : List Pc} {k : B} (h : Bf P r st seen i) (hx : seen[i]? = some x) (hk : P[x.b]? = some k) (hr : readAt k x r = true) : At P r st :=
  h.ok x (List.mem_of_getElem? hx) (.read hk hr)
/-- One more is met. -/
theorem Bf.meet {P : List B} {r i : Nat} {st x y : Pc} {seen more : List Pc} {k : B} (h : Bf P r st (seen ++ more) i) (hx : x ∈ seen ++ more) (hk : P[x.b]? = some k) (hw : wroteAt k x r = false) (hy : y ∈ next k x) : Bf P r st ((seen ++ more) ++ [y]) i :=
  ⟨by have := h.le; simp only [List.length_append] at *; omega, List.mem_append_left _ h.has, fun z hz hA => by
    rcases List.mem_append.1 hz with g | g
    · exact h.ok z g hA
    · rw [List.mem_singleton.1 g] at hA
      exact h.ok x hx (.step hk hw hy hA), fun j hj z hz k' hk' => by
    rw [List.getElem?_append_left (Nat.lt_of_lt_of_le hj h.le)] at hz
    exact (h.cl j hj z hz k' hk').imp id fun g hw' y' hy' => List.mem_append_left _ (g hw' y' hy')⟩
/-- One is looked at: nothing read, and all behind it met. -/
theorem Bf.turn {P : List B} {r i : Nat} {st x : Pc} {seen : List Pc} {k : B} (h : Bf P r st seen i) (hx : seen[i]? = some x) (hk : P[x.b]? = some k) (hr : readAt k x r = false) (hn : wroteAt k x r = false → ∀ y ∈ next k x, y ∈ seen) : Bf P r st seen (i + 1) :=
  ⟨(List.getElem?_eq_some_iff.1 hx).1, h.has, h.ok, fun j hj z hz k' hk' => by
    rcases Nat.lt_or_ge j i with g | g
    · exact h.cl j g z hz k' hk'
    · obtain rfl : j = i := by omega
      rw [hx] at hz; cases hz
      rw [hk] at hk'; cases hk'
      exact ⟨hr, hn⟩⟩
/-- All looked at: no way reads it. -/
theorem Bf.done {P : List B} {r : Nat} {st : Pc} {seen : List Pc} (h : Bf P r st seen seen.length) : ¬ At P r st := fun hA => by
  have key : ∀ x, At P r x → x ∉ seen := fun x hx => by
    induction hx with
    | @read x k hk hr =>
      intro hm
      obtain ⟨j, hj, e⟩ := List.getElem_of_mem hm
      have := (h.cl j hj x (by rw [List.getElem?_eq_getElem hj, e]) k hk).1
      rw [hr] at this; cases this
    | @step x y k hk hw hy _ ih =>
      intro hm
      obtain ⟨j, hj, e⟩ := List.getElem_of_mem hm
      exact ih ((h.cl j hj x (by rw [List.getElem?_eq_getElem hj, e]) k hk).2 hw y hy)
  exact key st hA h.has
end Go.Proofs.YtlinekpaffgcjaaDoor.Lv
