/- Sets of registers as numbers of 32 bits: what is ahead of an operation and of a list, bit for bit; sets that grow; how many places there are. Plain mathematics. Conditions: none. -/
import Derived.Test.YtlinekpaffgcjaaDoorLv
namespace Go.Proofs.YtlinekpaffgcjaaDoor.Lv

/-- A register taken out, put in. -/
def clr (x d : Nat) : Nat := x &&& (4294967295 - 2 ^ d)
def put (x d : Nat) : Nat := x ||| 2 ^ d
theorem bit32 {x i : Nat} (h : x < 4294967296) (hi : 32 ≤ i) : x.testBit i = false :=
  Nat.testBit_lt_two_pow (Nat.lt_of_lt_of_le (show x < 2 ^ 32 from h) (Nat.pow_le_pow_right (n := 2) (by decide) hi))
theorem lt32 {x : Nat} (h : ∀ i, 32 ≤ i → x.testBit i = false) : x < 4294967296 := Nat.lt_pow_two_of_testBit (n := 32) x h
theorem pow32 {d : Nat} (h : d < 32) : 2 ^ d < 4294967296 := Nat.pow_lt_pow_right (a := 2) (n := 32) (by decide) h
theorem put_bit (x d i : Nat) : (put x d).testBit i = (x.testBit i || decide (d = i)) := by
  rw [put, Nat.testBit_or, Nat.testBit_two_pow]
theorem clr_bit {x d : Nat} (hx : x < 4294967296) (hd : d < 32) (i : Nat) : (clr x d).testBit i = (x.testBit i && !decide (d = i)) := by
  have hm := pow32 hd
  rw [clr, Nat.testBit_and, show 4294967295 - 2 ^ d = 2 ^ 32 - (2 ^ d + 1) by omega, Nat.testBit_two_pow_sub_succ hm, Nat.testBit_two_pow]
  by_cases hi : i < 32
  · simp [hi]
  · simp [bit32 hx (by omega : 32 ≤ i)]
theorem put_lt {x d : Nat} (hx : x < 4294967296) (hd : d < 32) : put x d < 4294967296 := Nat.or_lt_two_pow (n := 32) hx (pow32 hd)
theorem clr_lt {x : Nat} (d : Nat) (hx : x < 4294967296) : clr x d < 4294967296 := Nat.lt_of_le_of_lt Nat.and_le_left hx
theorem eq32 {x y : Nat} (hx : x < 4294967296) (hy : y < 4294967296) (h : ∀ i, i < 32 → x.testBit i = y.testBit i) : x = y :=
  Nat.eq_of_testBit_eq fun i => by
    rcases Nat.lt_or_ge i 32 with g | g
    · exact h i g
    · rw [bit32 hx g, bit32 hy g]

/-- All registers that are named are below 32. -/
def Small (o : W) : Prop := (∀ r ∈ o.rd, r < 32) ∧ ∀ d, o.wr = some d → d < 32
def wipe (o : W) (x : Nat) : Nat := match o.wr with
  | some d => clr x d
  | none => x
def aheadN (o : W) (x : Nat) : Nat := o.rd.foldl put (wipe o x)
def aheadNL : List W → Nat → Nat
  | [], x => x
  | o :: l, x => aheadN o (aheadNL l x)
theorem wipe_lt {o : W} {x : Nat} (hx : x < 4294967296) : wipe o x < 4294967296 := by
  unfold wipe; split
  · exact clr_lt _ hx
  · exact hx
theorem fold_bit (l : List Nat) (x i : Nat) : (l.foldl put x).testBit i = (x.testBit i || l.contains i) := by
  induction l generalizing x with
  | nil => simp
  | cons a l ih =>
    rw [List.foldl_cons, ih, put_bit, List.contains_cons, Bool.or_assoc]
    congr 2
    rw [Bool.eq_iff_iff, decide_eq_true_iff, beq_iff_eq]
    exact eq_comm
theorem fold_lt {l : List Nat} {x : Nat} (hx : x < 4294967296) (hl : ∀ r ∈ l, r < 32) : l.foldl put x < 4294967296 := by
  induction l generalizing x with
  | nil => exact hx
  | cons a l ih => exact ih (put_lt hx (hl a List.mem_cons_self)) fun r hr => hl r (List.mem_cons_of_mem _ hr)
theorem wipe_bit {o : W} {x : Nat} (hx : x < 4294967296) (ho : Small o) (i : Nat) : (wipe o x).testBit i = (x.testBit i && o.wr != some i) := by
  unfold wipe
  cases h : o.wr with
  | none => simp
  | some d =>
    dsimp only
    rw [clr_bit hx (ho.2 d h)]
    congr 1
theorem aheadN_bit {o : W} {x : Nat} (hx : x < 4294967296) (ho : Small o) (i : Nat) : (aheadN o x).testBit i = aheadO o x.testBit i := by
  rw [aheadN, fold_bit, wipe_bit hx ho, aheadO, Bool.or_comm]
theorem aheadN_lt {o : W} {x : Nat} (hx : x < 4294967296) (ho : Small o) : aheadN o x < 4294967296 := fold_lt (wipe_lt hx) ho.1
theorem aheadNL_lt {l : List W} {x : Nat} (hx : x < 4294967296) (hl : ∀ o ∈ l, Small o) : aheadNL l x < 4294967296 := by
  induction l with
  | nil => exact hx
  | cons o l ih => exact aheadN_lt (ih fun o ho => hl o (List.mem_cons_of_mem _ ho)) (hl o List.mem_cons_self)
theorem aheadNL_bit {l : List W} {x : Nat} (hx : x < 4294967296) (hl : ∀ o ∈ l, Small o) (i : Nat) : (aheadNL l x).testBit i = aheadL l x.testBit i := by
  induction l generalizing i with
  | nil => rfl
  | cons o l ih =>
    have hs := fun o ho => hl o (List.mem_cons_of_mem _ ho)
    rw [aheadNL, aheadN_bit (aheadNL_lt hx hs) (hl o List.mem_cons_self), aheadL]
    simp only [aheadO, ih hs]
theorem aheadNL_drop (l : List W) (x : Nat) {i : Nat} (h : i < l.length) : aheadNL (l.drop i) x = aheadN l[i] (aheadNL (l.drop (i + 1)) x) := by
  rw [List.drop_eq_getElem_cons h]; rfl
/-- A loop's set. -/
def loopN (body : List W) (x : Nat) : Nat := x ||| aheadNL body x
theorem loopN_lt {l : List W} {x : Nat} (hx : x < 4294967296) (hl : ∀ o ∈ l, Small o) : loopN l x < 4294967296 := Nat.or_lt_two_pow (n := 32) hx (aheadNL_lt hx hl)
theorem loopN_bit {l : List W} {x : Nat} (hx : x < 4294967296) (hl : ∀ o ∈ l, Small o) (i : Nat) : (loopN l x).testBit i = loopX l x.testBit i := by
  rw [loopN, Nat.testBit_or, aheadNL_bit hx hl, loop_first]
theorem loopN_again {l : List W} {x : Nat} (hx : x < 4294967296) (hl : ∀ o ∈ l, Small o) : loopN l (loopN l x) = loopN l x :=
  Nat.eq_of_testBit_eq fun i => by
    rw [loopN_bit (loopN_lt hx hl) hl, loopN_bit hx hl]
    simp only [loopX, loopN_bit hx hl]
    cases x.testBit i <;> cases gen l i <;> rfl
/-- Sets grow as numbers do. -/
theorem grow (x y : Nat) : x ≤ x ||| y := Nat.left_le_or
theorem grow_lt {x y : Nat} (h : x ||| y ≠ x) : x < x ||| y := by have := grow x y; omega

/-- What is left to grow. -/
def left (xs : List Nat) : Nat := (xs.map fun x => 4294967296 - x).sum
theorem left_set {xs : List Nat} {i y : Nat} (hi : i < xs.length) (h : xs[i] < y) (hy : y < 4294967296) : left (xs.set i y) < left xs := by
  induction xs generalizing i with
  | nil => simp at hi
  | cons x xs ih =>
    cases i with
    | zero => simp only [List.set_cons_zero, left, List.map_cons, List.sum_cons, List.getElem_cons_zero] at *; omega
    | succ i =>
      have := ih (i := i) (by simpa using hi) (by simpa using h)
      simp only [List.set_cons_succ, left, List.map_cons, List.sum_cons] at *; omega

/-- So many numbers below n, none twice, are no more than n. -/
theorem few {l : List Nat} {n : Nat} (h : l.Nodup) (hl : ∀ x ∈ l, x < n) : l.length ≤ n := by
  induction n generalizing l with
  | zero =>
    cases l with
    | nil => simp
    | cons a l => exact absurd (hl a List.mem_cons_self) (by omega)
  | succ n ih =>
    by_cases hn : n ∈ l
    · have := ih (h.erase n) fun x hx => by
        have hx' := (h.mem_erase_iff).1 hx
        have := hl x hx'.2
        have := hx'.1
        omega
      rw [List.length_erase_of_mem hn] at this
      omega
    · have := ih h fun x hx => by
        have h1 := hl x hx
        have : x ≠ n := fun e => hn (e ▸ hx)
        omega
      omega
/-- A place's own number. -/
def code (m : Nat) (x : Pc) : Nat := (x.b * 4 + x.part) * m + x.op
theorem code_lt {n m : Nat} {x : Pc} (h1 : x.b < n) (h2 : x.part < 4) (h3 : x.op < m) : code m x < n * 4 * m := by
  unfold code
  have h : (x.b * 4 + x.part + 1) * m ≤ n * 4 * m := Nat.mul_le_mul_right m (by omega)
  rw [Nat.succ_mul] at h
  omega
theorem code_inj {m : Nat} {x y : Pc} (hx : x.op < m) (hy : y.op < m) (px : x.part < 4) (py : y.part < 4) (h : code m x = code m y) : x = y := by
  unfold code at h
  have e1 : x.b * 4 + x.part = y.b * 4 + y.part := by
    have a := congrArg (· / m) h
    have hm : 0 < m := by omega
    simpa [Nat.mul_comm _ m, Nat.mul_add_div hm, Nat.div_eq_of_lt hx, Nat.div_eq_of_lt hy] using a
  obtain ⟨a, b, c⟩ := x
  obtain ⟨a', b', c'⟩ := y
  dsimp only at *
  rw [e1] at h
  have : c = c' := by omega
  have : b = b' := by omega
  have : a = a' := by omega
  subst_vars
  rfl
theorem places {l : List Pc} {n m : Nat} (h : l.Nodup) (hl : ∀ x ∈ l, x.b < n ∧ x.part < 4 ∧ x.op < m) : l.length ≤ n * 4 * m := by
  have := few (l := l.map (code m)) (n := n * 4 * m) (by
    rw [List.Nodup, List.pairwise_map]
    exact h.imp_of_mem fun ha hb hab e => hab (code_inj (hl _ ha).2.2 (hl _ hb).2.2 (hl _ ha).2.1 (hl _ hb).2.1 e)) fun x hx => by
      obtain ⟨y, hy, rfl⟩ := List.mem_map.1 hx
      exact code_lt (hl y hy).1 (hl y hy).2.1 (hl y hy).2.2
  simpa using this
end Go.Proofs.YtlinekpaffgcjaaDoor.Lv
