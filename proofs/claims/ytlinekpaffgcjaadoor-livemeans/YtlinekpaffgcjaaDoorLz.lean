/- Sets that grow out of a list of work, and what a whole program's sets are. Plain mathematics over the program in memory. Conditions: none. -/
import Derived.Test.YtlinekpaffgcjaaDoorLy
import Derived.Test.YtlinekpaffgcjaaDoorTa
namespace Go.Proofs.YtlinekpaffgcjaaDoor.Lv
open _root_.Go.Proofs.YtlinekpaffgcjaaDoor.Op _root_.Go.Proofs.YtlinekpaffgcjaaDoor.Fl

theorem into_mono {k : B} {f g : Nat → Nat → Bool} {r : Nat} (h : ∀ t, f t r = true → g t r = true) (hi : into k f r = true) : into k g r = true := by
  rw [into_iff] at hi ⊢
  rcases hi with h1 | ⟨h1, h2 | ⟨t, ht, h3⟩⟩
  · exact .inl h1
  · exact .inr ⟨h1, .inl h2⟩
  · exact .inr ⟨h1, .inr ⟨t, ht, h t h3⟩⟩
theorem or_sub {x y : Nat} : x ||| y = y ↔ ∀ r, x.testBit r = true → y.testBit r = true := by
  constructor
  · intro h r hr
    have := congrArg (fun z => Nat.testBit z r) h
    simp only [Nat.testBit_or, hr, Bool.true_or] at this
    exact this.symm
  · intro h
    refine Nat.eq_of_testBit_eq fun r => ?_
    rw [Nat.testBit_or]
    cases hx : x.testBit r
    · simp
    · rw [h r hx]; rfl
/-- No block has more than what is asked of it. -/
def Rise (P : List B) (xs : List Nat) : Prop := ∀ (i : Nat) k, P[i]? = some k → inN xs i ||| intoN k xs = intoN k xs
theorem Rise.init (P : List B) (n : Nat) : Rise P (List.replicate n 0) := fun i k _ => by
  have : inN (List.replicate n 0) i = 0 := by
    unfold inN; rw [List.getD_eq_getElem?_getD, List.getElem?_replicate]; split <;> simp
  rw [this]; simp
theorem Rise.set {P : List B} {xs : List Nat} (h : Rise P xs) (hs : ∀ (i : Nat) k, P[i]? = some k → SmallB k) (hf : Fit xs) {i : Nat} {k : B} (hi : i < xs.length) (hk : P[i]? = some k) : Rise P (xs.set i (intoN k xs)) := fun j k' hk' => by
  have hfy : Fit (xs.set i (intoN k xs)) := hf.set (intoN_lt (hs i k hk) hf)
  have up : ∀ t r, bitN xs t r = true → bitN (xs.set i (intoN k xs)) t r = true := fun t r ht => by
    unfold bitN at ht ⊢
    rw [inN_set hi]
    split
    · rename_i e; subst e; exact or_sub.1 (h i k hk) r ht
    · exact ht
  refine or_sub.2 fun r hr => ?_
  rw [intoN_bit (hs j k' hk') hfy]
  rw [inN_set hi] at hr
  split at hr
  · rename_i e
    subst e
    rw [hk] at hk'; cases hk'
    rw [intoN_bit (hs i k hk) hf] at hr
    exact into_mono (fun t => up t r) hr
  · have := or_sub.1 (h j k' hk') r hr
    rw [intoN_bit (hs j k' hk') hf] at this
    exact into_mono (fun t => up t r) this
theorem left_init (n : Nat) : left (List.replicate n 0) = n * 4294967296 := by
  induction n with
  | zero => rfl
  | succ n ih => rw [List.replicate_succ]; simp only [left, List.map_cons, List.sum_cons] at *; omega

/-- All numbers are of their own width. -/
def PsOk (ps : List Bk) : Prop := ∀ x ∈ ps, x.Ok ∧ (∀ o ∈ x.ops, o.Ok) ∧ ∀ o ∈ x.body, o.Ok
theorem psOk_of {w : World} {ao : Option Addr} {ps : List Bk} (h : PAt w ao ps) : PsOk ps := fun x hx => by
  obtain ⟨i, hi, e⟩ := List.getElem_of_mem hx
  obtain ⟨b, f, -, -, hc⟩ := h.is (by omega)
  obtain ⟨p, -, hb⟩ := hc i hi
  rw [e] at hb
  exact ⟨hb.ok, hb.o.ok, hb.b.ok⟩
theorem ck_blocks {ps : List Bk} (h : ckP ps = 0) : ∀ x ∈ ps, ckB x ps.length = 0 := by
  have h' := h
  unfold ckP at h'
  by_cases h1 : 128 < ps.length ∨ 1024 < opsN ps
  · rw [if_pos h1] at h'; omega
  · rw [if_neg h1] at h'
    by_cases h2 : ps.length = 0
    · rw [if_pos h2] at h'; omega
    · rw [if_neg h2] at h'
      exact firstE_all h'
abbrev PB (ps : List Bk) : List B := ps.map bOf
theorem pb_small {ps : List Bk} (hc : ckP ps = 0) (ho : PsOk ps) (i : Nat) (k : B) (hk : (PB ps)[i]? = some k) : SmallB k := by
  rw [List.getElem?_map, Option.map_eq_some_iff] at hk
  obtain ⟨x, hx, rfl⟩ := hk
  have hm := List.mem_of_getElem? hx
  exact smallB_of (end_of (ck_blocks hc x hm)) (ho x hm).1.a0 (ho x hm).2.1 (ho x hm).2.2
theorem pb_at {ps : List Bk} {i : Nat} (h : i < ps.length) : (PB ps)[i]? = some (bOf ps[i]) := by
  rw [List.getElem?_map, List.getElem?_eq_getElem h]; rfl
/-- What is into the blocks: the least sets; none, if it is no program. -/
structure IsIn (ps : List Bk) (xs : List Nat) : Prop where
  yes : ckP ps = 0 → So (PB ps) xs ∧ ∀ (i : Nat) k, (PB ps)[i]? = some k → Shut k xs i
  no : ckP ps ≠ 0 → xs = []
theorem IsIn.same {ps : List Bk} {xs ys : List Nat} (ho : PsOk ps) (h : IsIn ps xs) (g : IsIn ps ys) : xs = ys := by
  by_cases hc : ckP ps = 0
  · exact So.same (pb_small hc ho) (h.yes hc).1 (h.yes hc).2 (g.yes hc).1 (g.yes hc).2
  · rw [h.no hc, g.no hc]
theorem IsIn.len {ps : List Bk} {xs : List Nat} (h : IsIn ps xs) : xs.length = if ckP ps = 0 then ps.length else 0 := by
  by_cases hc : ckP ps = 0
  · rw [if_pos hc, (h.yes hc).1.len]; simp
  · rw [if_neg hc, h.no hc]; rfl
theorem IsIn.fit {ps : List Bk} {xs : List Nat} (h : IsIn ps xs) : Fit xs := by
  by_cases hc : ckP ps = 0
  · exact (h.yes hc).1.fit
  · rw [h.no hc]; intro t; simp [inN]
theorem IsIn.fix {ps : List Bk} {xs : List Nat} (ho : PsOk ps) (h : IsIn ps xs) (hc : ckP ps = 0) {i : Nat} (hi : i < ps.length) : intoN (bOf ps[i]) xs = inN xs i :=
  (h.yes hc).1.fix (pb_small hc ho) (h.yes hc).2 (pb_at hi)
/-- What is ahead of the ends; ahead of an operation. -/
def outL (ps : List Bk) (xs : List Nat) : List Nat := if ckP ps = 0 then ps.map fun x => endN (bOf x) xs else []
def atN (ps : List Bk) (xs : List Nat) (block op : Int) : Nat :=
  if ckP ps = 0 ∧ 0 ≤ block ∧ block < ps.length then
    match ps[block.toNat]? with
    | some x => if 0 ≤ op ∧ op ≤ x.ops.length then aheadNL ((x.ops.drop op.toNat).map wOf) (endN (bOf x) xs) else 0
    | none => 0
  else 0
/-- The end of a block turns to just those blocks. -/
theorem succ_turn (x : Bk) (h : ∃ n : Int, endB x n = true) (t : Nat) : t ∈ (bOf x).e.succ ↔ (t : Int) ∈ turnL x := by
  obtain ⟨n, h⟩ := h
  simp only [bOf, eOf]
  by_cases h0 : x.fin = 0
  · have := end_thn h (by omega)
    rw [if_pos h0]
    unfold turnL
    rw [if_pos (Or.inl h0)]
    simp only [E.succ, List.mem_singleton]; omega
  · rw [if_neg h0]
    by_cases h1 : x.fin = 1
    · have a := end_thn h (by omega)
      have b := end_els h h1
      rw [if_pos h1, turnL_mem x h1]
      simp only [E.succ, List.mem_cons, List.not_mem_nil, or_false]; omega
    · rw [if_neg h1]
      by_cases h2 : x.fin = 2
      · rw [if_pos h2]
        unfold turnL
        rw [if_neg (by omega), if_neg h1]
        simp [E.succ]
      · rw [if_neg h2]
        have h3 : x.fin = 3 := by
          simp only [endB, Bool.and_eq_true, eK, decide_eq_true_eq] at h
          omega
        have := end_thn h (by omega)
        unfold turnL
        rw [if_pos (Or.inr h3)]
        simp only [E.succ, List.mem_singleton]; omega
end Go.Proofs.YtlinekpaffgcjaaDoor.Lv
