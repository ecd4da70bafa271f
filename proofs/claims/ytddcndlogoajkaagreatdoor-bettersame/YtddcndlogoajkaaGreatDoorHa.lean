/- A program folded runs as it did: plain mathematics. Conditions: said at each. -/
import Derived.Test.YtddcndlogoajkaaGreatDoorQLy
import Derived.Test.YtddcndlogoajkaaGreatDoorQNa
import Derived.Test.YtddcndlogoajkaaGreatDoorQRg
import Derived.Test.YtddcndlogoajkaaGreatDoorGb
namespace Go.Proofs.YtddcndlogoajkaaGreatDoor.L8.Lv
/-- Behind a round; at an end. -/
def Rest (P : List B) (r : Nat) (k : B) : Prop := (∃ t ∈ k.e.succ, Live P r t) ∨ k.e.isLoop = true ∧ gen k.body r = true
def Ends (P : List B) (r : Nat) (k : B) : Prop := k.e.own r = true ∨ Rest P r k
def Here (P : List B) (r : Nat) (x : Pc) : Prop := ∃ k, P[x.b]? = some k ∧
  ((x.part = 0 ∧ (gen (k.ops.drop x.op) r = true ∨ keep (k.ops.drop x.op) r = true ∧ Ends P r k)) ∨ (x.part = 1 ∧ Ends P r k) ∨ (x.part = 2 ∧ (k.e.isLoop = true → gen (k.body.drop x.op) r = true ∨ keep (k.body.drop x.op) r = true ∧ Rest P r k)) ∨ (x.part ≠ 0 ∧ x.part ≠ 1 ∧ x.part ≠ 2 ∧ (k.e.isLoop = true → Rest P r k)))
theorem gen_drop {l : List W} {i r : Nat} (h : i < l.length) : gen (l.drop i) r = (l[i].rd.contains r || (gen (l.drop (i + 1)) r && l[i].wr != some r)) := by rw [List.drop_eq_getElem_cons h]; rfl
theorem keep_drop {l : List W} {i r : Nat} (h : i < l.length) : keep (l.drop i) r = (l[i].wr != some r && keep (l.drop (i + 1)) r) := by rw [List.drop_eq_getElem_cons h]; rfl
theorem live_of {P : List B} {r b : Nat} {k : B} (hk : P[b]? = some k) (h : gen k.ops r = true ∨ keep k.ops r = true ∧ Ends P r k) : Live P r b := by
  rcases h with h | ⟨h, g | ⟨t, ht, g⟩ | ⟨g, g'⟩⟩
  · exact .here hk (.inl h)
  · exact .here hk (.inr ⟨h, by simp [endGen, g]⟩)
  · exact .step hk h ht g
  · exact .here hk (.inr ⟨h, by simp [endGen, g, g']⟩)
theorem live_here {P : List B} {r t : Nat} (h : Here P r ⟨t, 0, 0⟩) : Live P r t := by
  obtain ⟨k, hk, h⟩ := h
  simp only [List.drop_zero, true_and] at h
  rcases h with h | h | h | h
  · exact live_of hk h
  · exact absurd h.1 (by decide)
  · exact absurd h.1 (by decide)
  · exact absurd rfl h.1
/-- A list's part of Here: one operation further. -/
theorem list_step {l : List W} {i r : Nat} {Q : Prop} (h : i < l.length) (hw : (l[i].wr == some r) = false) (g : gen (l.drop (i + 1)) r = true ∨ keep (l.drop (i + 1)) r = true ∧ Q) : gen (l.drop i) r = true ∨ keep (l.drop i) r = true ∧ Q := by
  have hn : (l[i].wr != some r) = true := by simp only [bne, hw, Bool.not_false]
  rcases g with g | ⟨g, q⟩
  · exact .inl (by rw [gen_drop h, g, hn]; simp)
  · exact .inr ⟨by rw [keep_drop h, g, hn]; rfl, q⟩
theorem list_read {l : List W} {i r : Nat} {o : W} (h : l[i]? = some o) (ho : o.rd.contains r = true) : gen (l.drop i) r = true := by
  obtain ⟨hi, e⟩ := List.getElem?_eq_some_iff.1 h
  rw [gen_drop hi, e, ho]; rfl
theorem list_end {l : List W} {i r : Nat} {Q : Prop} (h : ¬ i < l.length) (q : Q) : gen (l.drop i) r = true ∨ keep (l.drop i) r = true ∧ Q :=
  .inr ⟨by rw [List.drop_eq_nil_of_le (by omega)]; rfl, q⟩
theorem rest_of {P : List B} {r b : Nat} {k : B} {y : Pc} (hk : P[b]? = some k) (hy : y ∈ nextE b k.e) (h : Here P r y) : Rest P r k := by
  have two : y = ⟨b, 2, 0⟩ → k.e.isLoop = true → Rest P r k := fun e hl => by
    subst e
    obtain ⟨k', hk', h⟩ := h
    dsimp only at hk' h
    rw [hk] at hk'; cases hk'
    rcases h with h | h | h | h
    · exact absurd h.1 (by decide)
    · exact absurd h.1 (by decide)
    · rcases h.2 hl with g | g
      · exact .inr ⟨hl, g⟩
      · exact g.2
    · exact absurd rfl h.2.2.1
  have hto : ∀ t, y = ⟨t, 0, 0⟩ → t ∈ k.e.succ → Rest P r k := fun t e ht => .inl ⟨t, ht, live_here (e ▸ h)⟩
  cases he : k.e with
  | jump t => rw [he] at hy hto; simp only [nextE, List.mem_singleton] at hy; exact hto t hy (by simp [E.succ])
  | branch a t e =>
    rw [he] at hy hto; simp only [nextE, List.mem_cons, List.not_mem_nil, or_false] at hy
    rcases hy with hy | hy
    · exact hto t hy (by simp [E.succ])
    · exact hto e hy (by simp [E.succ])
  | halt a => rw [he] at hy; simp [nextE] at hy
  | loop a t =>
    rw [he] at hy hto two; simp only [nextE, List.mem_cons, List.not_mem_nil, or_false] at hy
    rcases hy with hy | hy
    · exact two hy rfl
    · exact hto t hy (by simp [E.succ])
theorem here_of {P : List B} {r : Nat} {x : Pc} (h : At P r x) : Here P r x := by
  induction h with
  | @read x k hk h =>
    refine ⟨k, hk, ?_⟩
    obtain ⟨b, part, op⟩ := x
    by_cases h0 : part = 0
    · subst h0
      refine .inl ⟨rfl, .inl ?_⟩
      simp only [readAt, listOf, true_or, if_true, show ¬ (0 : Nat) = 2 from by decide, if_false] at h
      cases ho : k.ops[op]? with
      | none => rw [ho] at h; cases h
      | some o => rw [ho] at h; exact list_read ho h
    · by_cases h2 : part = 2
      · subst h2
        refine .inr (.inr (.inl ⟨rfl, fun _ => .inl ?_⟩))
        simp only [readAt, listOf, or_true, if_true] at h
        cases ho : k.body[op]? with
        | none => rw [ho] at h; cases h
        | some o => rw [ho] at h; exact list_read ho h
      · simp only [readAt, h0, h2, or_self, if_false, Bool.and_eq_true, beq_iff_eq] at h
        exact .inr (.inl ⟨h.1, .inl h.2⟩)
  | @step x y k hk hw hy _ ih =>
    refine ⟨k, hk, ?_⟩
    obtain ⟨b, part, op⟩ := x
    by_cases h0 : part = 0
    · subst h0
      refine .inl ⟨rfl, ?_⟩
      simp only [next, wroteAt, listOf, true_or, if_true, show ¬ (0 : Nat) = 2 from by decide, if_false] at hy hw
      by_cases hl : op < k.ops.length
      · simp only [hl, if_true, List.mem_singleton] at hy
        rw [List.getElem?_eq_getElem hl] at hw
        subst hy
        obtain ⟨k', hk', g⟩ := ih
        dsimp only at hk hk' g
        rw [hk] at hk'; cases hk'
        refine list_step hl hw ?_
        rcases g with g | g | g | g
        · exact g.2
        · exact absurd g.1 (by decide)
        · exact absurd g.1 (by decide)
        · exact absurd rfl g.1
      · simp only [hl, if_false, List.mem_singleton] at hy
        subst hy
        obtain ⟨k', hk', g⟩ := ih
        dsimp only at hk hk' g
        rw [hk] at hk'; cases hk'
        refine list_end hl ?_
        rcases g with g | g | g | g
        · exact absurd g.1 (by decide)
        · exact g.2
        · exact absurd g.1 (by decide)
        · exact absurd rfl g.2.1
    · by_cases h2 : part = 2
      · subst h2
        refine .inr (.inr (.inl ⟨rfl, fun hlp => ?_⟩))
        simp only [next, wroteAt, listOf, or_true, if_true] at hy hw
        by_cases hl : op < k.body.length
        · simp only [hl, if_true, List.mem_singleton] at hy
          rw [List.getElem?_eq_getElem hl] at hw
          subst hy
          obtain ⟨k', hk', g⟩ := ih
          dsimp only at hk hk' g
          rw [hk] at hk'; cases hk'
          refine list_step hl hw ?_
          rcases g with g | g | g | g
          · exact absurd g.1 (by decide)
          · exact absurd g.1 (by decide)
          · exact g.2 hlp
          · exact absurd rfl g.2.2.1
        · simp only [hl, if_false, List.mem_singleton] at hy
          subst hy
          obtain ⟨k', hk', g⟩ := ih
          dsimp only at hk hk' g
          rw [hk] at hk'; cases hk'
          refine list_end hl ?_
          rcases g with g | g | g | g
          · exact absurd g.1 (by decide)
          · exact absurd g.1 (by decide)
          · exact absurd g.1 (by decide)
          · exact g.2.2.2 hlp
      · simp only [next, h0, h2, or_self, if_false] at hy
        have hr := rest_of hk hy ih
        by_cases h1 : part = 1
        · exact .inr (.inl ⟨h1, .inr hr⟩)
        · exact .inr (.inr (.inr ⟨h0, h1, h2, fun _ => hr⟩))
end Go.Proofs.YtddcndlogoajkaaGreatDoor.L8.Lv
namespace Go.Proofs.YtddcndlogoajkaaGreatDoor.L8.Sm
open Go.ChangeShapes Go.WideShapes Go.ChangeAt Go.RowKit
open _root_.Go.Proofs.YtddcndlogoajkaaGreatDoor.L8.Op
open _root_.Go.Proofs.YtddcndlogoajkaaGreatDoor.L8.Lv (PB bOf eOf wOf rdL Pc pb_at listOf nextE)
set_option maxRecDepth 20000

theorem ok_kind {o : O} (h : okP o = true) : ∃ (n : Nat) (hn : n < 24), o.op = n ∧ 1 ≤ n ∧ n ≤ 17 ∧ kOf o.op = some (kindL[n]'hn) ∧ okF (kindL[n]'hn) o = true := by
  have hM := h
  unfold okP okO at h
  simp only [Bool.and_eq_true, decide_eq_true_eq] at h
  obtain ⟨⟨h1, h17⟩, h2⟩ := h
  split at h2
  · rename_i k hk
    obtain ⟨n, hn, e, rfl⟩ := kOf_some hk
    exact ⟨n, hn, e, by omega, by omega, hk, h2⟩
  · cases h2
theorem kinds : ∀ n : Fin 24, 1 ≤ n.val → n.val ≤ 17 → ((kindL[n.val]'(n.isLt)).A = decide (2 ≤ n.val)) ∧ ((kindL[n.val]'(n.isLt)).B = decide (¬ (n.val = 1 ∨ n.val = 11 ∨ n.val = 15 ∨ n.val = 17))) ∧ ((kindL[n.val]'(n.isLt)).D = decide (n.val ≤ 15)) := by decide
theorem rd_a {o : O} (h : okP o = true) (h2 : 2 ≤ o.op) : o.a.toNat ∈ rdL o := by
  obtain ⟨n, hn, e, n1, n17, hk, hf⟩ := ok_kind h
  obtain ⟨kA, -, -⟩ := kinds ⟨n, hn⟩ n1 n17
  simp only at kA
  have kA : (kindL[n]'hn).A = true := by rw [kA]; exact decide_eq_true (by omega)
  unfold _root_.Go.Proofs.YtddcndlogoajkaaGreatDoor.L8.Lv.rdL
  rw [hk]
  simp only [hf, kA, Bool.and_self, if_true]
  split <;> simp
theorem rd_b {o : O} (h : okP o = true) (h2 : ¬ (o.op = 1 ∨ o.op = 11 ∨ o.op = 15 ∨ o.op = 17)) : o.b.toNat ∈ rdL o := by
  obtain ⟨n, hn, e, n1, n17, hk, hf⟩ := ok_kind h
  obtain ⟨kA, kB, -⟩ := kinds ⟨n, hn⟩ n1 n17
  simp only at kA kB
  have kA : (kindL[n]'hn).A = true := by rw [kA]; exact decide_eq_true (by omega)
  have kB : (kindL[n]'hn).B = true := by rw [kB]; exact decide_eq_true (by omega)
  unfold _root_.Go.Proofs.YtddcndlogoajkaaGreatDoor.L8.Lv.rdL
  rw [hk]
  simp only [hf, kA, kB, Bool.and_self, if_true, Bool.true_and]
  split
  · simp
  · rename_i q
    have q : o.a = o.b := by simpa using q
    rw [q]; simp
theorem wr_is {o : O} (h : okP o = true) : (wOf o).wr = if o.op ≤ 15 then some o.d.toNat else none := by
  obtain ⟨n, hn, e, n1, n17, hk, hf⟩ := ok_kind h
  obtain ⟨-, -, kD⟩ := kinds ⟨n, hn⟩ n1 n17
  simp only at kD
  show (if wrB o then some o.d.toNat else none) = _
  rw [wr_yes hk hf, kD]
  by_cases q : n ≤ 15
  · rw [if_pos (decide_eq_true q), if_pos (by omega)]
  · rw [if_neg (by simpa using q), if_neg (by omega)]
def pt (y : Bool) : Nat := if y then 2 else 0
theorem pt_or (y : Bool) : pt y = 0 ∨ pt y = 2 := by cases y <;> simp [pt]
theorem listOf_pt (x : Bk) (y : Bool) : listOf (bOf x) (pt y) = (lst x y).map wOf := by cases y <;> rfl
section
variable {ps : List Bk} {b o r : Nat} {y : Bool} {op : O}
theorem la_read (hb : b < ps.length) (ho : (lst ps[b] y)[o]? = some op) (hr : r ∈ rdL op) : _root_.Go.Proofs.YtddcndlogoajkaaGreatDoor.L8.Lv.At (PB ps) r ⟨b, pt y, o⟩ := by
  refine .read (k := bOf ps[b]) (pb_at hb) ?_
  unfold _root_.Go.Proofs.YtddcndlogoajkaaGreatDoor.L8.Lv.readAt
  rw [if_pos (pt_or y)]
  simp only [listOf_pt, List.getElem?_map, ho, Option.map_some]
  simpa [_root_.Go.Proofs.YtddcndlogoajkaaGreatDoor.L8.Lv.wOf] using hr
theorem la_next (hb : b < ps.length) (ho : (lst ps[b] y)[o]? = some op) (hw : (wOf op).wr ≠ some r) (h : _root_.Go.Proofs.YtddcndlogoajkaaGreatDoor.L8.Lv.At (PB ps) r ⟨b, pt y, o + 1⟩) : _root_.Go.Proofs.YtddcndlogoajkaaGreatDoor.L8.Lv.At (PB ps) r ⟨b, pt y, o⟩ := by
  refine .step (k := bOf ps[b]) (y := ⟨b, pt y, o + 1⟩) (pb_at hb) ?_ ?_ h
  · unfold _root_.Go.Proofs.YtddcndlogoajkaaGreatDoor.L8.Lv.wroteAt
    rw [if_pos (pt_or y)]
    simp only [listOf_pt, List.getElem?_map, ho, Option.map_some]
    simpa using hw
  · unfold _root_.Go.Proofs.YtddcndlogoajkaaGreatDoor.L8.Lv.next
    rw [if_pos (pt_or y), listOf_pt, List.length_map, if_pos (List.getElem?_eq_some_iff.1 ho).1]
    simp
theorem la_part (hb : b < ps.length) (ho : (lst ps[b] y).length = o) (h : _root_.Go.Proofs.YtddcndlogoajkaaGreatDoor.L8.Lv.At (PB ps) r ⟨b, pt y + 1, 0⟩) : _root_.Go.Proofs.YtddcndlogoajkaaGreatDoor.L8.Lv.At (PB ps) r ⟨b, pt y, o⟩ := by
  refine .step (k := bOf ps[b]) (y := ⟨b, pt y + 1, 0⟩) (pb_at hb) ?_ ?_ h
  · unfold _root_.Go.Proofs.YtddcndlogoajkaaGreatDoor.L8.Lv.wroteAt
    rw [if_pos (pt_or y)]
    simp only [listOf_pt, List.getElem?_map]
    rw [List.getElem?_eq_none (by omega)]
    rfl
  · unfold _root_.Go.Proofs.YtddcndlogoajkaaGreatDoor.L8.Lv.next
    rw [if_pos (pt_or y), listOf_pt, List.length_map, if_neg (by simp only; omega)]
    simp
theorem la_own (hb : b < ps.length) (ho : ps[b].ops.length = o) (h : (eOf ps[b]).own r = true) : _root_.Go.Proofs.YtddcndlogoajkaaGreatDoor.L8.Lv.At (PB ps) r ⟨b, pt false, o⟩ := by
  refine la_part hb ho ?_
  refine .read (k := bOf ps[b]) (pb_at hb) ?_
  unfold _root_.Go.Proofs.YtddcndlogoajkaaGreatDoor.L8.Lv.readAt
  rw [if_neg (by simp [pt])]
  simpa [pt, _root_.Go.Proofs.YtddcndlogoajkaaGreatDoor.L8.Lv.bOf] using h
theorem la_turn (hb : b < ps.length) (ho : (lst ps[b] y).length = o) {z : Pc} (hz : z ∈ nextE b (eOf ps[b])) (h : _root_.Go.Proofs.YtddcndlogoajkaaGreatDoor.L8.Lv.At (PB ps) r z) : _root_.Go.Proofs.YtddcndlogoajkaaGreatDoor.L8.Lv.At (PB ps) r ⟨b, pt y, o⟩ := by
  refine la_part hb ho ?_
  refine .step (k := bOf ps[b]) (y := z) (pb_at hb) ?_ ?_ h
  · unfold _root_.Go.Proofs.YtddcndlogoajkaaGreatDoor.L8.Lv.wroteAt
    rw [if_neg (by cases y <;> simp [pt])]
  · unfold _root_.Go.Proofs.YtddcndlogoajkaaGreatDoor.L8.Lv.next
    rw [if_neg (by cases y <;> simp [pt])]
    exact hz
end
/-- What an operation makes hangs on what it reads. -/
theorem val_same {o : O} (h : okP o = true) (hM : OkM o) {M M' : Ma} (hm : M'.m = M.m) (hr : ∀ r ∈ rdL o, M.r r = M'.r r) : valO o M' = valO o M ∧ trapO o M' = trapO o M := by
  have hop := hM.op
  constructor
  · unfold valO
    by_cases h1 : o.op = 1
    · rw [if_pos h1, if_pos h1]
    · have ea := hr _ (rd_a h (by omega))
      rw [if_neg h1, if_neg h1]
      by_cases h15 : o.op = 15
      · rw [if_pos h15, if_pos h15, hm, ea]
      · rw [if_neg h15, if_neg h15]
        by_cases h16 : o.op = 16
        · rw [if_pos h16, if_pos h16, hr _ (rd_b h (by omega))]
        · rw [if_neg h16, if_neg h16]
          by_cases h17 : o.op = 17
          · rw [if_pos h17, if_pos h17, ea]
          · rw [if_neg h17, if_neg h17]
            by_cases h11 : o.op = 11
            · have hv : ∀ x y z : Int, rkV o.op x y = rkV o.op x z := fun x y z => by
                unfold rkV
                simp [h11]
              rw [ea]
              exact hv _ _ _
            · rw [ea, hr _ (rd_b h (by omega))]
  · unfold trapO
    by_cases h13 : o.op = 13 ∨ o.op = 14
    · rw [hr _ (rd_b h (by omega))]
    · simp [h13]
end Go.Proofs.YtddcndlogoajkaaGreatDoor.L8.Sm
namespace Go.Proofs.YtddcndlogoajkaaGreatDoor.L8.Bt
open Go.ChangeShapes Go.WideShapes Go.ChangeAt Go.RowKit
open _root_.Go.Proofs.YtddcndlogoajkaaGreatDoor.L8.Op _root_.Go.Proofs.YtddcndlogoajkaaGreatDoor.L8.So
open _root_.Go.Proofs.YtddcndlogoajkaaGreatDoor.L8.Lv (rdL wOf PsOk)
open _root_.Go.Proofs.YtddcndlogoajkaaGreatDoor.L8.Sm (Ma Inv PsM BkM OkM runM stepM nextM trapB trapO opM valO landO endM toM rndM lst listM upd rd_a rd_b wr_is initM run_over listM_at)
set_option maxRecDepth 20000

theorem fdL_at : ∀ (K : Kn) (l : List O) (i : Nat), (fdL K l)[i]? = (l[i]?).map (fdO (fdK K (l.take i)))
  | _, [], i => by simp [fdL]
  | K, o :: l, 0 => by simp [fdL, fdK]
  | K, o :: l, i + 1 => by
    have := fdL_at (ntO K (fdO K o)) l i
    simpa [fdL, fdK] using this
theorem wr_dec {o : O} (h : okP o = true) : wrB o = decide (o.op ≤ 15) := by
  have h1 := wr_is h
  have h2 : (wOf o).wr = if wrB o then some o.d.toNat else none := rfl
  rw [h2] at h1
  by_cases q : o.op ≤ 15
  · rw [if_pos q] at h1
    rw [decide_eq_true q]
    cases e : wrB o
    · rw [e] at h1; simp at h1
    · rfl
  · rw [if_neg q] at h1
    rw [decide_eq_false q]
    cases e : wrB o
    · rfl
    · rw [e] at h1; simp at h1
section
variable {K : Kn} {o : O} {M : Ma}
theorem fd_num (hK : ∀ (r : Nat) v, K r = some v → M.r r = v) (ha : allK K (rdL o) = true) : ∀ r ∈ rdL o, (K r).getD 0 = M.r r := fun r hr => by
  have := List.all_eq_true.1 ha r hr
  cases e : K r with
  | none => rw [e] at this; cases this
  | some v => exact (hK r v e).symm
theorem land_reg (v : Int) (h : o.op ≤ 15) : landO o v M = { M with r := upd M.r o.d.toNat v } := by
  unfold Sm.landO
  rw [if_neg (by omega), if_neg (by omega)]
/-- One operation, folded: it does the same, and what is known behind it holds. -/
theorem fd_op (hK : ∀ (r : Nat) v, K r = some v → M.r r = v) (hk : okP o = true) (ho : o.Ok) (hM : OkM o) :
    trapO (fdO K o) M = trapO o M ∧ opM (fdO K o) M = opM o M ∧ ∀ (r : Nat) v, ntO K (fdO K o) r = some v → (opM o M).r r = v := by
  by_cases hb : fdB K o = true
  · have e : fdO K o = cst o.d (rkV o.op (numK K o.a) (numK K o.b)) := by unfold fdO; rw [if_pos hb]
    have hb2 := hb
    unfold fdB at hb2
    simp only [Bool.and_eq_true, decide_eq_true_eq] at hb2
    obtain ⟨⟨hall, hrk⟩, hok⟩ := hb2
    have hnum := fd_num hK hall
    have hop : 2 ≤ o.op ∧ o.op ≤ 14 := by
      unfold rkE at hrk
      split at hrk
      · omega
      · split at hrk
        · omega
        · omega
    have ea : numK K o.a = M.r o.a.toNat := hnum _ (rd_a hk (by omega))
    have eb : o.op ≠ 11 → numK K o.b = M.r o.b.toNat := fun q => hnum _ (rd_b hk (by omega))
    have ev : rkV o.op (numK K o.a) (numK K o.b) = valO o M := by
      unfold Sm.valO
      rw [if_neg (by omega), if_neg (by omega), if_neg (by omega), if_neg (by omega), ea]
      by_cases q : o.op = 11
      · unfold rkV
        simp [q]
      · rw [eb q]
    have ht : trapO o M = false := by
      unfold Sm.trapO
      refine decide_eq_false fun q => ?_
      have h3 := eb (by omega)
      unfold rkE at hrk
      rw [if_neg (by omega), if_pos q.1, if_pos (h3.trans q.2)] at hrk
      omega
    have hc := cst_ok (o := o) hok ho rfl
    rw [e, ev]
    rw [ev] at hc
    generalize hV : valO o M = V at *
    have hw : wrB (cst o.d V) = true := by rw [wr_dec hc.2]; rfl
    have e1 : opM (cst o.d V) M = opM o M := by
      unfold Sm.opM
      rw [hV, land_reg V (by omega), show valO (cst o.d V) M = V by simp [Sm.valO, cst], land_reg (o := cst o.d V) V (by simp [cst])]
      rfl
    refine ⟨by rw [ht]; simp [Sm.trapO, cst], e1, fun r v q => ?_⟩
    have e2 : (opM o M).r = upd M.r o.d.toNat V := by
      unfold Sm.opM
      rw [hV, land_reg V (by omega)]
    rw [e2]
    unfold ntO at q
    rw [if_pos hw] at q
    unfold putK at q
    unfold Sm.upd
    have hd : (cst o.d V).d.toNat = o.d.toNat := rfl
    rw [hd] at q
    by_cases er : r = o.d.toNat
    · rw [if_pos er] at q ⊢
      have : some V = some v := by simpa [cst] using q
      exact Option.some.inj this
    · rw [if_neg er] at q ⊢
      exact hK r v q
  · have e : fdO K o = o := by unfold fdO; rw [if_neg hb]
    rw [e]
    refine ⟨rfl, rfl, fun r v q => ?_⟩
    unfold ntO at q
    rw [wr_dec hk] at q
    by_cases h15 : o.op ≤ 15
    · rw [decide_eq_true h15, if_pos rfl] at q
      have e2 : (opM o M).r = upd M.r o.d.toNat (valO o M) := by
        unfold Sm.opM
        rw [land_reg _ h15]
      rw [e2]
      unfold putK at q
      unfold Sm.upd
      by_cases er : r = o.d.toNat
      · rw [if_pos er] at q ⊢
        by_cases h1 : o.op = 1
        · rw [if_pos h1] at q
          unfold Sm.valO
          rw [if_pos h1]
          exact Option.some.inj q
        · rw [if_neg h1] at q; cases q
      · rw [if_neg er] at q ⊢
        exact hK r v q
    · rw [decide_eq_false h15] at q
      simp only [Bool.false_eq_true, if_false] at q
      have := hM.op
      have e2 : (opM o M).r = M.r := by
        unfold Sm.opM Sm.landO
        by_cases h16 : o.op = 16
        · rw [if_pos h16]
        · rw [if_neg h16, if_pos (by omega)]
      rw [e2]
      exact hK r v q
end
/-- What Fold knows holds of the registers. -/
structure Kv (ps : List Bk) (M : Ma) : Prop where
  i : Inv ps M
  k : ∀ (r : Nat) v, fdK kn0 ((listM ps M).take M.o) r = some v → M.r r = v
  y : M.y = true → ∀ (h : M.b < ps.length), ps[M.b].fin = 3
theorem fd_lst {x : Bk} {y : Bool} (h : y = true → x.fin = 3) : lst (fdBk x) y = fdL kn0 (lst x y) := by
  unfold fdBk
  cases y
  · split <;> rfl
  · have := h rfl
    rw [if_neg]
    · rfl
    · simp [brK]; omega
theorem fd_get {ps : List Bk} {b : Nat} (h : b < ps.length) : (fdP ps)[b]? = some (fdBk ps[b]) := by
  unfold fdP
  rw [List.getElem?_map, List.getElem?_eq_getElem h]; rfl
theorem fd_end {x : Bk} {M : Ma} (hK : ∀ (r : Nat) v, fdK kn0 x.ops r = some v → M.r r = v) : endM (fdBk x) M = endM x M := by
  unfold fdBk
  by_cases hb : brK x = true
  · rw [if_pos hb]
    simp only [brK, Bool.and_eq_true, decide_eq_true_eq] at hb
    obtain ⟨h1, h2⟩ := hb
    obtain ⟨v, hv⟩ := Option.isSome_iff_exists.1 h2
    have e := hK _ v hv
    unfold Sm.endM wayK numK
    simp only [h1, hv, Option.getD_some, e]
    simp
  · rw [if_neg hb]
    rfl
theorem kv_step {ps : List Bk} {M : Ma} (hG : PsG ps) (h : Kv ps M) : trapB (fdP ps) M = trapB ps M ∧ (trapB ps M = false → stepM (fdP ps) M = stepM ps M ∧ ((stepM ps M).e = 100 → Kv ps (stepM ps M))) := by
  have hb := h.i.b
  have hP : PsM ps := Sm.psM_of hG.ok hG.ck
  have hx := hG.b _ (List.getElem_mem hb)
  have hxm := hP.2.2 _ (List.getElem_mem hb)
  have hl := listM_at hb
  have hk := h.k
  rw [hl] at hk
  have hls := fd_lst (x := ps[M.b]) (y := M.y) fun q => h.y q hb
  have hge := fd_get hb
  have hlt := h.i.o
  rw [hl] at hlt
  have hinv := Sm.inv_step hP h.i
  cases hop : (lst ps[M.b] M.y)[M.o]? with
  | some o =>
    obtain ⟨hlo, heo⟩ := List.getElem?_eq_some_iff.1 hop
    have hmem : o ∈ lst ps[M.b] M.y := heo ▸ List.getElem_mem hlo
    have hok : o.Ok ∧ okP o = true := by
      unfold Sm.lst at hmem
      split at hmem
      · exact hx.b o hmem
      · exact hx.o o hmem
    have hMo : OkM o := hxm.lst hmem
    obtain ⟨f1, f2, f3⟩ := fd_op hk hok.2 hok.1 hMo
    have hop' : (lst (fdBk ps[M.b]) M.y)[M.o]? = some (fdO (fdK kn0 ((lst ps[M.b] M.y).take M.o)) o) := by
      rw [hls, fdL_at, hop]; rfl
    have n1 : nextM (fdP ps) M = opM (fdO (fdK kn0 ((lst ps[M.b] M.y).take M.o)) o) M ∧ trapB (fdP ps) M = trapO (fdO (fdK kn0 ((lst ps[M.b] M.y).take M.o)) o) M := by
      unfold Sm.nextM Sm.trapB Sm.listM
      rw [hge]
      simp only [hop']
      exact ⟨trivial, trivial⟩
    have n2 : nextM ps M = opM o M ∧ trapB ps M = trapO o M := by
      unfold Sm.nextM Sm.trapB Sm.listM
      rw [List.getElem?_eq_getElem hb]
      simp only [hop]
      exact ⟨trivial, trivial⟩
    refine ⟨by rw [n1.2, n2.2, f1], fun _ => ⟨by unfold Sm.stepM; rw [n1.1, n2.1, f2], fun _ => ⟨hinv, ?_, ?_⟩⟩⟩
    · have es : stepM ps M = { opM o M with s := M.s + 1 } := by unfold Sm.stepM; rw [n2.1]
      have eb : (stepM ps M).b = M.b ∧ (stepM ps M).y = M.y ∧ (stepM ps M).o = M.o + 1 ∧ (stepM ps M).r = (opM o M).r := by
        rw [es]
        unfold Sm.opM Sm.landO
        split
        · exact ⟨rfl, rfl, rfl, rfl⟩
        · split <;> exact ⟨rfl, rfl, rfl, rfl⟩
      obtain ⟨e1, e2, e3, e4⟩ := eb
      have el : listM ps (stepM ps M) = lst ps[M.b] M.y := by
        unfold Sm.listM
        rw [e1, e2, List.getElem?_eq_getElem hb]
      intro r v q
      rw [el, e3, fdK_take kn0 _ M.o hlo, heo] at q
      rw [e4]
      exact f3 r v q
    · intro q hb2
      have es : (stepM ps M).b = M.b ∧ (stepM ps M).y = M.y := by
        unfold Sm.stepM
        rw [n2.1]
        unfold Sm.opM Sm.landO
        split
        · exact ⟨rfl, rfl⟩
        · split <;> exact ⟨rfl, rfl⟩
      rw [es.2] at q
      simp only [es.1]
      exact h.y q hb
  | none =>
    have hno : (lst (fdBk ps[M.b]) M.y)[M.o]? = none := by rw [hls, fdL_at, hop]; rfl
    have n1 : nextM (fdP ps) M = endM (fdBk ps[M.b]) M ∧ trapB (fdP ps) M = false := by
      unfold Sm.nextM Sm.trapB Sm.listM
      rw [hge]
      simp only [hno]
      exact ⟨trivial, trivial⟩
    have n2 : nextM ps M = endM ps[M.b] M ∧ trapB ps M = false := by
      unfold Sm.nextM Sm.trapB Sm.listM
      rw [List.getElem?_eq_getElem hb]
      simp only [hop]
      exact ⟨trivial, trivial⟩
    have hend : endM (fdBk ps[M.b]) M = endM ps[M.b] M := by
      cases hy : M.y with
      | true =>
        have := h.y hy hb
        unfold fdBk
        rw [if_neg (by simp [brK]; omega)]
        rfl
      | false =>
        refine fd_end fun r v q => hk r v ?_
        rw [hy]
        have hlen : (lst ps[M.b] M.y).length ≤ M.o := List.getElem?_eq_none_iff.1 hop
        rw [hy] at hlen
        rw [List.take_of_length_le hlen]
        exact q
    refine ⟨by rw [n1.2, n2.2], fun _ => ⟨by unfold Sm.stepM; rw [n1.1, n2.1, hend], fun he => ⟨hinv, ?_, ?_⟩⟩⟩
    · have es : (stepM ps M).o = 0 ∨ (stepM ps M).e = 0 := by
        unfold Sm.stepM
        rw [n2.1]
        unfold Sm.endM Sm.toM
        split
        · exact .inl rfl
        · split
          · exact .inl rfl
          · split
            · exact .inr rfl
            · split <;> exact .inl rfl
      intro r v q
      rcases es with e0 | e0
      · rw [e0, List.take_zero] at q
        cases q
      · rw [e0] at he; cases he
    · intro q hb2
      have es : (stepM ps M).y = true → (stepM ps M).b = M.b ∧ ps[M.b].fin = 3 := by
        unfold Sm.stepM
        rw [n2.1]
        unfold Sm.endM Sm.toM
        have hf := hxm.fin
        split
        · intro q; cases q
        · split
          · intro q; cases q
          · split
            · intro q
              have := h.y q hb
              omega
            · split
              · intro _; exact ⟨rfl, by omega⟩
              · intro q; cases q
      obtain ⟨e1, e2⟩ := es q
      simp only [e1]; exact e2
theorem fold_run {ps : List Bk} (hG : PsG ps) : ∀ (k : Nat) (M : Ma), (M.e = 100 → Kv ps M) → runM (fdP ps) k M = runM ps k M
  | 0, M, h => by
    by_cases he : M.e = 100
    · obtain ⟨h1, -⟩ := kv_step hG (h he)
      unfold Sm.runM
      rw [h1]
    · rw [run_over he, run_over he]
  | k + 1, M, h => by
    by_cases he : M.e = 100
    · obtain ⟨h1, h2⟩ := kv_step hG (h he)
      show (if M.e = 100 then (if trapB (fdP ps) M then { M with e := 101 } else runM (fdP ps) k (stepM (fdP ps) M)) else M) = (if M.e = 100 then (if trapB ps M then { M with e := 101 } else runM ps k (stepM ps M)) else M)
      rw [if_pos he, if_pos he, h1]
      cases ht : trapB ps M with
      | true => rfl
      | false =>
        obtain ⟨h3, h4⟩ := h2 ht
        rw [h3]
        simp only [Bool.false_eq_true, if_false]
        exact fold_run hG k _ h4
    · rw [run_over he, run_over he]
theorem kv_init {ps : List Bk} (hG : PsG ps) {rs ms : List Int} (hr : ∀ x ∈ rs, Sm.In64 x) (hm : ∀ x ∈ ms, Sm.In64 x) : Kv ps (initM rs ms) :=
  ⟨Sm.inv_init (Sm.psM_of hG.ok hG.ck) hr hm, fun r v q => (by
    have : (initM rs ms).o = 0 := rfl
    rw [this, List.take_zero] at q
    cases q), fun q => by cases q⟩
end Go.Proofs.YtddcndlogoajkaaGreatDoor.L8.Bt
