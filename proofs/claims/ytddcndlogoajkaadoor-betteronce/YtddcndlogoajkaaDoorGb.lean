/- A program gone over once for dead operations: so many dead ones are taken out; if none is, none is left. Plain mathematics. Conditions: said at each. -/
import Derived.Test.YtddcndlogoajkaaDoorGa
namespace Go.Proofs.YtddcndlogoajkaaDoor.L8.Bt
open Go.ChangeShapes Go.WideShapes Go.ChangeAt Go.RowKit
open _root_.Go.Proofs.YtddcndlogoajkaaDoor.L8.Op _root_.Go.Proofs.YtddcndlogoajkaaDoor.L8.So
open _root_.Go.Proofs.YtddcndlogoajkaaDoor.L8.Lv (rdL wOf PsOk W B Live gen keep endGen PB bOf eOf pb_at pb_small IsIn endN endN_lt SmallB)
set_option maxRecDepth 20000

/-- A block without what is dead by these sets. -/
def swx (I : List Nat) (x : Bk) : Bk := { x with ops := (styL x.ops (endN (bOf x) I)).1 }
/-- The first k blocks are gone over. -/
def swP (ps : List Bk) (I : List Nat) (k : Nat) : List Bk := (ps.take k).map (swx I) ++ ps.drop k
theorem swP_zero (ps : List Bk) (I : List Nat) : swP ps I 0 = ps := by simp [swP]
theorem swP_end (ps : List Bk) (I : List Nat) : swP ps I ps.length = ps.map (swx I) := by simp [swP]
theorem swP_len (ps : List Bk) (I : List Nat) (k : Nat) : (swP ps I k).length = ps.length := by
  unfold swP
  rw [List.length_append, List.length_map, List.length_take, List.length_drop]; omega
theorem swP_at (ps : List Bk) (I : List Nat) (k : Nat) (hk : k < ps.length) : (swP ps I k)[k]? = some ps[k] := by
  unfold swP
  rw [List.getElem?_append_right (by rw [List.length_map, List.length_take]; omega), List.length_map, List.length_take, show k - min k ps.length = 0 by omega, List.getElem?_drop]
  simp [List.getElem?_eq_getElem hk]
theorem swP_next (ps : List Bk) (I : List Nat) (k : Nat) (hk : k < ps.length) : swP ps I (k + 1) = (swP ps I k).set k (swx I ps[k]) := by
  unfold swP
  rw [List.take_add_one, List.getElem?_eq_getElem hk, List.drop_eq_getElem_cons hk]
  have hl : ((ps.take k).map (swx I)).length = k := by rw [List.length_map, List.length_take]; omega
  rw [Option.toList_some, List.map_append, List.append_assoc, List.set_append_right _ _ (by omega), hl, Nat.sub_self]
  rfl
section
variable {ps : List Bk} {I : List Nat}
theorem end_bit (hI : IsIn ps I) (hc : ckP ps = 0) (ho : PsOk ps) {i : Nat} (hi : i < ps.length) (r : Nat) : (endN (bOf ps[i]) I).testBit r = true ↔ EndP (PB ps) (bOf ps[i]) r := by
  have hs := pb_small hc ho
  rw [Lv.endN_bit (hs i _ (pb_at hi)) hI.fit, Lv.aheadE_iff]
  unfold EndP
  obtain ⟨h1, h2⟩ := hI.yes hc
  constructor
  · exact Or.imp id fun ⟨t, ht, q⟩ => ⟨t, ht, (Lv.So.done h1 hs h2 t r).1 q⟩
  · exact Or.imp id fun ⟨t, ht, q⟩ => ⟨t, ht, (Lv.So.done h1 hs h2 t r).2 q⟩
theorem end_32 (hI : IsIn ps I) (hc : ckP ps = 0) (ho : PsOk ps) {i : Nat} (hi : i < ps.length) : endN (bOf ps[i]) I < 4294967296 := endN_lt (pb_small hc ho i _ (pb_at hi)) hI.fit
theorem swP_tks (hI : IsIn ps I) (hc : ckP ps = 0) (ho : PsOk ps) : ∀ (k : Nat), k ≤ ps.length → ∃ n, Tks n ps (swP ps I k)
  | 0, _ => ⟨0, (swP_zero ps I).symm⟩
  | k + 1, hk => by
    obtain ⟨n, hn⟩ := swP_tks hI hc ho k (by omega)
    have hk' : k < ps.length := hk
    have hl := swP_len ps I k
    have hk2 : k < (swP ps I k).length := by omega
    have he : (swP ps I k)[k] = ps[k] := Option.some.inj ((List.getElem?_eq_getElem hk2).symm.trans (swP_at ps I k hk'))
    obtain ⟨m, hm⟩ := sty_tls (E := EndP (PB (swP ps I k)) (bOf ps[k])) (end_32 hI hc ho hk') (fun r q => (end_bit hI hc ho hk' r).2 (tks_endP hn _ r q)) ps[k].ops (ho _ (List.getElem_mem hk')).2.1
    have := tls_tks (n := m) hk2 (l := (styL ps[k].ops (endN (bOf ps[k]) I)).1) (by rw [he]; exact hm)
    rw [he] at this
    refine ⟨n + m, ?_⟩
    rw [swP_next ps I k hk']
    exact tks_add hn this
/-- None fell. -/
def Stay (ps : List Bk) (I : List Nat) (k : Nat) : Prop := ∀ (i : Nat) (h : i < ps.length), i < k → (styL ps[i].ops (endN (bOf ps[i]) I)).1.length = ps[i].ops.length
theorem stay_nrm (hI : IsIn ps I) (hc : ckP ps = 0) (ho : PsOk ps) (h : Stay ps I ps.length) : swP ps I ps.length = ps ∧ Nrm ps := by
  have key : ∀ (i : Nat) (hi : i < ps.length), (styL ps[i].ops (endN (bOf ps[i]) I)).1 = ps[i].ops ∧ ∀ m, ¬ Tk (EndP (PB ps) (bOf ps[i])) ps[i].ops m := fun i hi =>
    sty_nrm (end_32 hI hc ho hi) (fun r q => (end_bit hI hc ho hi r).1 q) _ (ho _ (List.getElem_mem hi)).2.1 (h i hi hi)
  constructor
  · rw [swP_end]
    refine List.ext_getElem (by simp) fun i h1 h2 => ?_
    rw [List.getElem_map]
    unfold swx
    rw [(key i h2).1]
  · rintro qs ⟨i, hi, l, ht, -⟩
    exact (key i hi).2 l ht
end
theorem bkN_ops (x : Bk) (l : List O) : bkN { x with ops := l } + x.ops.length = bkN x + l.length := by
  unfold bkN
  simp only; omega
theorem sum_set : ∀ (l : List Nat) (i : Nat) (h : i < l.length) (v : Nat), (l.set i v).sum + l[i] = l.sum + v
  | [], i, h, v => by simp at h
  | a :: l, 0, h, v => by simp; omega
  | a :: l, i + 1, h, v => by
    have := sum_set l i (by simpa using h) v
    simp only [List.set_cons_succ, List.sum_cons, List.getElem_cons_succ]; omega
theorem opsN_set {ps : List Bk} {i : Nat} (hi : i < ps.length) (l : List O) : opsN (ps.set i { ps[i] with ops := l }) + ps[i].ops.length = opsN ps + l.length := by
  rw [opsN_eq, opsN_eq, List.map_set, List.length_set]
  have := sum_set (ps.map bkN) i (by simpa using hi) (bkN { ps[i] with ops := l })
  rw [List.getElem_map] at this
  have h2 : bkN { ps[i] with ops := l } + ps[i].ops.length = bkN ps[i] + l.length := bkN_ops ps[i] l
  omega
theorem opsN_stp {ps qs : List Bk} (h : Stp ps qs) : opsN qs + 1 = opsN ps := by
  obtain ⟨i, hi, l, ht, rfl⟩ := h
  have := opsN_set hi l
  have := (tk_mem ht).2
  omega
theorem bkOk_ops {x : Bk} {n : Nat} (h : BkOk x n) {l : List O} (hl : ∀ o ∈ l, o ∈ x.ops) : BkOk { x with ops := l } n :=
  ⟨⟨h.ok.f0, h.ok.f1, h.ok.a0, h.ok.a1, h.ok.t0, h.ok.t1, h.ok.e0, h.ok.e1⟩, fun o q => h.o o (hl o q), h.b, by have := h.e; unfold endB at this ⊢; exact this⟩
theorem psG_stp {ps qs : List Bk} (h : Stp ps qs) (g : PsG ps) : PsG qs ∧ qs.length = ps.length := by
  have ho := opsN_stp h
  obtain ⟨i, hi, l, ht, rfl⟩ := h
  have hm := (tk_mem ht).1
  refine ⟨⟨by simpa using g.n, by simpa using g.p, by have := g.s; omega, fun x hx => ?_⟩, by simp⟩
  rw [List.length_set]
  rcases List.mem_or_eq_of_mem_set hx with hx | rfl
  · exact g.b x hx
  · exact bkOk_ops (g.b _ (List.getElem_mem hi)) hm
theorem psG_tks : ∀ {n : Nat} {ps qs : List Bk}, Tks n ps qs → PsG ps → PsG qs ∧ qs.length = ps.length ∧ opsN qs + n = opsN ps
  | 0, ps, qs, h, g => by
    have h : ps = qs := h
    subst h
    exact ⟨g, rfl, rfl⟩
  | n + 1, ps, qs, h, g => by
    obtain ⟨c, h1, h2⟩ := h
    obtain ⟨g1, g2⟩ := psG_stp h1 g
    obtain ⟨g3, g4, g5⟩ := psG_tks h2 g1
    have := opsN_stp h1
    exact ⟨g3, g4.trans g2, by omega⟩
/-- What is left, told by a letter. -/
def FinIs (ps qs : List Bk) : Prop := ∀ zs, Fin ps zs → zs = qs
theorem fin_ex (ps : List Bk) : ∃ qs, FinIs ps qs := by
  by_cases h : ∃ qs, Fin ps qs
  · obtain ⟨qs, hq⟩ := h
    exact ⟨qs, fun zs hz => fin_one hz hq⟩
  · exact ⟨[], fun zs hz => absurd ⟨zs, hz⟩ h⟩
theorem fin_here {ps : List Bk} (h : Nrm ps) : Fin ps ps := ⟨h, 0, rfl⟩
theorem swx_len (I : List Nat) (x : Bk) : (swx I x).ops.length ≤ x.ops.length := (sty_mem _ _).2
end Go.Proofs.YtddcndlogoajkaaDoor.L8.Bt
