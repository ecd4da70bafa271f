/- A program made better (what is known is reckoned), as plain mathematics; folded twice is folded once; what is folded is a program. Conditions: said at each. -/
import Derived.Test.YtddcndlogoajkaaDoorQVa
import Derived.Test.YtddcndlogoajkaaDoorQRk
import Derived.Test.YtddcndlogoajkaaDoorQPk
namespace Go.Proofs.YtddcndlogoajkaaDoor.L8.Bt
open Go.ChangeShapes Go.WideShapes Go.ChangeAt Go.RowKit
open _root_.Go.Proofs.YtddcndlogoajkaaDoor.L8.Op _root_.Go.Proofs.YtddcndlogoajkaaDoor.L8.So
open _root_.Go.Proofs.YtddcndlogoajkaaDoor.L8.Lv (rdL wOf PsOk)
set_option maxRecDepth 20000

/-- What is known of each register. -/
abbrev Kn := Nat → Option Int
def kn0 : Kn := fun _ => none
def numK (K : Kn) (r : Int) : Int := (K r.toNat).getD 0
/-- All that is known is a number of 64 bits. -/
def KIn (K : Kn) : Prop := ∀ r v, K r = some v → -9223372036854775808 ≤ v ∧ v ≤ 9223372036854775807
theorem numK_in {K : Kn} (h : KIn K) (r : Int) : -9223372036854775808 ≤ numK K r ∧ numK K r ≤ 9223372036854775807 := by
  unfold numK
  cases e : K r.toNat with
  | none => simp
  | some v => simpa using h _ _ e
/-- A Const. -/
def cst (d v : Int) : O := ⟨1, d, 0, 0, v⟩
def allK (K : Kn) (l : List Nat) : Bool := l.all fun r => (K r).isSome
def fdB (K : Kn) (o : O) : Bool := allK K (rdL o) && decide (rkE o.op (numK K o.b) = 0) && okO (cst o.d (rkV o.op (numK K o.a) (numK K o.b)))
/-- An operation folded; what is known behind it. -/
def fdO (K : Kn) (o : O) : O := if fdB K o then cst o.d (rkV o.op (numK K o.a) (numK K o.b)) else o
def putK (K : Kn) (d : Nat) (v : Option Int) : Kn := fun r => if r = d then v else K r
def ntO (K : Kn) (o : O) : Kn := if wrB o then putK K o.d.toNat (if o.op = 1 then some o.im else none) else K
def fdL : Kn → List O → List O
  | _, [] => []
  | K, o :: l => fdO K o :: fdL (ntO K (fdO K o)) l
def fdK : Kn → List O → Kn
  | K, [] => K
  | K, o :: l => fdK (ntO K (fdO K o)) l
theorem fdL_len : ∀ (K : Kn) (l : List O), (fdL K l).length = l.length
  | _, [] => rfl
  | K, o :: l => by simp [fdL, fdL_len (ntO K (fdO K o)) l]
theorem fdL_take : ∀ (K : Kn) (l : List O) (k : Nat) (h : k < l.length), fdL K (l.take (k + 1)) = fdL K (l.take k) ++ [fdO (fdK K (l.take k)) l[k]]
  | _, [], _, h => absurd h (by simp)
  | K, o :: l, 0, _ => by simp [fdL, fdK]
  | K, o :: l, k + 1, h => by
    have := fdL_take (ntO K (fdO K o)) l k (by simpa using h)
    simpa [fdL, fdK] using this
theorem fdK_take : ∀ (K : Kn) (l : List O) (k : Nat) (h : k < l.length), fdK K (l.take (k + 1)) = ntO (fdK K (l.take k)) (fdO (fdK K (l.take k)) l[k])
  | _, [], _, h => absurd h (by simp)
  | K, o :: l, 0, _ => by simp [fdK]
  | K, o :: l, k + 1, h => by
    have := fdK_take (ntO K (fdO K o)) l k (by simpa using h)
    simpa [fdK] using this
theorem fdO_two (K : Kn) (o : O) : fdO K (fdO K o) = fdO K o := by
  by_cases h : fdB K o = true
  · have e : fdO K o = cst o.d (rkV o.op (numK K o.a) (numK K o.b)) := by unfold fdO; rw [if_pos h]
    rw [e]
    generalize rkV o.op (numK K o.a) (numK K o.b) = v
    unfold fdO
    rw [if_neg]
    unfold fdB
    have : rkE (cst o.d v).op (numK K (cst o.d v).b) = 2 := by simp [rkE, cst]
    rw [this]; simp
  · have e : fdO K o = o := by unfold fdO; rw [if_neg h]
    rw [e, e]
theorem fdL_two : ∀ (K : Kn) (l : List O), fdL K (fdL K l) = fdL K l
  | _, [] => rfl
  | K, o :: l => by
    show fdO K (fdO K o) :: fdL (ntO K (fdO K (fdO K o))) (fdL (ntO K (fdO K o)) l) = _
    rw [fdO_two, fdL_two (ntO K (fdO K o)) l]; rfl
theorem fdK_two : ∀ (K : Kn) (l : List O), fdK K (fdL K l) = fdK K l
  | _, [] => rfl
  | K, o :: l => by
    show fdK (ntO K (fdO K (fdO K o))) (fdL (ntO K (fdO K o)) l) = _
    rw [fdO_two, fdK_two (ntO K (fdO K o)) l]; rfl
/-- A block folded. -/
def brK (x : Bk) : Bool := decide (x.fin = 1) && (fdK kn0 x.ops x.a.toNat).isSome
def wayK (x : Bk) : Int := if numK (fdK kn0 x.ops) x.a = 0 then x.els else x.thn
def fdBk (x : Bk) : Bk := if brK x then ⟨fdL kn0 x.ops, 0, 0, [], wayK x, 0⟩ else ⟨fdL kn0 x.ops, x.fin, x.a, fdL kn0 x.body, x.thn, x.els⟩
def fdP (ps : List Bk) : List Bk := ps.map fdBk
theorem fdBk_two (x : Bk) : fdBk (fdBk x) = fdBk x := by
  by_cases h : brK x = true
  · have e : fdBk x = ⟨fdL kn0 x.ops, 0, 0, [], wayK x, 0⟩ := by unfold fdBk; rw [if_pos h]
    rw [e]
    have f : brK ⟨fdL kn0 x.ops, 0, 0, [], wayK x, 0⟩ = false := by simp [brK]
    unfold fdBk
    rw [f, if_neg (by simp)]
    simp only [fdL_two, fdL]
  · have e : fdBk x = ⟨fdL kn0 x.ops, x.fin, x.a, fdL kn0 x.body, x.thn, x.els⟩ := by unfold fdBk; rw [if_neg h]
    rw [e]
    have f : brK ⟨fdL kn0 x.ops, x.fin, x.a, fdL kn0 x.body, x.thn, x.els⟩ = false := by
      have : brK ⟨fdL kn0 x.ops, x.fin, x.a, fdL kn0 x.body, x.thn, x.els⟩ = brK x := by simp only [brK, fdK_two]
      rw [this]; simpa using h
    unfold fdBk
    rw [f, if_neg (by simp)]
    simp only [fdL_two]
theorem fdP_two (ps : List Bk) : fdP (fdP ps) = fdP ps := by
  unfold fdP
  rw [List.map_map]
  exact List.map_congr_left fun x _ => fdBk_two x
theorem cst_ok {o : O} {d v : Int} (h : okO (cst d v) = true) (ho : o.Ok) (hd : d = o.d) : (cst d v).Ok ∧ okP (cst d v) = true := by
  subst hd
  have hk : kOf (cst o.d v).op = some kindL[1] := rfl
  have hf : okF kindL[1] (cst o.d v) = true := by rw [← okO_some hk]; exact h
  simp only [okF, Bool.and_eq_true] at hf
  have h4 : iH v true = true := hf.2
  simp only [iH, if_true, decide_eq_true_eq] at h4
  refine ⟨⟨by simp [cst], by simp [cst], ho.d0, ho.d1, by simp [cst], by simp [cst], by simp [cst], by simp [cst], by simp only [cst]; omega, by simp only [cst]; omega⟩, ?_⟩
  unfold okP
  rw [h]
  rfl
theorem fdO_ok (K : Kn) {o : O} (ho : o.Ok) (hp : okP o = true) : (fdO K o).Ok ∧ okP (fdO K o) = true := by
  unfold fdO
  split
  · rename_i h
    unfold fdB at h
    simp only [Bool.and_eq_true] at h
    exact cst_ok h.2 ho rfl
  · exact ⟨ho, hp⟩
theorem fdL_ok : ∀ (K : Kn) (l : List O), (∀ o ∈ l, o.Ok ∧ okP o = true) → ∀ o ∈ fdL K l, o.Ok ∧ okP o = true
  | _, [], _ => fun o h => by simp [fdL] at h
  | K, o :: l, hl => fun u hu => by
    simp only [fdL, List.mem_cons] at hu
    rcases hu with rfl | hu
    · exact fdO_ok K (hl o (by simp)).1 (hl o (by simp)).2
    · exact fdL_ok _ l (fun v hv => hl v (by simp [hv])) u hu
theorem kin0 : KIn kn0 := fun r v h => by cases h
theorem ntO_in {K : Kn} (h : KIn K) {o : O} (ho : o.Ok) : KIn (ntO K o) := fun r v e => by
  unfold ntO at e
  split at e
  · unfold putK at e
    split at e
    · split at e
      · cases e; exact ⟨ho.i0, ho.i1⟩
      · cases e
    · exact h r v e
  · exact h r v e
theorem fdK_in : ∀ (K : Kn) (l : List O), KIn K → (∀ o ∈ l, o.Ok ∧ okP o = true) → KIn (fdK K l)
  | _, [], h, _ => h
  | K, o :: l, h, hl => fdK_in _ l (ntO_in h (fdO_ok K (hl o (by simp)).1 (hl o (by simp)).2).1) fun v hv => hl v (by simp [hv])
theorem allB_iff {xs : List O} : allB xs = true ↔ ∀ o ∈ xs, okP o = true := by unfold allB; exact List.all_eq_true
theorem ckB_iff {x : Bk} {n : Int} : ckB x n = 0 ↔ allB x.ops = true ∧ endB x n = true ∧ allB x.body = true := by
  unfold ckB
  constructor
  · intro h
    split at h
    · split at h
      · split at h
        · exact ⟨by assumption, by assumption, by assumption⟩
        · cases h
      · cases h
    · cases h
  · rintro ⟨h1, h2, h3⟩
    rw [if_pos h1, if_pos h2, if_pos h3]
/-- What makes a block one. -/
structure BkOk (x : Bk) (n : Nat) : Prop where
  ok : x.Ok
  o : ∀ o ∈ x.ops, o.Ok ∧ okP o = true
  b : ∀ o ∈ x.body, o.Ok ∧ okP o = true
  e : endB x n = true
theorem bkOk_ck {x : Bk} {n : Nat} (h : BkOk x n) : ckB x n = 0 := ckB_iff.2 ⟨allB_iff.2 fun o ho => (h.o o ho).2, h.e, allB_iff.2 fun o ho => (h.b o ho).2⟩
theorem way_in {x : Bk} {n : Nat} (h : BkOk x n) (h1 : x.fin = 1) : 0 ≤ wayK x ∧ wayK x < n := by
  unfold wayK
  split
  · exact Lv.end_els h.e h1
  · exact Lv.end_thn h.e (by omega)
theorem bkOk_fold {x : Bk} {n : Nat} (h : BkOk x n) (hn : n ≤ 128) : BkOk (fdBk x) n := by
  unfold fdBk
  by_cases hb : brK x = true
  · rw [if_pos hb]
    have hw := way_in h (by simp only [brK, Bool.and_eq_true, decide_eq_true_eq] at hb; exact hb.1)
    refine ⟨⟨by simp, by simp, by simp, by simp, by simp only; omega, by simp only; omega, by simp, by simp⟩, fdL_ok kn0 _ h.o, fun o ho => by simp at ho, ?_⟩
    simp only [endB, eK, eA, eT, eE, eB, rH, bH]
    simp [hw.1, hw.2]
  · rw [if_neg hb]
    refine ⟨⟨h.ok.f0, h.ok.f1, h.ok.a0, h.ok.a1, h.ok.t0, h.ok.t1, h.ok.e0, h.ok.e1⟩, fdL_ok kn0 _ h.o, fdL_ok kn0 _ h.b, ?_⟩
    have := h.e
    unfold endB at this ⊢
    simp only [fdL_len]
    exact this
/-- What makes a program one. -/
structure PsG (ps : List Bk) : Prop where
  n : ps.length ≤ 128
  p : 0 < ps.length
  s : opsN ps ≤ 1024
  b : ∀ x ∈ ps, BkOk x ps.length
theorem psG_of {ps : List Bk} (ho : PsOk ps) (h : ckP ps = 0) : PsG ps := by
  have hc := Lv.ck_blocks h
  unfold ckP at h
  by_cases h1 : 128 < ps.length ∨ 1024 < opsN ps
  · rw [if_pos h1] at h; cases h
  · rw [if_neg h1] at h
    by_cases h2 : ps.length = 0
    · rw [if_pos h2] at h; cases h
    · refine ⟨by omega, by omega, by omega, fun x hx => ?_⟩
      obtain ⟨a, b, c⟩ := ckB_iff.1 (hc x hx)
      obtain ⟨o1, o2, o3⟩ := ho x hx
      exact ⟨o1, fun o q => ⟨o2 o q, allB_iff.1 a o q⟩, fun o q => ⟨o3 o q, allB_iff.1 c o q⟩, b⟩
theorem PsG.ck {ps : List Bk} (h : PsG ps) : ckP ps = 0 := by
  unfold ckP
  rw [if_neg (by have := h.n; have := h.s; omega), if_neg (by have := h.p; omega)]
  exact (firstE_yes fun j hj => bkOk_ck (h.b _ (List.getElem_mem hj))).symm
theorem PsG.ok {ps : List Bk} (h : PsG ps) : PsOk ps := fun x hx => ⟨(h.b x hx).ok, fun o q => ((h.b x hx).o o q).1, fun o q => ((h.b x hx).b o q).1⟩
theorem opsN_eq (ps : List Bk) : opsN ps = ps.length + (ps.map bkN).sum := by unfold opsN sumTo; rw [List.take_length]
theorem sum_le {α : Type} (f g : α → Nat) : ∀ (l : List α), (∀ x ∈ l, f x ≤ g x) → (l.map f).sum ≤ (l.map g).sum
  | [], _ => by simp
  | a :: l, h => by
    have := sum_le f g l fun x hx => h x (by simp [hx])
    have := h a (by simp)
    simp only [List.map_cons, List.sum_cons]; omega
theorem opsN_map {f : Bk → Bk} {ps : List Bk} (h : ∀ x ∈ ps, bkN (f x) ≤ bkN x) : opsN (ps.map f) ≤ opsN ps := by
  rw [opsN_eq, opsN_eq, List.map_map, List.length_map]
  have := sum_le (bkN ∘ f) bkN ps h
  omega
theorem bkN_fold (x : Bk) : bkN (fdBk x) ≤ bkN x := by
  unfold fdBk bkN
  split <;> simp [fdL_len]
theorem psG_fold {ps : List Bk} (h : PsG ps) : PsG (fdP ps) := by
  refine ⟨by simpa [fdP] using h.n, by simpa [fdP] using h.p, Nat.le_trans (opsN_map fun x _ => bkN_fold x) h.s, fun x hx => ?_⟩
  obtain ⟨y, hy, rfl⟩ := List.mem_map.1 hx
  have := bkOk_fold (h.b y hy) h.n
  simpa [fdP] using this
end Go.Proofs.YtddcndlogoajkaaDoor.L8.Bt
