/- A program gone over once for dead operations: so many dead ones are taken out; if none is, none is left. Plain mathematics. Conditions: said at each. -/
import Derived.Test.YtddcndlogoajkaaGreatDoorQVa
import Derived.Test.YtddcndlogoajkaaGreatDoorQRk
import Derived.Test.YtddcndlogoajkaaGreatDoorQPk
namespace Go.Proofs.YtddcndlogoajkaaGreatDoor.L8.Bt
open Go.ChangeShapes Go.WideShapes Go.ChangeAt Go.RowKit
open _root_.Go.Proofs.YtddcndlogoajkaaGreatDoor.L8.Op _root_.Go.Proofs.YtddcndlogoajkaaGreatDoor.L8.So
open _root_.Go.Proofs.YtddcndlogoajkaaGreatDoor.L8.Lv (rdL wOf PsOk)
set_option maxRecDepth 20000

/-- What is known of each register. -/
abbrev Kn := Nat → Option Int
def kn0 : Kn := fun _ => none
def numK (K : Kn) (r : Int) : Int := (K r.toNat).getD 0
/-- All that is known is a number of 64 bits. -/
def KIn (K : Kn) : Prop := ∀ r v, K r = some v → -9223372036854775808 ≤ v ∧ v ≤ 9223372036854775807
theorem numK_in {K : Kn} (h : KIn K) (r : Int) : -9223372036854775808 ≤ numK K r ∧ numK K r ≤ 9223372036854775807 := by
  unfold numK
  cases e : K r.toNat with
  | none => simp
  | some v => simpa using h _ _ e
/-- A Const. -/
def cst (d v : Int) : O := ⟨1, d, 0, 0, v⟩
def allK (K : Kn) (l : List Nat) : Bool := l.all fun r => (K r).isSome
def fdB (K : Kn) (o : O) : Bool := allK K (rdL o) && decide (rkE o.op (numK K o.b) = 0) && okO (cst o.d (rkV o.op (numK K o.a) (numK K o.b)))
/-- An operation folded; what is known behind it. -/
def fdO (K : Kn) (o : O) : O := if fdB K o then cst o.d (rkV o.op (numK K o.a) (numK K o.b)) else o
def putK (K : Kn) (d : Nat) (v : Option Int) : Kn := fun r => if r = d then v else K r
def ntO (K : Kn) (o : O) : Kn := if wrB o then putK K o.d.toNat (if o.op = 1 then some o.im else none) else K
def fdL : Kn → List O → List O
  | _, [] => []
  | K, o :: l => fdO K o :: fdL (ntO K (fdO K o)) l
def fdK : Kn → List O → Kn
  | K, [] => K
  | K, o :: l => fdK (ntO K (fdO K o)) l
theorem fdL_len : ∀ (K : Kn) (l : List O), (fdL K l).length = l.length
  | _, [] => rfl
  | K, o :: l => by simp [fdL, fdL_len (ntO K (fdO K o)) l]
theorem fdL_take : ∀ (K : Kn) (l : List O) (k : Nat) (h : k < l.length), fdL K (l.take (k + 1)) = fdL K (l.take k) ++ [fdO (fdK K (l.take k)) l[k]]
  | _, [], _, h => absurd h (by simp)
  | K, o :: l, 0, _ => by simp [fdL, fdK]
  | K, o :: l, k + 1, h => by
    have := fdL_take (ntO K (fdO K o)) l k (by simpa using h)
    simpa [fdL, fdK] using this
theorem fdK_take : ∀ (K : Kn) (l : List O) (k : Nat) (h : k < l.length), fdK K (l.take (k + 1)) = ntO (fdK K (l.take k)) (fdO (fdK K (l.take k)) l[k])
  | _, [], _, h => absurd h (by simp)
  | K, o :: l, 0, _ => by simp [fdK]
  | K, o :: l, k + 1, h => by
    have := fdK_take (ntO K (fdO K o)) l k (by simpa using h)
    simpa [fdK] using this
/-- A block folded. -/
def brK (x : Bk) : Bool := decide (x.fin = 1) && (fdK kn0 x.ops x.a.toNat).isSome
def wayK (x : Bk) : Int := if numK (fdK kn0 x.ops) x.a = 0 then x.els else x.thn
def fdBk (x : Bk) : Bk := if brK x then ⟨fdL kn0 x.ops, 0, 0, [], wayK x, 0⟩ else ⟨fdL kn0 x.ops, x.fin, x.a, fdL kn0 x.body, x.thn, x.els⟩
def fdP (ps : List Bk) : List Bk := ps.map fdBk
theorem cst_ok {o : O} {d v : Int} (h : okO (cst d v) = true) (ho : o.Ok) (hd : d = o.d) : (cst d v).Ok ∧ okP (cst d v) = true := by
  subst hd
  have hk : kOf (cst o.d v).op = some kindL[1] := rfl
  have hf : okF kindL[1] (cst o.d v) = true := by rw [← okO_some hk]; exact h
  simp only [okF, Bool.and_eq_true] at hf
  have h4 : iH v true = true := hf.2
  simp only [iH, if_true, decide_eq_true_eq] at h4
  refine ⟨⟨by simp [cst], by simp [cst], ho.d0, ho.d1, by simp [cst], by simp [cst], by simp [cst], by simp [cst], by simp only [cst]; omega, by simp only [cst]; omega⟩, ?_⟩
  unfold okP
  rw [h]
  rfl
theorem fdO_ok (K : Kn) {o : O} (ho : o.Ok) (hp : okP o = true) : (fdO K o).Ok ∧ okP (fdO K o) = true := by
  unfold fdO
  split
  · rename_i h
    unfold fdB at h
    simp only [Bool.and_eq_true] at h
    exact cst_ok h.2 ho rfl
  · exact ⟨ho, hp⟩
theorem fdL_ok : ∀ (K : Kn) (l : List O), (∀ o ∈ l, o.Ok ∧ okP o = true) → ∀ o ∈ fdL K l, o.Ok ∧ okP o = true
  | _, [], _ => fun o h => by simp [fdL] at h
  | K, o :: l, hl => fun u hu => by
    simp only [fdL, List.mem_cons] at hu
    rcases hu with rfl | hu
    · exact fdO_ok K (hl o (by simp)).1 (hl o (by simp)).2
    · exact fdL_ok _ l (fun v hv => hl v (by simp [hv])) u hu
theorem kin0 : KIn kn0 := fun r v h => by cases h
theorem ntO_in {K : Kn} (h : KIn K) {o : O} (ho : o.Ok) : KIn (ntO K o) := fun r v e => by
  unfold ntO at e
  split at e
  · unfold putK at e
    split at e
    · split at e
      · cases e; exact ⟨ho.i0, ho.i1⟩
      · cases e
    · exact h r v e
  · exact h r v e
theorem fdK_in : ∀ (K : Kn) (l : List O), KIn K → (∀ o ∈ l, o.Ok ∧ okP o = true) → KIn (fdK K l)
  | _, [], h, _ => h
  | K, o :: l, h, hl => fdK_in _ l (ntO_in h (fdO_ok K (hl o (by simp)).1 (hl o (by simp)).2).1) fun v hv => hl v (by simp [hv])
theorem allB_iff {xs : List O} : allB xs = true ↔ ∀ o ∈ xs, okP o = true := by unfold allB; exact List.all_eq_true
theorem ckB_iff {x : Bk} {n : Int} : ckB x n = 0 ↔ allB x.ops = true ∧ endB x n = true ∧ allB x.body = true := by
  unfold ckB
  constructor
  · intro h
    split at h
    · split at h
      · split at h
        · exact ⟨by assumption, by assumption, by assumption⟩
        · cases h
      · cases h
    · cases h
  · rintro ⟨h1, h2, h3⟩
    rw [if_pos h1, if_pos h2, if_pos h3]
/-- What makes a block one. -/
structure BkOk (x : Bk) (n : Nat) : Prop where
  ok : x.Ok
  o : ∀ o ∈ x.ops, o.Ok ∧ okP o = true
  b : ∀ o ∈ x.body, o.Ok ∧ okP o = true
  e : endB x n = true
theorem bkOk_ck {x : Bk} {n : Nat} (h : BkOk x n) : ckB x n = 0 := ckB_iff.2 ⟨allB_iff.2 fun o ho => (h.o o ho).2, h.e, allB_iff.2 fun o ho => (h.b o ho).2⟩
theorem way_in {x : Bk} {n : Nat} (h : BkOk x n) (h1 : x.fin = 1) : 0 ≤ wayK x ∧ wayK x < n := by
  unfold wayK
  split
  · exact Lv.end_els h.e h1
  · exact Lv.end_thn h.e (by omega)
theorem bkOk_fold {x : Bk} {n : Nat} (h : BkOk x n) (hn : n ≤ 128) : BkOk (fdBk x) n := by
  unfold fdBk
  by_cases hb : brK x = true
  · rw [if_pos hb]
    have hw := way_in h (by simp only [brK, Bool.and_eq_true, decide_eq_true_eq] at hb; exact hb.1)
    refine ⟨⟨by simp, by simp, by simp, by simp, by simp only; omega, by simp only; omega, by simp, by simp⟩, fdL_ok kn0 _ h.o, fun o ho => by simp at ho, ?_⟩
    simp only [endB, eK, eA, eT, eE, eB, rH, bH]
    simp [hw.1, hw.2]
  · rw [if_neg hb]
    refine ⟨⟨h.ok.f0, h.ok.f1, h.ok.a0, h.ok.a1, h.ok.t0, h.ok.t1, h.ok.e0, h.ok.e1⟩, fdL_ok kn0 _ h.o, fdL_ok kn0 _ h.b, ?_⟩
    have := h.e
    unfold endB at this ⊢
    simp only [fdL_len]
    exact this
/-- What makes a program one. -/
structure PsG (ps : List Bk) : Prop where
  n : ps.length ≤ 128
  p : 0 < ps.length
  s : opsN ps ≤ 1024
  b : ∀ x ∈ ps, BkOk x ps.length
theorem psG_of {ps : List Bk} (ho : PsOk ps) (h : ckP ps = 0) : PsG ps := by
  have hc := Lv.ck_blocks h
  unfold ckP at h
  by_cases h1 : 128 < ps.length ∨ 1024 < opsN ps
  · rw [if_pos h1] at h; cases h
  · rw [if_neg h1] at h
    by_cases h2 : ps.length = 0
    · rw [if_pos h2] at h; cases h
    · refine ⟨by omega, by omega, by omega, fun x hx => ?_⟩
      obtain ⟨a, b, c⟩ := ckB_iff.1 (hc x hx)
      obtain ⟨o1, o2, o3⟩ := ho x hx
      exact ⟨o1, fun o q => ⟨o2 o q, allB_iff.1 a o q⟩, fun o q => ⟨o3 o q, allB_iff.1 c o q⟩, b⟩
theorem PsG.ck {ps : List Bk} (h : PsG ps) : ckP ps = 0 := by
  unfold ckP
  rw [if_neg (by have := h.n; have := h.s; omega), if_neg (by have := h.p; omega)]
  exact (firstE_yes fun j hj => bkOk_ck (h.b _ (List.getElem_mem hj))).symm
theorem PsG.ok {ps : List Bk} (h : PsG ps) : PsOk ps := fun x hx => ⟨(h.b x hx).ok, fun o q => ((h.b x hx).o o q).1, fun o q => ((h.b x hx).b o q).1⟩
theorem opsN_eq (ps : List Bk) : opsN ps = ps.length + (ps.map bkN).sum := by unfold opsN sumTo; rw [List.take_length]
theorem sum_le {α : Type} (f g : α → Nat) : ∀ (l : List α), (∀ x ∈ l, f x ≤ g x) → (l.map f).sum ≤ (l.map g).sum
  | [], _ => by simp
  | a :: l, h => by
    have := sum_le f g l fun x hx => h x (by simp [hx])
    have := h a (by simp)
    simp only [List.map_cons, List.sum_cons]; omega
theorem opsN_map {f : Bk → Bk} {ps : List Bk} (h : ∀ x ∈ ps, bkN (f x) ≤ bkN x) : opsN (ps.map f) ≤ opsN ps := by
  rw [opsN_eq, opsN_eq, List.map_map, List.length_map]
  have := sum_le (bkN ∘ f) bkN ps h
  omega
theorem bkN_fold (x : Bk) : bkN (fdBk x) ≤ bkN x := by
  unfold fdBk bkN
  split <;> simp [fdL_len]
theorem psG_fold {ps : List Bk} (h : PsG ps) : PsG (fdP ps) := by
  refine ⟨by simpa [fdP] using h.n, by simpa [fdP] using h.p, Nat.le_trans (opsN_map fun x _ => bkN_fold x) h.s, fun x hx => ?_⟩
  obtain ⟨y, hy, rfl⟩ := List.mem_map.1 hx
  have := bkOk_fold (h.b y hy) h.n
  simpa [fdP] using this
end Go.Proofs.YtddcndlogoajkaaGreatDoor.L8.Bt
namespace Go.Proofs.YtddcndlogoajkaaGreatDoor.L8.Bt
open Go.ChangeShapes Go.WideShapes Go.ChangeAt Go.RowKit
open _root_.Go.Proofs.YtddcndlogoajkaaGreatDoor.L8.Op _root_.Go.Proofs.YtddcndlogoajkaaGreatDoor.L8.So
open _root_.Go.Proofs.YtddcndlogoajkaaGreatDoor.L8.Lv (rdL wOf PsOk W B Live gen keep endGen PB bOf eOf pb_at)
set_option maxRecDepth 20000

/-- What is read from a list on, by what is read behind it. -/
def NdP (l : List W) (E : Nat → Prop) (r : Nat) : Prop := gen l r = true ∨ (keep l r = true ∧ E r)
theorem ndP_nil (E : Nat → Prop) (r : Nat) : NdP [] E r ↔ E r := by simp [NdP, gen, keep]
theorem ndP_cons (o : W) (l : List W) (E : Nat → Prop) (r : Nat) : NdP (o :: l) E r ↔ r ∈ o.rd ∨ (o.wr ≠ some r ∧ NdP l E r) := by
  unfold NdP
  simp only [gen, keep, List.all_cons, Bool.or_eq_true, Bool.and_eq_true, List.contains_iff_mem, bne_iff_ne]
  constructor
  · rintro ((h | ⟨h, g⟩) | ⟨⟨h, g⟩, e⟩)
    · exact .inl h
    · exact .inr ⟨g, .inl h⟩
    · exact .inr ⟨h, .inr ⟨g, e⟩⟩
  · rintro (h | ⟨g, h | ⟨h, e⟩⟩)
    · exact .inl (.inl h)
    · exact .inl (.inr ⟨h, g⟩)
    · exact .inr ⟨⟨g, h⟩, e⟩
theorem ndP_mono {l : List W} {E F : Nat → Prop} (h : ∀ r, E r → F r) {r : Nat} : NdP l E r → NdP l F r := Or.imp id (And.imp id (h r))
/-- One dead operation is taken out of a list; E: what is read behind it. -/
def Tk (E : Nat → Prop) : List O → List O → Prop
  | [], _ => False
  | o :: l, m => (wrB o = true ∧ o.op ≠ 13 ∧ o.op ≠ 14 ∧ ¬ NdP (l.map wOf) E o.d.toNat ∧ m = l) ∨ ∃ m', m = o :: m' ∧ Tk E l m'
theorem tk_mono {E F : Nat → Prop} (h : ∀ r, F r → E r) : ∀ {l m : List O}, Tk E l m → Tk F l m
  | [], _, g => g
  | o :: l, m, g => by
    rcases g with ⟨g1, g2, g3, g4, g5⟩ | ⟨m', g1, g2⟩
    · exact .inl ⟨g1, g2, g3, fun q => g4 (ndP_mono h q), g5⟩
    · exact .inr ⟨m', g1, tk_mono h g2⟩
theorem tk_less {E : Nat → Prop} : ∀ {l m : List O}, Tk E l m → ∀ r, NdP (m.map wOf) E r → NdP (l.map wOf) E r
  | [], _, g => g.elim
  | o :: l, m, g => fun r q => by
    rw [List.map_cons, ndP_cons]
    rcases g with ⟨g1, g2, g3, g4, rfl⟩ | ⟨m', rfl, g2⟩
    · refine .inr ⟨fun e => ?_, q⟩
      have : (wOf o).wr = some o.d.toNat := by simp [Lv.wOf, g1]
      rw [this] at e
      injection e with e
      rw [e] at g4
      exact g4 q
    · rw [List.map_cons, ndP_cons] at q
      exact q.imp id fun q => ⟨q.1, tk_less g2 r q.2⟩
theorem tk_dia {E : Nat → Prop} : ∀ {l a b : List O}, Tk E l a → Tk E l b → a = b ∨ ∃ c, Tk E a c ∧ Tk E b c
  | [], _, _, g, _ => g.elim
  | o :: l, a, b, g, h => by
    rcases g with ⟨g1, g2, g3, g4, rfl⟩ | ⟨a', rfl, g⟩
    · rcases h with ⟨-, -, -, -, rfl⟩ | ⟨b', rfl, h⟩
      · exact .inl rfl
      · exact .inr ⟨b', h, .inl ⟨g1, g2, g3, fun q => g4 (tk_less h _ q), rfl⟩⟩
    · rcases h with ⟨h1, h2, h3, h4, rfl⟩ | ⟨b', rfl, h⟩
      · exact .inr ⟨a', .inl ⟨h1, h2, h3, fun q => h4 (tk_less g _ q), rfl⟩, g⟩
      · rcases tk_dia g h with rfl | ⟨c, c1, c2⟩
        · exact .inl rfl
        · exact .inr ⟨o :: c, .inr ⟨c, rfl, c1⟩, .inr ⟨c, rfl, c2⟩⟩
theorem tk_mem {E : Nat → Prop} : ∀ {l m : List O}, Tk E l m → (∀ o ∈ m, o ∈ l) ∧ m.length + 1 = l.length
  | [], _, g => g.elim
  | o :: l, m, g => by
    rcases g with ⟨-, -, -, -, rfl⟩ | ⟨m', rfl, g⟩
    · exact ⟨fun o h => List.mem_cons_of_mem _ h, rfl⟩
    · obtain ⟨h1, h2⟩ := tk_mem g
      refine ⟨fun u h => ?_, by simp only [List.length_cons]; omega⟩
      rcases List.mem_cons.1 h with rfl | h
      · exact List.mem_cons_self
      · exact List.mem_cons_of_mem _ (h1 u h)
/-- What is read behind a block's Ops. -/
def EndP (P : List B) (k : B) (r : Nat) : Prop := endGen k r = true ∨ ∃ t ∈ k.e.succ, Live P r t
theorem live_nd {P : List B} {b : Nat} {k : B} (hk : P[b]? = some k) (r : Nat) : Live P r b ↔ NdP k.ops (EndP P k) r := by
  constructor
  · intro h
    cases h with
    | here h1 h2 =>
      rw [hk] at h1; cases h1
      exact h2.imp id fun q => ⟨q.1, .inl q.2⟩
    | step h1 h2 h3 h4 =>
      rw [hk] at h1; cases h1
      exact .inr ⟨h2, .inr ⟨_, h3, h4⟩⟩
  · rintro (h | ⟨h, h2 | ⟨t, ht, h3⟩⟩)
    · exact .here hk (.inl h)
    · exact .here hk (.inr ⟨h, h2⟩)
    · exact .step hk h ht h3
/-- One dead operation is taken out of a program. -/
def Stp (ps qs : List Bk) : Prop := ∃ (i : Nat) (h : i < ps.length) (l : List O), Tk (EndP (PB ps) (bOf ps[i])) ps[i].ops l ∧ qs = ps.set i { ps[i] with ops := l }
theorem pb_set {ps : List Bk} {i b : Nat} {l : List O} {k' : B} (h : i < ps.length) (hk : (PB (ps.set i { ps[i] with ops := l }))[b]? = some k') : ∃ k, (PB ps)[b]? = some k ∧ k'.e = k.e ∧ k'.body = k.body ∧ ((b ≠ i ∧ k' = k) ∨ (b = i ∧ k = bOf ps[i] ∧ k'.ops = l.map wOf)) := by
  rw [List.getElem?_map, List.getElem?_set] at hk
  by_cases e : i = b
  · subst e
    rw [if_pos rfl, if_pos h] at hk
    injection hk with hk
    subst hk
    exact ⟨_, pb_at h, rfl, rfl, .inr ⟨rfl, rfl, rfl⟩⟩
  · rw [if_neg e] at hk
    exact ⟨k', by rw [List.getElem?_map]; exact hk, rfl, rfl, .inl ⟨fun q => e q.symm, rfl⟩⟩
theorem live_less {ps qs : List Bk} (h : Stp ps qs) {r b : Nat} (hl : Live (PB qs) r b) : Live (PB ps) r b := by
  obtain ⟨i, hi, l, ht, rfl⟩ := h
  have key : ∀ (b : Nat) (k' : B), (PB (ps.set i { ps[i] with ops := l }))[b]? = some k' → ∀ E : Nat → Prop, (∀ k, (PB ps)[b]? = some k → k'.e = k.e → k'.body = k.body → ∀ r, E r → EndP (PB ps) k r) → NdP k'.ops E r → Live (PB ps) r b := by
    intro b k' hk E hE hn
    obtain ⟨k, h1, h2, h3, h4⟩ := pb_set hi hk
    refine (live_nd h1 r).2 ?_
    have hn := ndP_mono (hE k h1 h2 h3) hn
    rcases h4 with ⟨-, rfl⟩ | ⟨-, rfl, h6⟩
    · exact hn
    · rw [h6] at hn
      exact tk_less ht r hn
  induction hl with
  | @here b k' hk hg =>
    refine key b k' hk (fun r => endGen k' r = true) (fun k h1 h2 h3 r q => .inl ?_) hg
    unfold Lv.endGen at q ⊢
    rw [← h2, ← h3]; exact q
  | @step b t k' hk hkp ht _ ih =>
    exact key b k' hk (fun r => ∃ t ∈ k'.e.succ, Live (PB ps) r t) (fun k h1 h2 h3 r q => .inr (by rw [← h2]; exact q)) (.inr ⟨hkp, t, ht, ih⟩)
theorem endP_less {ps qs : List Bk} (h : Stp ps qs) (k : B) {r : Nat} (hl : EndP (PB qs) k r) : EndP (PB ps) k r := hl.imp id fun ⟨t, ht, q⟩ => ⟨t, ht, live_less h q⟩
theorem stp_dia {ps a b : List Bk} (h : Stp ps a) (g : Stp ps b) : a = b ∨ ∃ c, Stp a c ∧ Stp b c := by
  have h0 := h
  have g0 := g
  obtain ⟨i, hi, l, h1, rfl⟩ := h
  obtain ⟨j, hj, m, g1, rfl⟩ := g
  by_cases e : i = j
  · subst e
    rcases tk_dia h1 g1 with rfl | ⟨c, c1, c2⟩
    · exact .inl rfl
    · refine .inr ⟨ps.set i { ps[i] with ops := c }, ⟨i, by simpa using hi, c, ?_, ?_⟩, ⟨i, by simpa using hi, c, ?_, ?_⟩⟩
      · simp only [List.getElem_set_self]
        exact tk_mono (fun r q => endP_less h0 _ q) c1
      · simp only [List.getElem_set_self, List.set_set]
      · simp only [List.getElem_set_self]
        exact tk_mono (fun r q => endP_less g0 _ q) c2
      · simp only [List.getElem_set_self, List.set_set]
  · refine .inr ⟨(ps.set i { ps[i] with ops := l }).set j { ps[j] with ops := m }, ⟨j, by simpa using hj, m, ?_, ?_⟩, ⟨i, by simpa using hi, l, ?_, ?_⟩⟩
    · simp only [List.getElem_set_ne e]
      exact tk_mono (fun r q => endP_less h0 _ q) g1
    · simp only [List.getElem_set_ne e]
    · simp only [List.getElem_set_ne (Ne.symm e)]
      exact tk_mono (fun r q => endP_less g0 _ q) h1
    · simp only [List.getElem_set_ne (Ne.symm e)]
      exact List.set_comm _ _ e
/-- So many of them. -/
def Tks : Nat → List Bk → List Bk → Prop
  | 0, a, b => a = b
  | n + 1, a, b => ∃ c, Stp a c ∧ Tks n c b
/-- None is left that is dead. -/
def Nrm (ps : List Bk) : Prop := ∀ qs, ¬ Stp ps qs
theorem tks_add : ∀ {n m : Nat} {a b c : List Bk}, Tks n a b → Tks m b c → Tks (n + m) a c
  | 0, m, a, b, c, h, g => by
    have h : a = b := h
    rw [Nat.zero_add, h]; exact g
  | n + 1, m, a, b, c, h, g => by
    obtain ⟨d, h1, h2⟩ := h
    rw [show n + 1 + m = (n + m) + 1 by omega]
    exact ⟨d, h1, tks_add h2 g⟩
theorem tks_strip : ∀ {n : Nat} {a b a' : List Bk}, Tks n a b → Nrm b → Stp a a' → ∃ m, Tks m a' b
  | 0, a, b, a', h, hn, g => by
    have h : a = b := h
    subst h
    exact absurd g (hn _)
  | n + 1, a, b, a', h, hn, g => by
    obtain ⟨c, h1, h2⟩ := h
    rcases stp_dia g h1 with rfl | ⟨d, d1, d2⟩
    · exact ⟨n, h2⟩
    · obtain ⟨m, hm⟩ := tks_strip h2 hn d2
      exact ⟨m + 1, d, d1, hm⟩
/-- What is left in the end. -/
def Fin (ps qs : List Bk) : Prop := Nrm qs ∧ ∃ n, Tks n ps qs
theorem fin_one {ps a b : List Bk} (h : Fin ps a) (g : Fin ps b) : a = b := by
  obtain ⟨h1, n, h2⟩ := h
  obtain ⟨g1, m, g2⟩ := g
  induction m generalizing n ps with
  | zero =>
    have g2 : ps = b := g2
    subst g2
    cases n with
    | zero => exact (show ps = a from h2).symm
    | succ n =>
      obtain ⟨c, q, -⟩ := h2
      exact absurd q (g1 _)
  | succ m ih =>
    obtain ⟨c, q1, q2⟩ := g2
    obtain ⟨k, hk⟩ := tks_strip h2 h1 q1
    exact ih k hk q2
theorem tks_endP : ∀ {n : Nat} {a b : List Bk}, Tks n a b → ∀ (k : B) (r : Nat), EndP (PB b) k r → EndP (PB a) k r
  | 0, a, b, h, k, r, q => by
    have h : a = b := h
    rw [h]; exact q
  | n + 1, a, b, h, k, r, q => by
    obtain ⟨c, h1, h2⟩ := h
    exact endP_less h1 k (tks_endP h2 k r q)
/-- So many dead ones are taken out of one list. -/
def Tls (E : Nat → Prop) : Nat → List O → List O → Prop
  | 0, a, b => a = b
  | n + 1, a, b => ∃ c, Tk E a c ∧ Tls E n c b
theorem tls_mono {E F : Nat → Prop} (h : ∀ r, F r → E r) : ∀ {n : Nat} {l m : List O}, Tls E n l m → Tls F n l m
  | 0, _, _, g => g
  | n + 1, _, _, g => by
    obtain ⟨c, g1, g2⟩ := g
    exact ⟨c, tk_mono h g1, tls_mono h g2⟩
theorem tls_there {E : Nat → Prop} (o : O) : ∀ {n : Nat} {l m : List O}, Tls E n l m → Tls E n (o :: l) (o :: m)
  | 0, _, _, g => by rw [show _ = _ from g]; exact rfl
  | n + 1, _, _, g => by
    obtain ⟨c, g1, g2⟩ := g
    exact ⟨o :: c, .inr ⟨c, rfl, g1⟩, tls_there o g2⟩
theorem tls_snoc {E : Nat → Prop} : ∀ {n : Nat} {l m k : List O}, Tls E n l m → Tk E m k → Tls E (n + 1) l k
  | 0, _, _, k, g, h => by
    rw [show _ = _ from g]
    exact ⟨k, h, rfl⟩
  | n + 1, _, _, k, g, h => by
    obtain ⟨c, g1, g2⟩ := g
    exact ⟨c, g1, tls_snoc g2 h⟩
theorem tls_tks : ∀ {n : Nat} {ps : List Bk} {i : Nat} (h : i < ps.length) {l : List O}, Tls (EndP (PB ps) (bOf ps[i])) n ps[i].ops l → Tks n ps (ps.set i { ps[i] with ops := l })
  | 0, ps, i, h, l, g => by
    have g : ps[i].ops = l := g
    subst g
    exact (List.set_getElem_self h).symm
  | n + 1, ps, i, h, l, g => by
    obtain ⟨c, g1, g2⟩ := g
    have hs : Stp ps (ps.set i { ps[i] with ops := c }) := ⟨i, h, c, g1, rfl⟩
    refine ⟨_, hs, ?_⟩
    have := tls_tks (n := n) (ps := ps.set i { ps[i] with ops := c }) (i := i) (by simpa using h) (l := l) (by
      simp only [List.getElem_set_self]
      exact tls_mono (fun r q => endP_less hs _ q) g2)
    simpa only [List.getElem_set_self, List.set_set] using this
/-! ### what the program does: a list gone over from behind -/
def deadB (o : O) (x : Nat) : Bool := wrB o && !(x.testBit o.d.toNat) && !(decide (o.op = 13)) && !(decide (o.op = 14))
def styL : List O → Nat → List O × Nat
  | [], x => ([], x)
  | o :: l, x => if deadB o (styL l x).2 = true then styL l x else (o :: (styL l x).1, Lv.aheadN (wOf o) (styL l x).2)
theorem sty_mem : ∀ (l : List O) (x : Nat), (∀ o ∈ (styL l x).1, o ∈ l) ∧ (styL l x).1.length ≤ l.length
  | [], x => ⟨fun o h => h, Nat.le_refl _⟩
  | o :: l, x => by
    obtain ⟨h1, h2⟩ := sty_mem l x
    unfold styL
    split
    · exact ⟨fun u h => List.mem_cons_of_mem _ (h1 u h), by simp only [List.length_cons]; omega⟩
    · refine ⟨fun u h => ?_, by simp only [List.length_cons]; omega⟩
      rcases List.mem_cons.1 h with rfl | h
      · exact List.mem_cons_self
      · exact List.mem_cons_of_mem _ (h1 u h)
theorem sty_x : ∀ (l : List O) (x : Nat), (styL l x).2 = Lv.aheadNL ((styL l x).1.map wOf) x
  | [], x => rfl
  | o :: l, x => by
    unfold styL
    split
    · exact sty_x l x
    · simp only [List.map_cons, Lv.aheadNL]
      rw [← sty_x l x]
theorem sty_lt {l : List O} {x : Nat} (hx : x < 4294967296) (hl : ∀ o ∈ l, o.Ok) : (styL l x).2 < 4294967296 := by
  rw [sty_x]
  refine Lv.aheadNL_lt hx fun o h => ?_
  obtain ⟨u, hu, rfl⟩ := List.mem_map.1 h
  exact Lv.small_of u (hl u ((sty_mem l x).1 u hu))
theorem bit_nd {l : List O} {x : Nat} (hx : x < 4294967296) (hl : ∀ o ∈ l, o.Ok) (r : Nat) : (Lv.aheadNL (l.map wOf) x).testBit r = true ↔ NdP (l.map wOf) (fun r => x.testBit r = true) r := by
  rw [Lv.aheadNL_bit hx (fun o h => by obtain ⟨u, hu, rfl⟩ := List.mem_map.1 h; exact Lv.small_of u (hl u hu)), Lv.aheadL_eq, Bool.or_eq_true, Bool.and_eq_true]
  exact or_congr Iff.rfl And.comm
theorem dead_iff (o : O) (x : Nat) : deadB o x = true ↔ wrB o = true ∧ x.testBit o.d.toNat = false ∧ o.op ≠ 13 ∧ o.op ≠ 14 := by
  unfold deadB
  simp [and_assoc]
theorem sty_tls {E : Nat → Prop} {x : Nat} (hx : x < 4294967296) (hE : ∀ r, E r → x.testBit r = true) : ∀ (l : List O), (∀ o ∈ l, o.Ok) → ∃ n, Tls E n l (styL l x).1
  | [], _ => ⟨0, rfl⟩
  | o :: l, hl => by
    have hl' : ∀ o ∈ l, o.Ok := fun u h => hl u (List.mem_cons_of_mem _ h)
    obtain ⟨n, hn⟩ := sty_tls hx hE l hl'
    have hn' := tls_there o hn
    unfold styL
    split
    · rename_i hd
      obtain ⟨d1, d2, d3, d4⟩ := (dead_iff _ _).1 hd
      refine ⟨n + 1, tls_snoc hn' (.inl ⟨d1, d3, d4, fun q => ?_, rfl⟩)⟩
      rw [sty_x] at d2
      have := (bit_nd hx (fun u h => hl' u ((sty_mem l x).1 u h)) o.d.toNat).2 (ndP_mono hE q)
      rw [d2] at this; cases this
    · exact ⟨n, hn'⟩
theorem sty_nrm {E : Nat → Prop} {x : Nat} (hx : x < 4294967296) (hE : ∀ r, x.testBit r = true → E r) : ∀ (l : List O), (∀ o ∈ l, o.Ok) → (styL l x).1.length = l.length → (styL l x).1 = l ∧ ∀ m, ¬ Tk E l m
  | [], _, _ => ⟨rfl, fun m h => h⟩
  | o :: l, hl, h => by
    have hl' : ∀ o ∈ l, o.Ok := fun u h => hl u (List.mem_cons_of_mem _ h)
    have hm := (sty_mem l x).2
    unfold styL at h ⊢
    split at h
    · simp only [List.length_cons] at h; omega
    · rename_i hd
      rw [if_neg hd]
      simp only [List.length_cons] at h
      obtain ⟨e, g⟩ := sty_nrm hx hE l hl' (by omega)
      refine ⟨by simp only [e], fun m q => ?_⟩
      rcases q with ⟨d1, d2, d3, d4, -⟩ | ⟨m', -, q⟩
      · refine hd ((dead_iff _ _).2 ⟨d1, ?_, d2, d3⟩)
        rw [sty_x, e]
        cases hb : (Lv.aheadNL (l.map wOf) x).testBit o.d.toNat
        · rfl
        · exact absurd (ndP_mono hE ((bit_nd hx hl' _).1 hb)) d4
      · exact g m' q
end Go.Proofs.YtddcndlogoajkaaGreatDoor.L8.Bt
namespace Go.Proofs.YtddcndlogoajkaaGreatDoor.L8.Bt
open Go.ChangeShapes Go.WideShapes Go.ChangeAt Go.RowKit
open _root_.Go.Proofs.YtddcndlogoajkaaGreatDoor.L8.Op _root_.Go.Proofs.YtddcndlogoajkaaGreatDoor.L8.So
open _root_.Go.Proofs.YtddcndlogoajkaaGreatDoor.L8.Lv (rdL wOf PsOk W B Live gen keep endGen PB bOf eOf pb_at pb_small IsIn endN endN_lt SmallB)
set_option maxRecDepth 20000

/-- A block without what is dead by these sets. -/
def swx (I : List Nat) (x : Bk) : Bk := { x with ops := (styL x.ops (endN (bOf x) I)).1 }
/-- The first k blocks are gone over. -/
def swP (ps : List Bk) (I : List Nat) (k : Nat) : List Bk := (ps.take k).map (swx I) ++ ps.drop k
theorem swP_zero (ps : List Bk) (I : List Nat) : swP ps I 0 = ps := by simp [swP]
theorem swP_end (ps : List Bk) (I : List Nat) : swP ps I ps.length = ps.map (swx I) := by simp [swP]
theorem swP_len (ps : List Bk) (I : List Nat) (k : Nat) : (swP ps I k).length = ps.length := by
  unfold swP
  rw [List.length_append, List.length_map, List.length_take, List.length_drop]; omega
theorem swP_at (ps : List Bk) (I : List Nat) (k : Nat) (hk : k < ps.length) : (swP ps I k)[k]? = some ps[k] := by
  unfold swP
  rw [List.getElem?_append_right (by rw [List.length_map, List.length_take]; omega), List.length_map, List.length_take, show k - min k ps.length = 0 by omega, List.getElem?_drop]
  simp [List.getElem?_eq_getElem hk]
theorem swP_next (ps : List Bk) (I : List Nat) (k : Nat) (hk : k < ps.length) : swP ps I (k + 1) = (swP ps I k).set k (swx I ps[k]) := by
  unfold swP
  rw [List.take_add_one, List.getElem?_eq_getElem hk, List.drop_eq_getElem_cons hk]
  have hl : ((ps.take k).map (swx I)).length = k := by rw [List.length_map, List.length_take]; omega
  rw [Option.toList_some, List.map_append, List.append_assoc, List.set_append_right _ _ (by omega), hl, Nat.sub_self]
  rfl
section
variable {ps : List Bk} {I : List Nat}
theorem end_bit (hI : IsIn ps I) (hc : ckP ps = 0) (ho : PsOk ps) {i : Nat} (hi : i < ps.length) (r : Nat) : (endN (bOf ps[i]) I).testBit r = true ↔ EndP (PB ps) (bOf ps[i]) r := by
  have hs := pb_small hc ho
  rw [Lv.endN_bit (hs i _ (pb_at hi)) hI.fit, Lv.aheadE_iff]
  unfold EndP
  obtain ⟨h1, h2⟩ := hI.yes hc
  constructor
  · exact Or.imp id fun ⟨t, ht, q⟩ => ⟨t, ht, (Lv.So.done h1 hs h2 t r).1 q⟩
  · exact Or.imp id fun ⟨t, ht, q⟩ => ⟨t, ht, (Lv.So.done h1 hs h2 t r).2 q⟩
theorem end_32 (hI : IsIn ps I) (hc : ckP ps = 0) (ho : PsOk ps) {i : Nat} (hi : i < ps.length) : endN (bOf ps[i]) I < 4294967296 := endN_lt (pb_small hc ho i _ (pb_at hi)) hI.fit
theorem swP_tks (hI : IsIn ps I) (hc : ckP ps = 0) (ho : PsOk ps) : ∀ (k : Nat), k ≤ ps.length → ∃ n, Tks n ps (swP ps I k)
  | 0, _ => ⟨0, (swP_zero ps I).symm⟩
  | k + 1, hk => by
    obtain ⟨n, hn⟩ := swP_tks hI hc ho k (by omega)
    have hk' : k < ps.length := hk
    have hl := swP_len ps I k
    have hk2 : k < (swP ps I k).length := by omega
    have he : (swP ps I k)[k] = ps[k] := Option.some.inj ((List.getElem?_eq_getElem hk2).symm.trans (swP_at ps I k hk'))
    obtain ⟨m, hm⟩ := sty_tls (E := EndP (PB (swP ps I k)) (bOf ps[k])) (end_32 hI hc ho hk') (fun r q => (end_bit hI hc ho hk' r).2 (tks_endP hn _ r q)) ps[k].ops (ho _ (List.getElem_mem hk')).2.1
    have := tls_tks (n := m) hk2 (l := (styL ps[k].ops (endN (bOf ps[k]) I)).1) (by rw [he]; exact hm)
    rw [he] at this
    refine ⟨n + m, ?_⟩
    rw [swP_next ps I k hk']
    exact tks_add hn this
/-- None fell. -/
def Stay (ps : List Bk) (I : List Nat) (k : Nat) : Prop := ∀ (i : Nat) (h : i < ps.length), i < k → (styL ps[i].ops (endN (bOf ps[i]) I)).1.length = ps[i].ops.length
theorem stay_nrm (hI : IsIn ps I) (hc : ckP ps = 0) (ho : PsOk ps) (h : Stay ps I ps.length) : swP ps I ps.length = ps ∧ Nrm ps := by
  have key : ∀ (i : Nat) (hi : i < ps.length), (styL ps[i].ops (endN (bOf ps[i]) I)).1 = ps[i].ops ∧ ∀ m, ¬ Tk (EndP (PB ps) (bOf ps[i])) ps[i].ops m := fun i hi =>
    sty_nrm (end_32 hI hc ho hi) (fun r q => (end_bit hI hc ho hi r).1 q) _ (ho _ (List.getElem_mem hi)).2.1 (h i hi hi)
  constructor
  · rw [swP_end]
    refine List.ext_getElem (by simp) fun i h1 h2 => ?_
    rw [List.getElem_map]
    unfold swx
    rw [(key i h2).1]
  · rintro qs ⟨i, hi, l, ht, -⟩
    exact (key i hi).2 l ht
end
theorem bkN_ops (x : Bk) (l : List O) : bkN { x with ops := l } + x.ops.length = bkN x + l.length := by
  unfold bkN
  simp only; omega
theorem sum_set : ∀ (l : List Nat) (i : Nat) (h : i < l.length) (v : Nat), (l.set i v).sum + l[i] = l.sum + v
  | [], i, h, v => by simp at h
  | a :: l, 0, h, v => by simp; omega
  | a :: l, i + 1, h, v => by
    have := sum_set l i (by simpa using h) v
    simp only [List.set_cons_succ, List.sum_cons, List.getElem_cons_succ]; omega
theorem opsN_set {ps : List Bk} {i : Nat} (hi : i < ps.length) (l : List O) : opsN (ps.set i { ps[i] with ops := l }) + ps[i].ops.length = opsN ps + l.length := by
  rw [opsN_eq, opsN_eq, List.map_set, List.length_set]
  have := sum_set (ps.map bkN) i (by simpa using hi) (bkN { ps[i] with ops := l })
  rw [List.getElem_map] at this
  have h2 : bkN { ps[i] with ops := l } + ps[i].ops.length = bkN ps[i] + l.length := bkN_ops ps[i] l
  omega
theorem opsN_stp {ps qs : List Bk} (h : Stp ps qs) : opsN qs + 1 = opsN ps := by
  obtain ⟨i, hi, l, ht, rfl⟩ := h
  have := opsN_set hi l
  have := (tk_mem ht).2
  omega
theorem bkOk_ops {x : Bk} {n : Nat} (h : BkOk x n) {l : List O} (hl : ∀ o ∈ l, o ∈ x.ops) : BkOk { x with ops := l } n :=
  ⟨⟨h.ok.f0, h.ok.f1, h.ok.a0, h.ok.a1, h.ok.t0, h.ok.t1, h.ok.e0, h.ok.e1⟩, fun o q => h.o o (hl o q), h.b, by have := h.e; unfold endB at this ⊢; exact this⟩
theorem psG_stp {ps qs : List Bk} (h : Stp ps qs) (g : PsG ps) : PsG qs ∧ qs.length = ps.length := by
  have ho := opsN_stp h
  obtain ⟨i, hi, l, ht, rfl⟩ := h
  have hm := (tk_mem ht).1
  refine ⟨⟨by simpa using g.n, by simpa using g.p, by have := g.s; omega, fun x hx => ?_⟩, by simp⟩
  rw [List.length_set]
  rcases List.mem_or_eq_of_mem_set hx with hx | rfl
  · exact g.b x hx
  · exact bkOk_ops (g.b _ (List.getElem_mem hi)) hm
theorem psG_tks : ∀ {n : Nat} {ps qs : List Bk}, Tks n ps qs → PsG ps → PsG qs ∧ qs.length = ps.length ∧ opsN qs + n = opsN ps
  | 0, ps, qs, h, g => by
    have h : ps = qs := h
    subst h
    exact ⟨g, rfl, rfl⟩
  | n + 1, ps, qs, h, g => by
    obtain ⟨c, h1, h2⟩ := h
    obtain ⟨g1, g2⟩ := psG_stp h1 g
    obtain ⟨g3, g4, g5⟩ := psG_tks h2 g1
    have := opsN_stp h1
    exact ⟨g3, g4.trans g2, by omega⟩
/-- What is left, told by a letter. -/
def FinIs (ps qs : List Bk) : Prop := ∀ zs, Fin ps zs → zs = qs
theorem swx_len (I : List Nat) (x : Bk) : (swx I x).ops.length ≤ x.ops.length := (sty_mem _ _).2
end Go.Proofs.YtddcndlogoajkaaGreatDoor.L8.Bt
