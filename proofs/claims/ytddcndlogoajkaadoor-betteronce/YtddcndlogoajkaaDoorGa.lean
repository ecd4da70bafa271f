/- A program of which dead operations are taken out, as plain mathematics: whatever the order, the same is left. Conditions: said at each. -/
import Derived.Test.YtddcndlogoajkaaDoorFa
namespace Go.Proofs.YtddcndlogoajkaaDoor.L8.Bt
open Go.ChangeShapes Go.WideShapes Go.ChangeAt Go.RowKit
open _root_.Go.Proofs.YtddcndlogoajkaaDoor.L8.Op _root_.Go.Proofs.YtddcndlogoajkaaDoor.L8.So
open _root_.Go.Proofs.YtddcndlogoajkaaDoor.L8.Lv (rdL wOf PsOk W B Live gen keep endGen PB bOf eOf pb_at)
set_option maxRecDepth 20000

/-- What is read from a list on, by what is read behind it. -/
def NdP (l : List W) (E : Nat → Prop) (r : Nat) : Prop := gen l r = true ∨ (keep l r = true ∧ E r)
theorem ndP_nil (E : Nat → Prop) (r : Nat) : NdP [] E r ↔ E r := by simp [NdP, gen, keep]
theorem ndP_cons (o : W) (l : List W) (E : Nat → Prop) (r : Nat) : NdP (o :: l) E r ↔ r ∈ o.rd ∨ (o.wr ≠ some r ∧ NdP l E r) := by
  unfold NdP
  simp only [gen, keep, List.all_cons, Bool.or_eq_true, Bool.and_eq_true, List.contains_iff_mem, bne_iff_ne]
  constructor
  · rintro ((h | ⟨h, g⟩) | ⟨⟨h, g⟩, e⟩)
    · exact .inl h
    · exact .inr ⟨g, .inl h⟩
    · exact .inr ⟨h, .inr ⟨g, e⟩⟩
  · rintro (h | ⟨g, h | ⟨h, e⟩⟩)
    · exact .inl (.inl h)
    · exact .inl (.inr ⟨h, g⟩)
    · exact .inr ⟨⟨g, h⟩, e⟩
theorem ndP_mono {l : List W} {E F : Nat → Prop} (h : ∀ r, E r → F r) {r : Nat} : NdP l E r → NdP l F r := Or.imp id (And.imp id (h r))
/-- One dead operation is taken out of a list; E: what is read behind it. -/
def Tk (E : Nat → Prop) : List O → List O → Prop
  | [], _ => False
  | o :: l, m => (wrB o = true ∧ o.op ≠ 13 ∧ o.op ≠ 14 ∧ ¬ NdP (l.map wOf) E o.d.toNat ∧ m = l) ∨ ∃ m', m = o :: m' ∧ Tk E l m'
theorem tk_mono {E F : Nat → Prop} (h : ∀ r, F r → E r) : ∀ {l m : List O}, Tk E l m → Tk F l m
  | [], _, g => g
  | o :: l, m, g => by
    rcases g with ⟨g1, g2, g3, g4, g5⟩ | ⟨m', g1, g2⟩
    · exact .inl ⟨g1, g2, g3, fun q => g4 (ndP_mono h q), g5⟩
    · exact .inr ⟨m', g1, tk_mono h g2⟩
theorem tk_less {E : Nat → Prop} : ∀ {l m : List O}, Tk E l m → ∀ r, NdP (m.map wOf) E r → NdP (l.map wOf) E r
  | [], _, g => g.elim
  | o :: l, m, g => fun r q => by
    rw [List.map_cons, ndP_cons]
    rcases g with ⟨g1, g2, g3, g4, rfl⟩ | ⟨m', rfl, g2⟩
    · refine .inr ⟨fun e => ?_, q⟩
      have : (wOf o).wr = some o.d.toNat := by simp [Lv.wOf, g1]
      rw [this] at e
      injection e with e
      rw [e] at g4
      exact g4 q
    · rw [List.map_cons, ndP_cons] at q
      exact q.imp id fun q => ⟨q.1, tk_less g2 r q.2⟩
theorem tk_dia {E : Nat → Prop} : ∀ {l a b : List O}, Tk E l a → Tk E l b → a = b ∨ ∃ c, Tk E a c ∧ Tk E b c
  | [], _, _, g, _ => g.elim
  | o :: l, a, b, g, h => by
    rcases g with ⟨g1, g2, g3, g4, rfl⟩ | ⟨a', rfl, g⟩
    · rcases h with ⟨-, -, -, -, rfl⟩ | ⟨b', rfl, h⟩
      · exact .inl rfl
      · exact .inr ⟨b', h, .inl ⟨g1, g2, g3, fun q => g4 (tk_less h _ q), rfl⟩⟩
    · rcases h with ⟨h1, h2, h3, h4, rfl⟩ | ⟨b', rfl, h⟩
      · exact .inr ⟨a', .inl ⟨h1, h2, h3, fun q => h4 (tk_less g _ q), rfl⟩, g⟩
      · rcases tk_dia g h with rfl | ⟨c, c1, c2⟩
        · exact .inl rfl
        · exact .inr ⟨o :: c, .inr ⟨c, rfl, c1⟩, .inr ⟨c, rfl, c2⟩⟩
theorem tk_mem {E : Nat → Prop} : ∀ {l m : List O}, Tk E l m → (∀ o ∈ m, o ∈ l) ∧ m.length + 1 = l.length
  | [], _, g => g.elim
  | o :: l, m, g => by
    rcases g with ⟨-, -, -, -, rfl⟩ | ⟨m', rfl, g⟩
    · exact ⟨fun o h => List.mem_cons_of_mem _ h, rfl⟩
    · obtain ⟨h1, h2⟩ := tk_mem g
      refine ⟨fun u h => ?_, by simp only [List.length_cons]; omega⟩
      rcases List.mem_cons.1 h with rfl | h
      · exact List.mem_cons_self
      · exact List.mem_cons_of_mem _ (h1 u h)
/-- What is read behind a block's Ops. -/
def EndP (P : List B) (k : B) (r : Nat) : Prop := endGen k r = true ∨ ∃ t ∈ k.e.succ, Live P r t
theorem live_nd {P : List B} {b : Nat} {k : B} (hk : P[b]? = some k) (r : Nat) : Live P r b ↔ NdP k.ops (EndP P k) r := by
  constructor
  · intro h
    cases h with
    | here h1 h2 =>
      rw [hk] at h1; cases h1
      exact h2.imp id fun q => ⟨q.1, .inl q.2⟩
    | step h1 h2 h3 h4 =>
      rw [hk] at h1; cases h1
      exact .inr ⟨h2, .inr ⟨_, h3, h4⟩⟩
  · rintro (h | ⟨h, h2 | ⟨t, ht, h3⟩⟩)
    · exact .here hk (.inl h)
    · exact .here hk (.inr ⟨h, h2⟩)
    · exact .step hk h ht h3
/-- One dead operation is taken out of a program. -/
def Stp (ps qs : List Bk) : Prop := ∃ (i : Nat) (h : i < ps.length) (l : List O), Tk (EndP (PB ps) (bOf ps[i])) ps[i].ops l ∧ qs = ps.set i { ps[i] with ops := l }
theorem pb_set {ps : List Bk} {i b : Nat} {l : List O} {k' : B} (h : i < ps.length) (hk : (PB (ps.set i { ps[i] with ops := l }))[b]? = some k') : ∃ k, (PB ps)[b]? = some k ∧ k'.e = k.e ∧ k'.body = k.body ∧ ((b ≠ i ∧ k' = k) ∨ (b = i ∧ k = bOf ps[i] ∧ k'.ops = l.map wOf)) := by
  rw [List.getElem?_map, List.getElem?_set] at hk
  by_cases e : i = b
  · subst e
    rw [if_pos rfl, if_pos h] at hk
    injection hk with hk
    subst hk
    exact ⟨_, pb_at h, rfl, rfl, .inr ⟨rfl, rfl, rfl⟩⟩
  · rw [if_neg e] at hk
    exact ⟨k', by rw [List.getElem?_map]; exact hk, rfl, rfl, .inl ⟨fun q => e q.symm, rfl⟩⟩
theorem live_less {ps qs : List Bk} (h : Stp ps qs) {r b : Nat} (hl : Live (PB qs) r b) : Live (PB ps) r b := by
  obtain ⟨i, hi, l, ht, rfl⟩ := h
  have key : ∀ (b : Nat) (k' : B), (PB (ps.set i { ps[i] with ops := l }))[b]? = some k' → ∀ E : Nat → Prop, (∀ k, (PB ps)[b]? = some k → k'.e = k.e → k'.body = k.body → ∀ r, E r → EndP (PB ps) k r) → NdP k'.ops E r → Live (PB ps) r b := by
    intro b k' hk E hE hn
    obtain ⟨k, h1, h2, h3, h4⟩ := pb_set hi hk
    refine (live_nd h1 r).2 ?_
    have hn := ndP_mono (hE k h1 h2 h3) hn
    rcases h4 with ⟨-, rfl⟩ | ⟨-, rfl, h6⟩
    · exact hn
    · rw [h6] at hn
      exact tk_less ht r hn
  induction hl with
  | @here b k' hk hg =>
    refine key b k' hk (fun r => endGen k' r = true) (fun k h1 h2 h3 r q => .inl ?_) hg
    unfold Lv.endGen at q ⊢
    rw [← h2, ← h3]; exact q
  | @step b t k' hk hkp ht _ ih =>
    exact key b k' hk (fun r => ∃ t ∈ k'.e.succ, Live (PB ps) r t) (fun k h1 h2 h3 r q => .inr (by rw [← h2]; exact q)) (.inr ⟨hkp, t, ht, ih⟩)
theorem endP_less {ps qs : List Bk} (h : Stp ps qs) (k : B) {r : Nat} (hl : EndP (PB qs) k r) : EndP (PB ps) k r := hl.imp id fun ⟨t, ht, q⟩ => ⟨t, ht, live_less h q⟩
theorem stp_dia {ps a b : List Bk} (h : Stp ps a) (g : Stp ps b) : a = b ∨ ∃ c, Stp a c ∧ Stp b c := by
  have h0 := h
  have g0 := g
  obtain ⟨i, hi, l, h1, rfl⟩ := h
  obtain ⟨j, hj, m, g1, rfl⟩ := g
  by_cases e : i = j
  · subst e
    rcases tk_dia h1 g1 with rfl | ⟨c, c1, c2⟩
    · exact .inl rfl
    · refine .inr ⟨ps.set i { ps[i] with ops := c }, ⟨i, by simpa using hi, c, ?_, ?_⟩, ⟨i, by simpa using hi, c, ?_, ?_⟩⟩
      · simp only [List.getElem_set_self]
        exact tk_mono (fun r q => endP_less h0 _ q) c1
      · simp only [List.getElem_set_self, List.set_set]
      · simp only [List.getElem_set_self]
        exact tk_mono (fun r q => endP_less g0 _ q) c2
      · simp only [List.getElem_set_self, List.set_set]
  · refine .inr ⟨(ps.set i { ps[i] with ops := l }).set j { ps[j] with ops := m }, ⟨j, by simpa using hj, m, ?_, ?_⟩, ⟨i, by simpa using hi, l, ?_, ?_⟩⟩
    · simp only [List.getElem_set_ne e]
      exact tk_mono (fun r q => endP_less h0 _ q) g1
    · simp only [List.getElem_set_ne e]
    · simp only [List.getElem_set_ne (Ne.symm e)]
      exact tk_mono (fun r q => endP_less g0 _ q) h1
    · simp only [List.getElem_set_ne (Ne.symm e)]
      exact List.set_comm _ _ e
/-- So many of them. -/
def Tks : Nat → List Bk → List Bk → Prop
  | 0, a, b => a = b
  | n + 1, a, b => ∃ c, Stp a c ∧ Tks n c b
/-- None is left that is dead. -/
def Nrm (ps : List Bk) : Prop := ∀ qs, ¬ Stp ps qs
theorem tks_add : ∀ {n m : Nat} {a b c : List Bk}, Tks n a b → Tks m b c → Tks (n + m) a c
  | 0, m, a, b, c, h, g => by
    have h : a = b := h
    rw [Nat.zero_add, h]; exact g
  | n + 1, m, a, b, c, h, g => by
    obtain ⟨d, h1, h2⟩ := h
    rw [show n + 1 + m = (n + m) + 1 by omega]
    exact ⟨d, h1, tks_add h2 g⟩
theorem tks_strip : ∀ {n : Nat} {a b a' : List Bk}, Tks n a b → Nrm b → Stp a a' → ∃ m, Tks m a' b
  | 0, a, b, a', h, hn, g => by
    have h : a = b := h
    subst h
    exact absurd g (hn _)
  | n + 1, a, b, a', h, hn, g => by
    obtain ⟨c, h1, h2⟩ := h
    rcases stp_dia g h1 with rfl | ⟨d, d1, d2⟩
    · exact ⟨n, h2⟩
    · obtain ⟨m, hm⟩ := tks_strip h2 hn d2
      exact ⟨m + 1, d, d1, hm⟩
/-- What is left in the end. -/
def Fin (ps qs : List Bk) : Prop := Nrm qs ∧ ∃ n, Tks n ps qs
theorem fin_one {ps a b : List Bk} (h : Fin ps a) (g : Fin ps b) : a = b := by
  obtain ⟨h1, n, h2⟩ := h
  obtain ⟨g1, m, g2⟩ := g
  induction m generalizing n ps with
  | zero =>
    have g2 : ps = b := g2
    subst g2
    cases n with
    | zero => exact (show ps = a from h2).symm
    | succ n =>
      obtain ⟨c, q, -⟩ := h2
      exact absurd q (g1 _)
  | succ m ih =>
    obtain ⟨c, q1, q2⟩ := g2
    obtain ⟨k, hk⟩ := tks_strip h2 h1 q1
    exact ih k hk q2
theorem tks_endP : ∀ {n : Nat} {a b : List Bk}, Tks n a b → ∀ (k : B) (r : Nat), EndP (PB b) k r → EndP (PB a) k r
  | 0, a, b, h, k, r, q => by
    have h : a = b := h
    rw [h]; exact q
  | n + 1, a, b, h, k, r, q => by
    obtain ⟨c, h1, h2⟩ := h
    exact endP_less h1 k (tks_endP h2 k r q)
/-- So many dead ones are taken out of one list. -/
def Tls (E : Nat → Prop) : Nat → List O → List O → Prop
  | 0, a, b => a = b
  | n + 1, a, b => ∃ c, Tk E a c ∧ Tls E n c b
theorem tls_mono {E F : Nat → Prop} (h : ∀ r, F r → E r) : ∀ {n : Nat} {l m : List O}, Tls E n l m → Tls F n l m
  | 0, _, _, g => g
  | n + 1, _, _, g => by
    obtain ⟨c, g1, g2⟩ := g
    exact ⟨c, tk_mono h g1, tls_mono h g2⟩
theorem tls_there {E : Nat → Prop} (o : O) : ∀ {n : Nat} {l m : List O}, Tls E n l m → Tls E n (o :: l) (o :: m)
  | 0, _, _, g => by rw [show _ = _ from g]; exact rfl
  | n + 1, _, _, g => by
    obtain ⟨c, g1, g2⟩ := g
    exact ⟨o :: c, .inr ⟨c, rfl, g1⟩, tls_there o g2⟩
theorem tls_snoc {E : Nat → Prop} : ∀ {n : Nat} {l m k : List O}, Tls E n l m → Tk E m k → Tls E (n + 1) l k
  | 0, _, _, k, g, h => by
    rw [show _ = _ from g]
    exact ⟨k, h, rfl⟩
  | n + 1, _, _, k, g, h => by
    obtain ⟨c, g1, g2⟩ := g
    exact ⟨c, g1, tls_snoc g2 h⟩
theorem tls_tks : ∀ {n : Nat} {ps : List Bk} {i : Nat} (h : i < ps.length) {l : List O}, Tls (EndP (PB ps) (bOf ps[i])) n ps[i].ops l → Tks n ps (ps.set i { ps[i] with ops := l })
  | 0, ps, i, h, l, g => by
    have g : ps[i].ops = l := g
    subst g
    exact (List.set_getElem_self h).symm
  | n + 1, ps, i, h, l, g => by
    obtain ⟨c, g1, g2⟩ := g
    have hs : Stp ps (ps.set i { ps[i] with ops := c }) := ⟨i, h, c, g1, rfl⟩
    refine ⟨_, hs, ?_⟩
    have := tls_tks (n := n) (ps := ps.set i { ps[i] with ops := c }) (i := i) (by simpa using h) (l := l) (by
      simp only [List.getElem_set_self]
      exact tls_mono (fun r q => endP_less hs _ q) g2)
    simpa only [List.getElem_set_self, List.set_set] using this
/-! ### what the program does: a list gone over from behind -/
def deadB (o : O) (x : Nat) : Bool := wrB o && !(x.testBit o.d.toNat) && !(decide (o.op = 13)) && !(decide (o.op = 14))
def styL : List O → Nat → List O × Nat
  | [], x => ([], x)
  | o :: l, x => if deadB o (styL l x).2 = true then styL l x else (o :: (styL l x).1, Lv.aheadN (wOf o) (styL l x).2)
theorem sty_mem : ∀ (l : List O) (x : Nat), (∀ o ∈ (styL l x).1, o ∈ l) ∧ (styL l x).1.length ≤ l.length
  | [], x => ⟨fun o h => h, Nat.le_refl _⟩
  | o :: l, x => by
    obtain ⟨h1, h2⟩ := sty_mem l x
    unfold styL
    split
    · exact ⟨fun u h => List.mem_cons_of_mem _ (h1 u h), by simp only [List.length_cons]; omega⟩
    · refine ⟨fun u h => ?_, by simp only [List.length_cons]; omega⟩
      rcases List.mem_cons.1 h with rfl | h
      · exact List.mem_cons_self
      · exact List.mem_cons_of_mem _ (h1 u h)
theorem sty_x : ∀ (l : List O) (x : Nat), (styL l x).2 = Lv.aheadNL ((styL l x).1.map wOf) x
  | [], x => rfl
  | o :: l, x => by
    unfold styL
    split
    · exact sty_x l x
    · simp only [List.map_cons, Lv.aheadNL]
      rw [← sty_x l x]
theorem sty_lt {l : List O} {x : Nat} (hx : x < 4294967296) (hl : ∀ o ∈ l, o.Ok) : (styL l x).2 < 4294967296 := by
  rw [sty_x]
  refine Lv.aheadNL_lt hx fun o h => ?_
  obtain ⟨u, hu, rfl⟩ := List.mem_map.1 h
  exact Lv.small_of u (hl u ((sty_mem l x).1 u hu))
theorem bit_nd {l : List O} {x : Nat} (hx : x < 4294967296) (hl : ∀ o ∈ l, o.Ok) (r : Nat) : (Lv.aheadNL (l.map wOf) x).testBit r = true ↔ NdP (l.map wOf) (fun r => x.testBit r = true) r := by
  rw [Lv.aheadNL_bit hx (fun o h => by obtain ⟨u, hu, rfl⟩ := List.mem_map.1 h; exact Lv.small_of u (hl u hu)), Lv.aheadL_eq, Bool.or_eq_true, Bool.and_eq_true]
  exact or_congr Iff.rfl And.comm
theorem dead_iff (o : O) (x : Nat) : deadB o x = true ↔ wrB o = true ∧ x.testBit o.d.toNat = false ∧ o.op ≠ 13 ∧ o.op ≠ 14 := by
  unfold deadB
  simp [and_assoc]
theorem sty_tls {E : Nat → Prop} {x : Nat} (hx : x < 4294967296) (hE : ∀ r, E r → x.testBit r = true) : ∀ (l : List O), (∀ o ∈ l, o.Ok) → ∃ n, Tls E n l (styL l x).1
  | [], _ => ⟨0, rfl⟩
  | o :: l, hl => by
    have hl' : ∀ o ∈ l, o.Ok := fun u h => hl u (List.mem_cons_of_mem _ h)
    obtain ⟨n, hn⟩ := sty_tls hx hE l hl'
    have hn' := tls_there o hn
    unfold styL
    split
    · rename_i hd
      obtain ⟨d1, d2, d3, d4⟩ := (dead_iff _ _).1 hd
      refine ⟨n + 1, tls_snoc hn' (.inl ⟨d1, d3, d4, fun q => ?_, rfl⟩)⟩
      rw [sty_x] at d2
      have := (bit_nd hx (fun u h => hl' u ((sty_mem l x).1 u h)) o.d.toNat).2 (ndP_mono hE q)
      rw [d2] at this; cases this
    · exact ⟨n, hn'⟩
theorem sty_nrm {E : Nat → Prop} {x : Nat} (hx : x < 4294967296) (hE : ∀ r, x.testBit r = true → E r) : ∀ (l : List O), (∀ o ∈ l, o.Ok) → (styL l x).1.length = l.length → (styL l x).1 = l ∧ ∀ m, ¬ Tk E l m
  | [], _, _ => ⟨rfl, fun m h => h⟩
  | o :: l, hl, h => by
    have hl' : ∀ o ∈ l, o.Ok := fun u h => hl u (List.mem_cons_of_mem _ h)
    have hm := (sty_mem l x).2
    unfold styL at h ⊢
    split at h
    · simp only [List.length_cons] at h; omega
    · rename_i hd
      rw [if_neg hd]
      simp only [List.length_cons] at h
      obtain ⟨e, g⟩ := sty_nrm hx hE l hl' (by omega)
      refine ⟨by simp only [e], fun m q => ?_⟩
      rcases q with ⟨d1, d2, d3, d4, -⟩ | ⟨m', -, q⟩
      · refine hd ((dead_iff _ _).2 ⟨d1, ?_, d2, d3⟩)
        rw [sty_x, e]
        cases hb : (Lv.aheadNL (l.map wOf) x).testBit o.d.toNat
        · rfl
        · exact absurd (ndP_mono hE ((bit_nd hx hl' _).1 hb)) d4
      · exact g m' q
end Go.Proofs.YtddcndlogoajkaaDoor.L8.Bt
