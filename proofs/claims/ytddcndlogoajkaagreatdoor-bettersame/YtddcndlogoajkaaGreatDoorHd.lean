/- A program made better: what its run tells. Plain mathematics. Conditions: said at each. -/
import Derived.Test.YtddcndlogoajkaaGreatDoorGb
import Derived.Test.YtddcndlogoajkaaGreatDoorHa
import Derived.Test.YtddcndlogoajkaaGreatDoorQNl
namespace Go.Proofs.YtddcndlogoajkaaGreatDoor.L8.Sm
open Go.ChangeShapes Go.WideShapes Go.ChangeAt Go.RowKit
open _root_.Go.Proofs.YtddcndlogoajkaaGreatDoor.L8.Op
open _root_.Go.Proofs.YtddcndlogoajkaaGreatDoor.L8.Lv (PB bOf eOf wOf rdL Pc pb_at listOf nextE)
set_option maxRecDepth 20000
/-- One operation, done in two machines that agree where it is asked. -/
theorem op_sim {ps : List Bk} {b i : Nat} {y : Bool} {op : O} (hb : b < ps.length) (ho : (lst ps[b] y)[i]? = some op) (hk : okP op = true) (hM : OkM op) {M M' : Ma} (hm : M'.m = M.m) (hpr : M'.pr = M.pr) (hr : ∀ r, _root_.Go.Proofs.YtddcndlogoajkaaGreatDoor.L8.Lv.At (PB ps) r ⟨b, pt y, i⟩ → M.r r = M'.r r) :
    (opM op M').m = (opM op M).m ∧ (opM op M').pr = (opM op M).pr ∧ ∀ r, _root_.Go.Proofs.YtddcndlogoajkaaGreatDoor.L8.Lv.At (PB ps) r ⟨b, pt y, i + 1⟩ → (opM op M).r r = (opM op M').r r := by
  have hv := (val_same hk hM hm fun r q => hr r (la_read hb ho q)).1
  have hw := wr_is hk
  unfold opM landO
  rw [hv]
  by_cases h16 : op.op = 16
  · have ea := hr _ (la_read hb ho (rd_a hk (by omega)))
    simp only [if_pos h16]
    refine ⟨by rw [hm, ea], hpr, fun r q => hr r (la_next hb ho ?_ q)⟩
    rw [hw, if_neg (by omega)]
    exact fun e => by cases e
  · by_cases h17 : op.op = 17
    · simp only [if_neg h16, if_pos h17]
      refine ⟨hm, by rw [hpr], fun r q => hr r (la_next hb ho ?_ q)⟩
      rw [hw, if_neg (by omega)]
      exact fun e => by cases e
    · simp only [if_neg h16, if_neg h17]
      refine ⟨hm, hpr, fun r q => ?_⟩
      have h15 := hM.op
      unfold upd
      by_cases e : r = op.d.toNat
      · rw [if_pos e, if_pos e]
      · rw [if_neg e, if_neg e]
        refine hr r (la_next hb ho ?_ q)
        rw [hw, if_pos (by omega)]
        exact fun q2 => e (Option.some.inj q2).symm

section
variable {qs : List Bk} {M' : Ma}
theorem next_op' {b : Nat} {x : Bk} (hx : qs[b]? = some x) (e : M'.b = b) {o : O} (h : (lst x M'.y)[M'.o]? = some o) : nextM qs M' = opM o M' ∧ trapB qs M' = trapO o M' := by
  subst e
  unfold nextM trapB listM
  rw [hx]
  simp only [h]
  exact ⟨trivial, trivial⟩
theorem next_end' {b : Nat} {x : Bk} (hx : qs[b]? = some x) (e : M'.b = b) (h : (lst x M'.y)[M'.o]? = none) : nextM qs M' = endM x M' ∧ trapB qs M' = false := by
  subst e
  unfold nextM trapB listM
  rw [hx]
  simp only [h]
  exact ⟨trivial, trivial⟩
theorem run_step' (he : M'.e = 100) (ht : trapB qs M' = false) (i : Nat) : runM qs (i + 1) M' = runM qs i (stepM qs M') := by
  show (if M'.e = 100 then (if trapB qs M' then { M' with e := 101 } else runM qs i (stepM qs M')) else M') = _
  rw [if_pos he, ht]
  rfl
theorem run_trap' (he : M'.e = 100) (ht : trapB qs M' = true) (i : Nat) : runM qs i M' = { M' with e := 101 } := by
  cases i
  · show (if M'.e = 100 then (if trapB qs M' then { M' with e := 101 } else M') else M') = _
    rw [if_pos he, ht]
    rfl
  · show (if M'.e = 100 then (if trapB qs M' then { M' with e := 101 } else runM qs _ (stepM qs M')) else M') = _
    rw [if_pos he, ht]
    rfl
theorem run_none (he : M'.e = 100) (ht : trapB qs M' = false) : (runM qs 0 M').e = 100 := by
  show (if M'.e = 100 then (if trapB qs M' then { M' with e := 101 } else M') else M').e = 100
  rw [if_pos he, ht]
  exact he

end
theorem opM_keep (o : O) (M : Ma) : (opM o M).e = M.e ∧ (opM o M).b = M.b ∧ (opM o M).y = M.y ∧ (opM o M).n = M.n ∧ (opM o M).v = M.v ∧ (opM o M).o = M.o + 1 := by
  unfold opM landO
  split
  · exact ⟨rfl, rfl, rfl, rfl, rfl, rfl⟩
  · split <;> exact ⟨rfl, rfl, rfl, rfl, rfl, rfl⟩

end Go.Proofs.YtddcndlogoajkaaGreatDoor.L8.Sm
namespace Go.Proofs.YtddcndlogoajkaaGreatDoor.L8.Bt
open Go.ChangeShapes Go.WideShapes Go.ChangeAt Go.RowKit
open _root_.Go.Proofs.YtddcndlogoajkaaGreatDoor.L8.Op _root_.Go.Proofs.YtddcndlogoajkaaGreatDoor.L8.So
open _root_.Go.Proofs.YtddcndlogoajkaaGreatDoor.L8.Lv (rdL wOf PsOk W B Live gen keep endGen PB bOf eOf Pc pb_at listOf nextE)
open _root_.Go.Proofs.YtddcndlogoajkaaGreatDoor.L8.Sm (Ma Inv PsM BkM OkM runM stepM nextM trapB trapO opM valO landO endM toM rndM lst listM upd rd_a rd_b wr_is initM run_over listM_at pt la_own la_turn la_next la_read op_sim val_same next_op' next_end' run_step' run_trap' run_none opM_keep)

theorem tk_split {E : Nat → Prop} : ∀ {l m : List O}, Tk E l m → ∃ l1 o l2, l = l1 ++ o :: l2 ∧ m = l1 ++ l2 ∧ wrB o = true ∧ o.op ≠ 13 ∧ o.op ≠ 14 ∧ ¬ NdP (l2.map wOf) E o.d.toNat
  | [], _, g => g.elim
  | o :: l, m, g => by
    rcases g with ⟨g1, g2, g3, g4, rfl⟩ | ⟨m', rfl, g⟩
    · exact ⟨[], o, _, rfl, rfl, g1, g2, g3, g4⟩
    · obtain ⟨l1, u, l2, rfl, rfl, h⟩ := tk_split g
      exact ⟨o :: l1, u, l2, rfl, rfl, h⟩
theorem at_nd {ps : List Bk} {i j r : Nat} (hi : i < ps.length) (h : Lv.At (PB ps) r ⟨i, 0, j⟩) : NdP ((ps[i].ops.drop j).map wOf) (EndP (PB ps) (bOf ps[i])) r := by
  obtain ⟨k, hk, h1⟩ := Lv.here_of h
  rw [pb_at hi] at hk
  cases hk
  rcases h1 with ⟨-, h1⟩ | ⟨h0, -⟩ | ⟨h0, -⟩ | ⟨h0, -⟩
  · have e : (bOf ps[i]).ops.drop j = (ps[i].ops.drop j).map wOf := (List.map_drop ..).symm
    rw [← e]
    refine h1.imp id fun ⟨a, b⟩ => ⟨a, ?_⟩
    unfold EndP Lv.endGen
    rcases b with b | b | ⟨b1, b2⟩
    · exact .inl (by rw [b]; rfl)
    · exact .inr b
    · exact .inl (by rw [b1, b2]; simp)
  · simp at h0
  · simp at h0
  · simp at h0
/-- The dead operation: in block i, at j. -/
structure De (ps qs : List Bk) (i j : Nat) (l1 : List O) (o : O) (l2 : List O) : Prop where
  hi : i < ps.length
  jl : l1.length = j
  p : ps[i].ops = l1 ++ o :: l2
  q : qs = ps.set i { ps[i] with ops := l1 ++ l2 }
  w : wrB o = true
  n13 : o.op ≠ 13
  n14 : o.op ≠ 14
  d : ¬ Lv.At (PB ps) o.d.toNat ⟨i, 0, j + 1⟩
theorem stp_de {ps qs : List Bk} (h : Stp ps qs) : ∃ i j l1 o l2, De ps qs i j l1 o l2 := by
  obtain ⟨i, hi, l, ht, rfl⟩ := h
  obtain ⟨l1, o, l2, h1, rfl, h2, h3, h4, h5⟩ := tk_split ht
  refine ⟨i, l1.length, l1, o, l2, hi, rfl, h1, rfl, h2, h3, h4, fun q => h5 ?_⟩
  have := at_nd hi q
  rw [h1, show (l1 ++ o :: l2).drop (l1.length + 1) = l2 by simp] at this
  exact this
/-- Two machines beside one another: of ps, and of qs, which lacks the dead one. -/
structure Sd (ps : List Bk) (i j : Nat) (M M' : Ma) : Prop where
  e : M.e = 100
  e' : M'.e = 100
  b : M'.b = M.b
  y : M'.y = M.y
  m : M'.m = M.m
  pr : M'.pr = M.pr
  n : M'.n = M.n
  lt : M.b < ps.length
  o : M.o ≤ (lst ps[M.b] M.y).length
  oI : (M.b = i ∧ M.y = false ∧ j < M.o ∧ M'.o + 1 = M.o) ∨ (¬ (M.b = i ∧ M.y = false ∧ j < M.o) ∧ M'.o = M.o)
  yf : M.y = true → ps[M.b].fin = 3
  r : ∀ r, Lv.At (PB ps) r ⟨M.b, pt M.y, M.o⟩ → M.r r = M'.r r
  s : M'.s ≤ M.s
section
variable {ps qs : List Bk} {i j : Nat} {l1 l2 : List O} {od : O} {M M' : Ma}
theorem De.blk (h : De ps qs i j l1 od l2) {b : Nat} (hb : b < ps.length) : ∃ x', qs[b]? = some x' ∧ x'.fin = ps[b].fin ∧ x'.a = ps[b].a ∧ x'.thn = ps[b].thn ∧ x'.els = ps[b].els ∧ x'.body = ps[b].body ∧ ((b ≠ i ∧ x'.ops = ps[b].ops) ∨ (b = i ∧ x'.ops = l1 ++ l2)) := by
  rw [h.q]
  by_cases e : i = b
  · subst e
    exact ⟨{ ps[i] with ops := l1 ++ l2 }, by rw [List.getElem?_set, if_pos rfl, if_pos hb], rfl, rfl, rfl, rfl, rfl, .inr ⟨rfl, rfl⟩⟩
  · exact ⟨ps[b], by rw [List.getElem?_set, if_neg e, List.getElem?_eq_getElem hb], rfl, rfl, rfl, rfl, rfl, .inl ⟨fun q => e q.symm, rfl⟩⟩
theorem Sd.get (h : De ps qs i j l1 od l2) (s : Sd ps i j M M') (hn : ¬ (M.b = i ∧ M.y = false ∧ M.o = j)) {x' : Bk} (hbd : x'.body = (ps[M.b]'s.lt).body) (hop : (M.b ≠ i ∧ x'.ops = (ps[M.b]'s.lt).ops) ∨ (M.b = i ∧ x'.ops = l1 ++ l2)) : (lst x' M'.y)[M'.o]? = (lst (ps[M.b]'s.lt) M.y)[M.o]? := by
  rw [s.y]
  have hI := s.oI
  cases hy : M.y with
  | true =>
    rcases hI with ⟨-, q, -⟩ | ⟨-, q⟩
    · rw [hy] at q; cases q
    · show x'.body[M'.o]? = (ps[M.b]'s.lt).body[M.o]?
      rw [hbd, q]
  | false =>
    show x'.ops[M'.o]? = (ps[M.b]'s.lt).ops[M.o]?
    rcases hop with ⟨h1, h2⟩ | ⟨h1, h2⟩
    · rcases hI with ⟨q, -⟩ | ⟨-, q⟩
      · exact absurd q h1
      · rw [h2, q]
    · have hp : (ps[M.b]'s.lt).ops = l1 ++ od :: l2 := by
        have := h.p
        simp only [h1]; exact this
      have hj := h.jl
      rw [h2, hp]
      rcases hI with ⟨-, -, q1, q2⟩ | ⟨q1, q2⟩
      · rw [List.getElem?_append_right (by omega), List.getElem?_append_right (by omega)]
        rw [show M.o - l1.length = (M'.o - l1.length) + 1 by omega]
        rfl
      · have q3 : ¬ j < M.o := fun q => q1 ⟨h1, hy, q⟩
        have q4 : M.o ≠ j := fun q => hn ⟨h1, hy, q⟩
        rw [q2, List.getElem?_append_left (by omega), List.getElem?_append_left (by omega)]
theorem Sd.to (s : Sd ps i j M M') {t nn : Int} {s1 s2 : Nat} (ht : t.toNat < ps.length) (hz : (⟨t.toNat, 0, 0⟩ : Pc) ∈ nextE M.b (eOf (ps[M.b]'s.lt))) (ho : (lst (ps[M.b]'s.lt) M.y).length = M.o) (hs : s2 ≤ s1) : Sd ps i j { toM t { M with n := nn } with s := s1 } { toM t { M' with n := nn } with s := s2 } := by
  refine ⟨s.e, s.e', rfl, rfl, s.m, s.pr, rfl, ht, Nat.zero_le _, .inr ⟨fun q => ?_, rfl⟩, fun q => ?_, fun r q => s.r r (la_turn s.lt ho hz q), hs⟩
  · have := q.2.2
    simp [toM] at this
  · simp [toM] at q
theorem run_zero_pr (qs : List Bk) (M : Ma) : (runM qs 0 M).pr = M.pr ∧ (runM qs 0 M).s = M.s := by
  rcases Sm.run_zero_trap (ps := qs) M with h | ⟨-, -, h⟩ <;> rw [h] <;> exact ⟨rfl, rfl⟩
/-- What is told of two runs: the first has ended, and the second did alike. -/
structure Dn (X Y : Ma) : Prop where
  e : Y.e = X.e
  pr : Y.pr = X.pr
  v : X.e = 0 → Y.v = X.v ∧ Y.m = X.m
  s : Y.s ≤ X.s
end
end Go.Proofs.YtddcndlogoajkaaGreatDoor.L8.Bt
namespace Go.Proofs.YtddcndlogoajkaaGreatDoor.L8.Bt
open Go.ChangeShapes Go.WideShapes Go.ChangeAt Go.RowKit
open _root_.Go.Proofs.YtddcndlogoajkaaGreatDoor.L8.Op _root_.Go.Proofs.YtddcndlogoajkaaGreatDoor.L8.So
open _root_.Go.Proofs.YtddcndlogoajkaaGreatDoor.L8.Lv (rdL wOf PsOk W B Live gen keep endGen PB bOf eOf Pc pb_at listOf nextE)
open _root_.Go.Proofs.YtddcndlogoajkaaGreatDoor.L8.Sm (Ma Inv PsM BkM OkM runM stepM nextM trapB trapO opM valO landO endM toM rndM lst listM upd rd_a rd_b wr_is initM run_over listM_at pt la_own la_turn la_next la_read op_sim val_same next_op' next_end' run_step' run_trap' run_none opM_keep)
set_option maxRecDepth 20000
section
variable {ps qs : List Bk} {i j : Nat} {l1 l2 : List O} {od : O}
set_option maxHeartbeats 2000000 in
theorem de_sim (hG : PsG ps) (h : De ps qs i j l1 od l2) : ∀ (f : Nat) (M M' : Ma), Sd ps i j M M' → ∃ g, g ≤ f ∧ ((runM ps f M).e ≠ 100 → Dn (runM ps f M) (runM qs g M')) ∧ ((runM ps f M).e = 100 → (runM qs g M').pr = (runM ps f M).pr) := by
  have hPM : PsM ps := Sm.psM_of hG.ok hG.ck
  intro f
  induction f with
  | zero =>
    intro M M' s
    refine ⟨0, Nat.le_refl _, fun hend => ?_, fun _ => by rw [(run_zero_pr qs M').1, (run_zero_pr ps M).1, s.pr]⟩
    obtain ⟨x', hx, x1, x2, x3, x4, x5, x6⟩ := h.blk s.lt
    by_cases hd : M.b = i ∧ M.y = false ∧ M.o = j
    · have hop : (lst (ps[M.b]'s.lt) M.y)[M.o]? = some od := by
        rw [hd.2.1]
        show (ps[M.b]'s.lt).ops[M.o]? = _
        have hp : (ps[M.b]'s.lt).ops = l1 ++ od :: l2 := by
          have := h.p
          simp only [hd.1]; exact this
        rw [hp, List.getElem?_append_right (by have := h.jl; omega), show M.o - l1.length = 0 by have := h.jl; omega]
        rfl
      have g1 := next_op' (qs := ps) (M' := M) (List.getElem?_eq_getElem s.lt) rfl hop
      have ht : trapO od M = false := by
        unfold Sm.trapO
        exact decide_eq_false fun q => by have := h.n13; have := h.n14; omega
      exact absurd (run_none s.e (g1.2.trans ht)) hend
    · have hget := s.get h hd x5 (x6.imp id id)
      cases hop : (lst (ps[M.b]'s.lt) M.y)[M.o]? with
      | some op =>
        rw [hop] at hget
        have g1 := next_op' (qs := ps) (M' := M) (List.getElem?_eq_getElem s.lt) rfl hop
        have g2 := next_op' (qs := qs) (M' := M') hx s.b hget
        have hmem : op ∈ lst (ps[M.b]'s.lt) M.y := List.mem_of_getElem? hop
        have hok : okP op = true := by
          have hb := hG.b _ (List.getElem_mem s.lt)
          unfold Sm.lst at hmem
          split at hmem
          · exact (hb.b op hmem).2
          · exact (hb.o op hmem).2
        have hvt := (val_same hok ((hPM.2.2 _ (List.getElem_mem s.lt)).lst hmem) s.m fun r q => s.r r (la_read s.lt hop q)).2
        cases ht : trapO op M with
        | true =>
          rw [run_trap' s.e (g1.2.trans ht), run_trap' s.e' (g2.2.trans (hvt.trans ht))]
          exact ⟨rfl, s.pr, fun q => (by cases q), s.s⟩
        | false => exact absurd (run_none s.e (g1.2.trans ht)) hend
      | none =>
        have g1 := next_end' (qs := ps) (M' := M) (List.getElem?_eq_getElem s.lt) rfl hop
        exact absurd (run_none s.e g1.2) hend
  | succ f ih =>
    intro M M' s
    obtain ⟨x', hx, x1, x2, x3, x4, x5, x6⟩ := h.blk s.lt
    have hbl := hPM.2.2 _ (List.getElem_mem s.lt)
    by_cases hd : M.b = i ∧ M.y = false ∧ M.o = j
    · have hp : (ps[M.b]'s.lt).ops = l1 ++ od :: l2 := by
        have := h.p
        simp only [hd.1]; exact this
      have hop : (lst (ps[M.b]'s.lt) M.y)[M.o]? = some od := by
        rw [hd.2.1]
        show (ps[M.b]'s.lt).ops[M.o]? = _
        rw [hp, List.getElem?_append_right (by have := h.jl; omega), show M.o - l1.length = 0 by have := h.jl; omega]
        rfl
      have g1 := next_op' (qs := ps) (M' := M) (List.getElem?_eq_getElem s.lt) rfl hop
      have ht : trapO od M = false := by
        unfold Sm.trapO
        exact decide_eq_false fun q => by have := h.n13; have := h.n14; omega
      have e1 := run_step' (qs := ps) s.e (g1.2.trans ht) f
      have hs1 : stepM ps M = { opM od M with s := M.s + 1 } := by unfold Sm.stepM; rw [g1.1]
      rw [hs1] at e1
      obtain ⟨a1, a2, a3, a4, a5, a6⟩ := opM_keep od M
      have hmem : od ∈ lst (ps[M.b]'s.lt) M.y := List.mem_of_getElem? hop
      have hb := hG.b _ (List.getElem_mem s.lt)
      have hok : okP od = true := (hb.o od (by rw [hp]; simp)).2
      have hw := h.w
      rw [wr_dec hok] at hw
      have h15 : od.op ≤ 15 := by simpa using hw
      have el : landO od (valO od M) M = { M with r := upd M.r od.d.toNat (valO od M) } := land_reg _ h15
      have em : (opM od M).m = M.m ∧ (opM od M).pr = M.pr ∧ (opM od M).r = upd M.r od.d.toNat (valO od M) := by
        unfold Sm.opM
        rw [el]
        exact ⟨rfl, rfl, rfl⟩
      have hoI : ¬ (M.b = i ∧ M.y = false ∧ j < M.o) ∧ M'.o = M.o := by
        rcases s.oI with q | q
        · have := q.2.2.1; omega
        · exact q
      have s2 : Sd ps i j { opM od M with s := M.s + 1 } M' := by
        refine ⟨a1.trans s.e, s.e', s.b.trans a2.symm, s.y.trans a3.symm, s.m.trans em.1.symm, s.pr.trans em.2.1.symm, s.n.trans a4.symm, by show (opM od M).b < _; rw [a2]; exact s.lt, ?_, .inl ⟨?_, ?_, ?_, ?_⟩, fun q => ?_, fun r q => ?_, by show M'.s ≤ M.s + 1; have := s.s; omega⟩
        · simp only [a2, a3, a6]
          have := (List.getElem?_eq_some_iff.1 hop).1
          omega
        · show (opM od M).b = i; rw [a2]; exact hd.1
        · show (opM od M).y = false; rw [a3]; exact hd.2.1
        · show j < (opM od M).o; rw [a6]; omega
        · show M'.o + 1 = (opM od M).o; rw [a6, hoI.2]
        · have q : (opM od M).y = true := q
          rw [a3, hd.2.1] at q; cases q
        · simp only [a2, a3, a6] at q
          show (opM od M).r r = M'.r r
          rw [em.2.2]
          have hne : r ≠ od.d.toNat := fun e => by
            refine h.d ?_
            rw [← e, ← hd.1, ← hd.2.2]
            rw [hd.2.1] at q
            exact q
          unfold Sm.upd
          rw [if_neg hne]
          refine s.r r (la_next s.lt hop ?_ q)
          rw [wr_is hok, if_pos h15]
          exact fun e => hne (Option.some.inj e).symm
      obtain ⟨g, hg, k1, k2⟩ := ih _ _ s2
      rw [e1]
      exact ⟨g, by omega, k1, k2⟩
    · have hget := s.get h hd x5 (x6.imp id id)
      cases hop : (lst (ps[M.b]'s.lt) M.y)[M.o]? with
      | some op =>
        rw [hop] at hget
        have g1 := next_op' (qs := ps) (M' := M) (List.getElem?_eq_getElem s.lt) rfl hop
        have g2 := next_op' (qs := qs) (M' := M') hx s.b hget
        have hmem : op ∈ lst (ps[M.b]'s.lt) M.y := List.mem_of_getElem? hop
        have hok : okP op = true := by
          have hb := hG.b _ (List.getElem_mem s.lt)
          unfold Sm.lst at hmem
          split at hmem
          · exact (hb.b op hmem).2
          · exact (hb.o op hmem).2
        have hMo := hbl.lst hmem
        have hvt := (val_same hok hMo s.m fun r q => s.r r (la_read s.lt hop q)).2
        cases ht : trapO op M with
        | true =>
          refine ⟨0, by omega, fun _ => ?_, fun q => ?_⟩
          · rw [run_trap' s.e (g1.2.trans ht), run_trap' s.e' (g2.2.trans (hvt.trans ht))]
            exact ⟨rfl, s.pr, fun q => (by cases q), s.s⟩
          · rw [run_trap' s.e (g1.2.trans ht)] at q; cases q
        | false =>
          have e1 := run_step' (qs := ps) s.e (g1.2.trans ht) f
          have e2 := fun g => run_step' (qs := qs) s.e' (g2.2.trans (hvt.trans ht)) g
          have hs1 : stepM ps M = { opM op M with s := M.s + 1 } := by unfold Sm.stepM; rw [g1.1]
          have hs2 : stepM qs M' = { opM op M' with s := M'.s + 1 } := by unfold Sm.stepM; rw [g2.1]
          rw [hs1] at e1
          obtain ⟨a1, a2, a3, a4, a5, a6⟩ := opM_keep op M
          obtain ⟨c1, c2, c3, c4, c5, c6⟩ := opM_keep op M'
          obtain ⟨d1, d2, d3⟩ := op_sim (M := M) (M' := M') s.lt hop hok hMo s.m s.pr s.r
          have s2 : Sd ps i j { opM op M with s := M.s + 1 } { opM op M' with s := M'.s + 1 } := by
            refine ⟨a1.trans s.e, c1.trans s.e', (c2.trans s.b).trans a2.symm, (c3.trans s.y).trans a3.symm, d1, d2, (c4.trans s.n).trans a4.symm, by show (opM op M).b < _; rw [a2]; exact s.lt, ?_, ?_, fun q => ?_, fun r q => ?_, by show M'.s + 1 ≤ M.s + 1; have := s.s; omega⟩
            · simp only [a2, a3, a6]
              have := (List.getElem?_eq_some_iff.1 hop).1
              omega
            · simp only [a2, a3, a6, c6]
              rcases s.oI with ⟨q1, q2, q3, q4⟩ | ⟨q1, q2⟩
              · exact .inl ⟨q1, q2, by omega, by omega⟩
              · refine .inr ⟨fun q => ?_, by omega⟩
                obtain ⟨u1, u2, u3⟩ := q
                have : ¬ j < M.o := fun v => q1 ⟨u1, u2, v⟩
                exact hd ⟨u1, u2, by omega⟩
            · have q : (opM op M).y = true := q
              rw [a3] at q
              simp only [a2]
              exact s.yf q
            · simp only [a2, a3, a6] at q
              exact d3 r q
          obtain ⟨g, hg, k1, k2⟩ := ih _ _ s2
          refine ⟨g + 1, by omega, ?_, ?_⟩
          · rw [e1, e2 g, hs2]; exact k1
          · rw [e1, e2 g, hs2]; exact k2
      | none =>
        rw [hop] at hget
        have g1 := next_end' (qs := ps) (M' := M) (List.getElem?_eq_getElem s.lt) rfl hop
        have g2 := next_end' (qs := qs) (M' := M') hx s.b hget
        have hlen : (lst (ps[M.b]'s.lt) M.y).length = M.o := Nat.le_antisymm (List.getElem?_eq_none_iff.1 hop) s.o
        have e1 := run_step' (qs := ps) s.e g1.2 f
        have e2 := fun g => run_step' (qs := qs) s.e' g2.2 g
        have hs1 : stepM ps M = { endM (ps[M.b]'s.lt) M with s := M.s + 1 } := by unfold Sm.stepM; rw [g1.1]
        have hs2 : stepM qs M' = { endM x' M' with s := M'.s + 1 } := by unfold Sm.stepM; rw [g2.1]
        rw [hs1] at e1
        have tn := hbl.thn
        have en := hbl.els
        have fn := hbl.fin
        have hss := s.s
        have fin : ∀ N N' : Ma, { endM (ps[M.b]'s.lt) M with s := M.s + 1 } = N → { endM x' M' with s := M'.s + 1 } = N' → Sd ps i j N N' → ∃ g, g ≤ f + 1 ∧ ((runM ps (f + 1) M).e ≠ 100 → Dn (runM ps (f + 1) M) (runM qs g M')) ∧ ((runM ps (f + 1) M).e = 100 → (runM qs g M').pr = (runM ps (f + 1) M).pr) := by
          rintro N N' rfl rfl s2
          obtain ⟨g, hg, k1, k2⟩ := ih _ _ s2
          refine ⟨g + 1, by omega, ?_, ?_⟩
          · rw [e1, e2 g, hs2]; exact k1
          · rw [e1, e2 g, hs2]; exact k2
        have own : ∀ r, (eOf (ps[M.b]'s.lt)).own r = true → M.y = false → M.r r = M'.r r := fun r q hy => by
          refine s.r r ?_
          rw [hy] at hlen ⊢
          exact la_own s.lt hlen q
        by_cases f0 : (ps[M.b]'s.lt).fin = 0
        · have hE : eOf (ps[M.b]'s.lt) = .jump (ps[M.b]'s.lt).thn.toNat := by unfold _root_.Go.Proofs.YtddcndlogoajkaaGreatDoor.L8.Lv.eOf; rw [if_pos f0]
          refine fin { toM (ps[M.b]'s.lt).thn { M with n := M.n } with s := M.s + 1 } { toM (ps[M.b]'s.lt).thn { M' with n := M.n } with s := M'.s + 1 } ?_ ?_ (s.to (by have := tn.2 (by omega); omega) (by rw [hE]; simp [_root_.Go.Proofs.YtddcndlogoajkaaGreatDoor.L8.Lv.nextE]) hlen (by omega))
          · unfold Sm.endM; rw [if_pos f0]
          · unfold Sm.endM; rw [x1, if_pos f0, x3, ← s.n]
        · by_cases f1 : (ps[M.b]'s.lt).fin = 1
          · have hy : M.y = false := by
              cases hy : M.y
              · rfl
              · have := s.yf hy; omega
            have hE : eOf (ps[M.b]'s.lt) = .branch (ps[M.b]'s.lt).a.toNat (ps[M.b]'s.lt).thn.toNat (ps[M.b]'s.lt).els.toNat := by unfold _root_.Go.Proofs.YtddcndlogoajkaaGreatDoor.L8.Lv.eOf; rw [if_neg f0, if_pos f1]
            have ha := own (ps[M.b]'s.lt).a.toNat (by rw [hE]; simp [_root_.Go.Proofs.YtddcndlogoajkaaGreatDoor.L8.Lv.E.own]) hy
            by_cases hz : M.r (ps[M.b]'s.lt).a.toNat = 0
            · refine fin { toM (ps[M.b]'s.lt).els { M with n := M.n } with s := M.s + 1 } { toM (ps[M.b]'s.lt).els { M' with n := M.n } with s := M'.s + 1 } ?_ ?_ (s.to (by have := en.2 f1; omega) (by rw [hE]; simp [_root_.Go.Proofs.YtddcndlogoajkaaGreatDoor.L8.Lv.nextE]) hlen (by omega))
              · unfold Sm.endM; rw [if_neg f0, if_pos f1, if_pos hz]
              · unfold Sm.endM; rw [x1, if_neg f0, if_pos f1, x2, ← ha, if_pos hz, x4, ← s.n]
            · refine fin { toM (ps[M.b]'s.lt).thn { M with n := M.n } with s := M.s + 1 } { toM (ps[M.b]'s.lt).thn { M' with n := M.n } with s := M'.s + 1 } ?_ ?_ (s.to (by have := tn.2 (by omega); omega) (by rw [hE]; simp [_root_.Go.Proofs.YtddcndlogoajkaaGreatDoor.L8.Lv.nextE]) hlen (by omega))
              · unfold Sm.endM; rw [if_neg f0, if_pos f1, if_neg hz]
              · unfold Sm.endM; rw [x1, if_neg f0, if_pos f1, x2, ← ha, if_neg hz, x3, ← s.n]
          · by_cases f2 : (ps[M.b]'s.lt).fin = 2
            · have hy : M.y = false := by
                cases hy : M.y
                · rfl
                · have := s.yf hy; omega
              have hE : eOf (ps[M.b]'s.lt) = .halt (ps[M.b]'s.lt).a.toNat := by unfold _root_.Go.Proofs.YtddcndlogoajkaaGreatDoor.L8.Lv.eOf; rw [if_neg f0, if_neg f1, if_pos f2]
              have ha := own (ps[M.b]'s.lt).a.toNat (by rw [hE]; simp [_root_.Go.Proofs.YtddcndlogoajkaaGreatDoor.L8.Lv.E.own]) hy
              have q1 : endM (ps[M.b]'s.lt) M = { M with e := 0, v := M.r (ps[M.b]'s.lt).a.toNat } := by unfold Sm.endM; rw [if_neg f0, if_neg f1, if_pos f2]
              have q2 : endM x' M' = { M' with e := 0, v := M'.r (ps[M.b]'s.lt).a.toNat } := by unfold Sm.endM; rw [x1, if_neg f0, if_neg f1, if_pos f2, x2]
              refine ⟨1, by omega, fun _ => ?_, fun q => ?_⟩
              · rw [e1, e2 0, hs2, q1, q2, run_over (by simp), run_over (by simp)]
                exact ⟨rfl, s.pr, fun _ => ⟨ha.symm, s.m⟩, by show M'.s + 1 ≤ M.s + 1; omega⟩
              · rw [e1, q1, run_over (by simp)] at q
                cases q
            · have f3 : (ps[M.b]'s.lt).fin = 3 := by omega
              have hE : eOf (ps[M.b]'s.lt) = .loop (ps[M.b]'s.lt).a.toNat (ps[M.b]'s.lt).thn.toNat := by unfold _root_.Go.Proofs.YtddcndlogoajkaaGreatDoor.L8.Lv.eOf; rw [if_neg f0, if_neg f1, if_neg f2]
              have hrn : rndM (ps[M.b]'s.lt).a M' = rndM (ps[M.b]'s.lt).a M := by
                unfold Sm.rndM
                rw [s.y]
                cases hy : M.y
                · have ha := own (ps[M.b]'s.lt).a.toNat (by rw [hE]; simp [_root_.Go.Proofs.YtddcndlogoajkaaGreatDoor.L8.Lv.E.own]) hy
                  simp only [Bool.false_eq_true, if_false]
                  rw [ha]
                · simp only [if_true]
                  rw [s.n]
              by_cases hz : 0 < rndM (ps[M.b]'s.lt).a M
              · refine fin { M with n := rndM (ps[M.b]'s.lt).a M, y := true, o := 0, s := M.s + 1 } { M' with n := rndM (ps[M.b]'s.lt).a M, y := true, o := 0, s := M'.s + 1 } ?_ ?_ ⟨s.e, s.e', s.b, rfl, s.m, s.pr, rfl, s.lt, Nat.zero_le _, .inr ⟨fun q => (by have := q.2.1; cases this), rfl⟩, fun _ => f3, fun r q => s.r r (la_turn s.lt hlen (z := ⟨M.b, 2, 0⟩) (by rw [hE]; simp [_root_.Go.Proofs.YtddcndlogoajkaaGreatDoor.L8.Lv.nextE]) q), by show M'.s + 1 ≤ M.s + 1; omega⟩
                · unfold Sm.endM; rw [if_neg f0, if_neg f1, if_neg f2, if_pos hz]
                · unfold Sm.endM; rw [x1, if_neg f0, if_neg f1, if_neg f2, x2, hrn, if_pos hz]
              · refine fin { toM (ps[M.b]'s.lt).thn { M with n := rndM (ps[M.b]'s.lt).a M } with s := M.s + 1 } { toM (ps[M.b]'s.lt).thn { M' with n := rndM (ps[M.b]'s.lt).a M } with s := M'.s + 1 } ?_ ?_ (s.to (by have := tn.2 (by omega); omega) (by rw [hE]; simp [_root_.Go.Proofs.YtddcndlogoajkaaGreatDoor.L8.Lv.nextE]) hlen (by omega))
                · unfold Sm.endM; rw [if_neg f0, if_neg f1, if_neg f2, if_neg hz]
                · unfold Sm.endM; rw [x1, if_neg f0, if_neg f1, if_neg f2, x2, x3, hrn, if_neg hz]
end
end Go.Proofs.YtddcndlogoajkaaGreatDoor.L8.Bt
namespace Go.Proofs.YtddcndlogoajkaaGreatDoor.L8.Sm
open Go.ChangeShapes Go.WideShapes Go.ChangeAt Go.RowKit
open _root_.Go.Proofs.YtddcndlogoajkaaGreatDoor.L8.Op
set_option maxRecDepth 20000
/-- Steps dealt out in parts come to the same. -/
theorem run_add (ps : List Bk) : ∀ (a b : Nat) (M : Ma), runM ps b (runM ps a M) = runM ps (a + b) M
  | 0, b, M => by
    rw [Nat.zero_add]
    rcases run_zero_trap (ps := ps) M with h | ⟨h1, h2, h⟩
    · rw [h]
    · rw [h, run_over (by simp)]
      cases b <;> simp [runM, h1, h2]
  | a + 1, b, M => by
    rw [show a + 1 + b = (a + b) + 1 by omega]
    by_cases h : M.e = 100
    · cases ht : trapB ps M
      · have e1 : runM ps (a + 1) M = runM ps a (stepM ps M) := by simp [runM, h, ht]
        have e2 : runM ps (a + b + 1) M = runM ps (a + b) (stepM ps M) := by simp [runM, h, ht]
        rw [e1, e2, run_add ps a b]
      · have e1 : runM ps (a + 1) M = { M with e := 101 } := by simp [runM, h, ht]
        have e2 : runM ps (a + b + 1) M = { M with e := 101 } := by simp [runM, h, ht]
        rw [e1, e2, run_over (by simp)]
    · rw [run_over h, run_over h, run_over h]

end Go.Proofs.YtddcndlogoajkaaGreatDoor.L8.Sm
namespace Go.Proofs.YtddcndlogoajkaaGreatDoor.L8.Bt
open Go.ChangeShapes Go.WideShapes Go.ChangeAt Go.RowKit
open _root_.Go.Proofs.YtddcndlogoajkaaGreatDoor.L8.Op _root_.Go.Proofs.YtddcndlogoajkaaGreatDoor.L8.So
open _root_.Go.Proofs.YtddcndlogoajkaaGreatDoor.L8.Lv (PB bOf)
open _root_.Go.Proofs.YtddcndlogoajkaaGreatDoor.L8.Sm (Ma Inv PsM runM stepM nextM trapB opM landO endM toM lst listM initM run_over run_add memL outMem)

theorem step_pr (ps : List Bk) (M : Ma) : M.pr <+: (stepM ps M).pr := by
  unfold Sm.stepM Sm.nextM
  split
  · split
    · unfold Sm.opM Sm.landO
      split
      · exact List.prefix_refl _
      · split
        · exact List.prefix_append _ _
        · exact List.prefix_refl _
    · unfold Sm.endM Sm.toM
      split
      · exact List.prefix_refl _
      · split
        · exact List.prefix_refl _
        · split
          · exact List.prefix_refl _
          · split <;> exact List.prefix_refl _
  · exact List.prefix_refl _
theorem run_pr (ps : List Bk) : ∀ (k : Nat) (M : Ma), M.pr <+: (runM ps k M).pr
  | 0, M => by rw [(run_zero_pr ps M).1]; exact List.prefix_refl _
  | k + 1, M => by
    show M.pr <+: (if M.e = 100 then (if trapB ps M then { M with e := 101 } else runM ps k (stepM ps M)) else M).pr
    split
    · split
      · exact List.prefix_refl _
      · exact (step_pr ps M).trans (run_pr ps k _)
    · exact List.prefix_refl _
/-- The second run is no worse than the first. -/
structure Bet (X Y : Ma) : Prop where
  d : X.e ≠ 100 → Dn X Y
  p : X.e = 100 → X.pr <+: Y.pr
theorem Bet.refl (X : Ma) : Bet X X := ⟨fun _ => ⟨rfl, rfl, fun _ => ⟨rfl, rfl⟩, Nat.le_refl _⟩, fun _ => List.prefix_refl _⟩
theorem Bet.trans {X Y Z : Ma} (h : Bet X Y) (g : Bet Y Z) : Bet X Z := by
  refine ⟨fun q => ?_, fun q => ?_⟩
  · obtain ⟨a1, a2, a3, a4⟩ := h.d q
    obtain ⟨b1, b2, b3, b4⟩ := g.d (by rw [a1]; exact q)
    refine ⟨b1.trans a1, b2.trans a2, fun z => ?_, Nat.le_trans b4 a4⟩
    obtain ⟨c1, c2⟩ := a3 z
    obtain ⟨d1, d2⟩ := b3 (a1.trans z)
    exact ⟨d1.trans c1, d2.trans c2⟩
  · have h1 := h.p q
    by_cases e : Y.e = 100
    · exact h1.trans (g.p e)
    · rw [(g.d e).pr]; exact h1
theorem stp_run {ps qs : List Bk} (hG : PsG ps) (h : Stp ps qs) (f : Nat) (rs ms : List Int) : Bet (runM ps f (initM rs ms)) (runM qs f (initM rs ms)) := by
  obtain ⟨i, j, l1, o, l2, hd⟩ := stp_de h
  have s : Sd ps i j (initM rs ms) (initM rs ms) := ⟨rfl, rfl, rfl, rfl, rfl, rfl, rfl, hG.p, Nat.zero_le _, .inr ⟨fun q => (by have := q.2.2; simp [Sm.initM] at this), rfl⟩, fun q => (by cases q), fun r _ => rfl, Nat.le_refl _⟩
  obtain ⟨g, hg, k1, k2⟩ := de_sim hG hd f _ _ s
  obtain ⟨d, rfl⟩ : ∃ d, f = g + d := ⟨f - g, by omega⟩
  have ha := run_add qs g d (initM rs ms)
  refine ⟨fun q => ?_, fun q => ?_⟩
  · have hk := k1 q
    have hr : runM qs d (runM qs g (initM rs ms)) = runM qs g (initM rs ms) := run_over (by rw [hk.e]; exact q) d
    rw [← ha, hr]
    exact hk
  · rw [← k2 q, ← ha]
    exact run_pr qs d _
theorem tks_run : ∀ {n : Nat} {ps qs : List Bk} (_ : PsG ps) (_ : Tks n ps qs) (f : Nat) (rs ms : List Int), Bet (runM ps f (initM rs ms)) (runM qs f (initM rs ms))
  | 0, ps, qs, _, h, f, rs, ms => by
    have h : ps = qs := h
    subst h
    exact Bet.refl _
  | n + 1, ps, qs, hG, h, f, rs, ms => by
    obtain ⟨c, h1, h2⟩ := h
    exact (stp_run hG h1 f rs ms).trans (tks_run (psG_stp h1 hG).1 h2 f rs ms)
/-- A program made better does as it did. -/
theorem better_run {ps qs : List Bk} (hG : PsG ps) (h : Fin (fdP ps) qs) (f : Nat) {rs ms : List Int} (hr : ∀ x ∈ rs, Sm.In64 x) (hm : ∀ x ∈ ms, Sm.In64 x) : Bet (runM ps f (initM rs ms)) (runM qs f (initM rs ms)) := by
  obtain ⟨-, n, hn⟩ := h
  rw [← fold_run hG f (initM rs ms) fun _ => kv_init hG hr hm]
  exact tks_run (psG_fold hG) hn f rs ms
theorem fin_g {ps qs : List Bk} (hG : PsG ps) (h : Fin ps qs) : PsG qs ∧ qs.length = ps.length ∧ opsN qs ≤ opsN ps := by
  obtain ⟨-, n, hn⟩ := h
  obtain ⟨h1, h2, h3⟩ := psG_tks hn hG
  exact ⟨h1, h2, by omega⟩
theorem dn_out {X Y : Ma} (h : Dn X Y) : (if Y.e = 0 then Y.v else 0) = (if X.e = 0 then X.v else 0) ∧ outMem Y = outMem X := by
  obtain ⟨h1, -, h3, -⟩ := h
  constructor
  · rw [h1]
    split
    · rename_i q
      exact (h3 q).1
    · rfl
  · unfold Sm.outMem
    rw [h1]
    split
    · rename_i q
      unfold Sm.memL
      rw [(h3 q).2]
    · rfl
end Go.Proofs.YtddcndlogoajkaaGreatDoor.L8.Bt
