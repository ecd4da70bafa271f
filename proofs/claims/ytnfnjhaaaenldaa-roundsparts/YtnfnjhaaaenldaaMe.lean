/- Rows of what is issued, as they lie in memory while they are gathered, and as they are read. Conditions: none. -/
import Derived.Test.YtnfnjhaaaenldaaPu
import Derived.Deep.AppendLies
import Derived.Deep.RegionLaw
import Derived.RegionTactic
namespace Go.Proofs.Ytnfnjhaaaenldaa.Ro
open Go.ChangeShapes Go.WideShapes Go.ChangeAt Go.RowKit
open _root_.Go.Proofs.Ytnfnjhaaaenldaa.Op _root_.Go.Proofs.Ytnfnjhaaaenldaa.So
open _root_.Go.Proofs.Ytnfnjhaaaenldaa.Sp (Pr)
open _root_.Go.Proofs.Ytnfnjhaaaenldaa.Ss
set_option maxRecDepth 20000

theorem info37 : (Try.prog.info? 37).map (fun i => (i.zero, i.size, i.bytes)) = some (some (.agg #[.int .i64 0, .int .i64 0]), 2, 16) := by kernel_rfl
/-- What is issued, as cells. -/
def pcells (l : List Pr) : List Value := l.flatMap fun x => [.int .i64 x.1, .int .i64 x.2]
theorem pcells_app (l m : List Pr) : pcells (l ++ m) = pcells l ++ pcells m := by unfold pcells; simp
theorem pcells_len (l : List Pr) : (pcells l).length = l.length * 2 := by
  induction l with
  | nil => rfl
  | cons x l ih =>
    have : pcells (x :: l) = [.int .i64 x.1, .int .i64 x.2] ++ pcells l := rfl
    rw [this, List.length_append, ih]
    simp; omega
theorem pcells_at {l : List Pr} {k : Nat} {x : Pr} (h : l[k]? = some x) : (pcells l)[k * 2]? = some (.int .i64 x.1) ∧ (pcells l)[k * 2 + 1]? = some (.int .i64 x.2) := by
  induction l generalizing k with
  | nil => simp at h
  | cons y l ih =>
    have hc : pcells (y :: l) = [.int .i64 y.1, .int .i64 y.2] ++ pcells l := rfl
    cases k with
    | zero =>
      simp only [List.getElem?_cons_zero, Option.some.injEq] at h
      subst h
      rw [hc]
      exact ⟨rfl, rfl⟩
    | succ k =>
      have := ih (k := k) (by simpa using h)
      rw [hc, show (k + 1) * 2 = k * 2 + 2 by omega]
      exact this
/-- The row of one cycle turns. -/
def updR (row : Nat → List Pr) (c : Nat) (l : List Pr) : Nat → List Pr := fun d => if d = c then l else row d
def updV (f : Nat → Value) (c : Nat) (v : Value) : Nat → Value := fun d => if d = c then v else f d
/-- Rows while they are gathered: each in a block of its own. -/
structure Rs (W : World) (B rb N : Nat) (f : Nat → Value) (row : Nat → List Pr) : Prop where
  c : ∀ c, c < N → W.cell? ⟨rb, c, none⟩ = some (f c)
  z : ∀ k, W.frozen? ⟨rb, k, none⟩ = false
  o : ∀ c, c < N → W.ownsRow B 37 2 (f c) (row c).length (pcells (row c))
  inj : ∀ c d, c < N → d < N → (f c).ownBlock ≠ none → (f c).ownBlock = (f d).ownBlock → c = d
  lt : rb < B
  sz : B ≤ W.heap.size
/-- What may turn while rows are gathered. -/
abbrev Gx (B rb : Nat) : Nat → Prop := fun k => k = rb ∨ B ≤ k
structure Gt (w1 : World) (B rb N : Nat) (W : World) (row : Nat → List Pr) : Prop where
  fr : Fr (Gx B rb) w1 W
  rs : ∃ f, Rs W B rb N f row
theorem row_fr {X : Nat → Prop} {W W2 : World} {B m : Nat} {v : Value} {xs : List Value} (h : W.ownsRow B 37 2 v m xs) (g : Fr X W W2) (hX : ∀ k, v.ownBlock = some k → ¬ X k) : W2.ownsRow B 37 2 v m xs := by
  have hlt := h.lt
  obtain ⟨h1, ⟨h2, h3⟩ | ⟨q, cap, cur, h2, h3, h4, h5⟩⟩ := h
  · exact ⟨h1, .inl ⟨h2, h3⟩⟩
  · have hq := hlt q (by rw [h2]; rfl)
    exact ⟨h1, .inr ⟨q, cap, cur, h2, h3, (g.block q hq.2 (hX q (by rw [h2]; rfl))).trans h4, h5⟩⟩
theorem Rs.up {W W' : World} {B rb N : Nat} {f : Nat → Value} {row : Nat → List Pr} (h : Rs W B rb N f row) (g : Below W.heap.size W W') : Rs W' B rb N f row := by
  have hl : rb < W.heap.size := Nat.lt_of_lt_of_le h.lt h.sz
  exact ⟨fun c hc => by rw [(bcell g).1 _ _ hl]; exact h.c c hc, fun k => by rw [(bcell g).2 _ _ hl]; exact h.z k, fun c hc => row_fr (h.o c hc) (Fr.of (X := Non) g) fun _ _ e => e, h.inj, h.lt, Nat.le_trans h.sz g.size⟩
theorem Gt.up {w1 W W' : World} {B rb N : Nat} {row : Nat → List Pr} (h : Gt w1 B rb N W row) (g : Below W.heap.size W W') : Gt w1 B rb N W' row := by
  obtain ⟨f, hf⟩ := h.rs
  exact ⟨h.fr.then g, f, hf.up g⟩
/-- One more is put into a row. -/
theorem Rs.next {W W' w4 : World} {B rb N g cap c : Nat} {f : Nat → Value} {row : Nat → List Pr} {x : Pr} (h : Rs W B rb N f row) (hW : Below W.heap.size W W') (hgrow : W'.grownBy w4 (f c).ownBlock) (hc : c < N)
    (hown : w4.ownsRow B 37 2 (.slice (some ⟨g, 0, none⟩) ((row c).length + 1) cap) ((row c).length + 1) (pcells (row c) ++ [.int .i64 x.1, .int .i64 x.2])) (hg : (f c).ownBlock = some g ∨ W.heap.size ≤ g) :
    Fr (Gx B rb) W w4 ∧ (w4.cell? ⟨rb, c, none⟩ = some (f c) ∧ w4.frozen? ⟨rb, c, none⟩ = false ∧ rb < w4.heap.size) ∧
    Rs (w4.setCell ⟨rb, c, none⟩ (.slice (some ⟨g, 0, none⟩) ((row c).length + 1) cap)) B rb N (updV f c (.slice (some ⟨g, 0, none⟩) ((row c).length + 1) cap)) (updR row c (row c ++ [x])) := by
  have h1 := h.up hW
  have hl : rb < W'.heap.size := Nat.lt_of_lt_of_le h1.lt h1.sz
  have fr : Fr (fun k => (f c).ownBlock = some k) W' w4 := ⟨hgrow.os, hgrow.tape, hgrow.output, hgrow.size, fun k hk hx => hgrow.block k hk fun e => hx e.symm⟩
  have nrb : ¬ (f c).ownBlock = some rb := fun e => by have := ((h.o c hc).lt _ e).1; have := h.lt; omega
  have frB : Fr (Gx B rb) W w4 := (Fr.of (X := Gx B rb) hW).trans fr fun k _ e => .inr ((h.o c hc).lt _ e).1
  refine ⟨frB, ⟨?_, ?_, Nat.lt_of_lt_of_le hl fr.size⟩, ?_⟩
  · rw [fr.cell hl nrb]; exact h1.c c hc
  · rw [fr.frozen hl nrb]; exact h1.z c
  · have g2 : Fr (One rb) w4 (w4.setCell ⟨rb, c, none⟩ (.slice (some ⟨g, 0, none⟩) ((row c).length + 1) cap)) := (Fr.refl (One rb) w4).setCell (.inr rfl) _ _
    refine ⟨fun d hd => ?_, fun k => ?_, fun d hd => ?_, fun d e hd he => ?_, h.lt, ?_⟩
    · unfold updV
      by_cases e : d = c
      · subst e
        rw [if_pos rfl]
        exact World.cell?_setCell_same _ _ _ ((fr.cell hl nrb _).trans (h1.c d hc))
      · rw [if_neg e, World.cell?_setCell_other _ _ _ _ (by intro e'; injection e' with _ e2; exact e e2.symm), fr.cell hl nrb]
        exact h1.c d hd
    · rw [World.frozen?_setCell, fr.frozen hl nrb]; exact h1.z k
    · unfold updV updR
      by_cases e : d = c
      · subst e
        rw [if_pos rfl, if_pos rfl, List.length_append, pcells_app]
        refine row_fr hown g2 fun k hk e' => ?_
        have e2 : k = rb := e'
        have e3 : g = k := by simpa [Value.ownBlock] using hk
        rcases hg with hg | hg
        · exact nrb (by rw [hg]; congr 1; omega)
        · have := h.lt; have := h.sz; omega
      · rw [if_neg e, if_neg e]
        refine row_fr (row_fr (h1.o d hd) fr fun k hk e' => ?_) g2 fun k hk e' => ?_
        · exact e (h.inj d c hd hc (by rw [hk]; simp) (by rw [hk]; exact e'.symm))
        · have e2 : k = rb := e'
          have := ((h.o d hd).lt _ hk).1
          have := h.lt
          omega
    · unfold updV
      by_cases e1 : d = c
      · by_cases e2 : e = c
        · exact fun _ _ => e1.trans e2.symm
        · rw [if_pos e1, if_neg e2]
          intro h2 h3
          have h3 : some g = (f e).ownBlock := h3
          rcases hg with hg | hg
          · rw [← hg] at h3
            exact absurd (h.inj c e hc he (by rw [hg]; simp) h3) fun h4 => e2 h4.symm
          · have := ((h.o e he).lt _ h3.symm).2
            omega
      · by_cases e2 : e = c
        · rw [if_neg e1, if_pos e2]
          intro h2 h3
          have h3 : (f d).ownBlock = some g := h3
          rcases hg with hg | hg
          · rw [← hg] at h3
            exact absurd (h.inj d c hd hc h2 h3) e1
          · have := ((h.o d hd).lt _ h3).2
            omega
        · rw [if_neg e1, if_neg e2]
          exact h.inj d e hd he
    · rw [World.size_setCell]
      exact Nat.le_trans h1.sz fr.size
/-- A row that is read. -/
structure Sl (W : World) (v : Value) (l : List Pr) : Prop where
  is : ∃ a cap, v = .slice a l.length cap ∧ (0 < l.length → ∃ b, a = some ⟨b, 0, none⟩ ∧ b < W.heap.size ∧ ∀ k x, l[k]? = some x → W.cell? ⟨b, k * 2, none⟩ = some (.int .i64 x.1) ∧ W.cell? ⟨b, k * 2 + 1, none⟩ = some (.int .i64 x.2))
theorem Sl.up {W W' : World} {v : Value} {l : List Pr} (h : Sl W v l) (g : Below W.heap.size W W') : Sl W' v l := by
  obtain ⟨a, cap, e, h⟩ := h.is
  refine ⟨a, cap, e, fun h0 => ?_⟩
  obtain ⟨b, eb, hb, hc⟩ := h h0
  exact ⟨b, eb, Nat.lt_of_lt_of_le hb g.size, fun k x hx => by rw [(bcell g).1 _ _ hb, (bcell g).1 _ _ hb]; exact hc k x hx⟩
/-- Rows that are read. -/
structure Rd (W : World) (v : Value) (N : Nat) (row : Nat → List Pr) : Prop where
  is : ∃ a cap, v = .slice a N cap ∧ N ≤ cap ∧ (0 < N → ∃ b o, a = some ⟨b, o, none⟩ ∧ b < W.heap.size ∧ ∀ c, c < N → ∃ u, W.cell? ⟨b, o + c, none⟩ = some u ∧ Sl W u (row c))
theorem Rd.up {W W' : World} {v : Value} {N : Nat} {row : Nat → List Pr} (h : Rd W v N row) (g : Below W.heap.size W W') : Rd W' v N row := by
  obtain ⟨a, cap, e, hcap, h⟩ := h.is
  refine ⟨a, cap, e, hcap, fun h0 => ?_⟩
  obtain ⟨b, o, eb, hb, hc⟩ := h h0
  refine ⟨b, o, eb, Nat.lt_of_lt_of_le hb g.size, fun c hcN => ?_⟩
  obtain ⟨u, hu, hs⟩ := hc c hcN
  exact ⟨u, by rw [(bcell g).1 _ _ hb]; exact hu, hs.up g⟩
theorem Rd.nil (W : World) (row : Nat → List Pr) : Rd W (.slice none 0 0) 0 row := ⟨none, 0, rfl, Nat.le_refl _, fun h => by omega⟩
theorem Sl.of {W : World} {B : Nat} {v : Value} {l : List Pr} (h : W.ownsRow B 37 2 v l.length (pcells l)) : Sl W v l := by
  have hlt := h.lt
  obtain ⟨h1, ⟨h2, h3⟩ | ⟨q, cap, cur, h2, h3, h4, h5, h6, h7, h8⟩⟩ := h
  · exact ⟨none, 0, by rw [h2, h3], fun h => by omega⟩
  · refine ⟨_, cap, h2, fun h0 => ⟨q, rfl, (hlt q (by rw [h2]; rfl)).2, fun k x hx => ?_⟩⟩
    have hk : k < l.length := by
      rcases Nat.lt_or_ge k l.length with h | h
      · exact h
      · rw [List.getElem?_eq_none h] at hx; cases hx
    obtain ⟨c1, c2⟩ := pcells_at hx
    rw [← h8] at c1 c2
    rw [List.getElem?_take, if_pos (by omega)] at c1 c2
    rw [cell_of_row W q _ cur 37 (0, 0) h4, cell_of_row W q _ cur 37 (0, 0) h4]
    simp only [Array.getElem?_toList] at c1 c2
    exact ⟨c1, c2⟩
theorem Rd.of {W : World} {B rb N : Nat} {f : Nat → Value} {row : Nat → List Pr} (h : Rs W B rb N f row) : Rd W (.slice (some ⟨rb, 0, none⟩) N N) N row :=
  ⟨_, N, rfl, Nat.le_refl _, fun _ => ⟨rb, 0, rfl, Nat.lt_of_lt_of_le h.lt h.sz, fun c hc => ⟨f c, by rw [Nat.zero_add]; exact h.c c hc, Sl.of (h.o c hc)⟩⟩⟩
/-- The cycles of a plan, as they come in. -/
structure Nl (W : World) (B : Nat) (a : Option Addr) (n : Nat) (g : Nat → Int) : Prop where
  is : 0 < n → ∃ b f, a = some ⟨b, f, none⟩ ∧ b < B ∧ ∀ k, k < n → W.cell? ⟨b, f + k, none⟩ = some (.int .i64 (g k))
theorem Nl.fr {X : Nat → Prop} {W W' : World} {B : Nat} {a : Option Addr} {n : Nat} {g : Nat → Int} (h : Nl W B a n g) (hB : B ≤ W.heap.size) (hb : Fr X W W') (hX : ∀ k, k < B → ¬ X k) : Nl W' B a n g := ⟨fun h0 => by
  obtain ⟨b, f, e, z, hx⟩ := h.is h0
  exact ⟨b, f, e, z, fun k hk => by rw [hb.cell (Nat.lt_of_lt_of_le z hB) (hX b z)]; exact hx k hk⟩⟩
end Go.Proofs.Ytnfnjhaaaenldaa.Ro
