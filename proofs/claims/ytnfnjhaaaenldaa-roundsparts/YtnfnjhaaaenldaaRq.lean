/- All rows are put into order one after the other; the rows of so many rounds (rowsOf), read off the program by the walk. Conditions: the plan may be, and is not too long. -/
import Derived.Test.YtnfnjhaaaenldaaSq
import Derived.Test.YtnfnjhaaaenldaaGa
namespace Go.Proofs.Ytnfnjhaaaenldaa.Ro
open Go.ChangeShapes Go.WideShapes Go.ChangeAt Go.RowKit
open _root_.Go.Proofs.Ytnfnjhaaaenldaa.Op _root_.Go.Proofs.Ytnfnjhaaaenldaa.So
open _root_.Go.Proofs.Ytnfnjhaaaenldaa.Sp (Pr)
open _root_.Go.Proofs.Ytnfnjhaaaenldaa.Ss
set_option maxRecDepth 20000

/-- A row that can be put into order. -/
def Sw (W : World) (B : Nat) (v : Value) (l : List Pr) : Prop :=
  (v = .slice none 0 0 ∧ l = []) ∨ ∃ g cap, v = .slice (some ⟨g, 0, none⟩) l.length cap ∧ B ≤ g ∧ g < W.heap.size ∧ (∀ k, W.frozen? ⟨g, k, none⟩ = false) ∧ ∀ k x, l[k]? = some x → W.cell? ⟨g, k * 2, none⟩ = some (.int .i64 x.1) ∧ W.cell? ⟨g, k * 2 + 1, none⟩ = some (.int .i64 x.2)
theorem Sw.sl {W : World} {B : Nat} {v : Value} {l : List Pr} (h : Sw W B v l) : Sl W v l := by
  rcases h with ⟨rfl, rfl⟩ | ⟨g, cap, rfl, h1, h2, h3, h4⟩
  · exact ⟨none, 0, rfl, fun h => by simp at h⟩
  · exact ⟨_, cap, rfl, fun _ => ⟨g, rfl, h2, h4⟩⟩
theorem Sw.of {W : World} {B : Nat} {v : Value} {l : List Pr} (h : W.ownsRow B 37 2 v l.length (pcells l)) : Sw W B v l := by
  have hs := Sl.of h
  have hlt := h.lt
  obtain ⟨h1, ⟨h2, h3⟩ | ⟨q, cap, cur, h2, h3, h4, h5, h6, h7, h8⟩⟩ := h
  · exact .inl ⟨h2, List.eq_nil_of_length_eq_zero h3⟩
  · refine .inr ⟨q, cap, h2, h3, (hlt q (by rw [h2]; rfl)).2, fun k => by simp [World.frozen?, h4], fun k x hx => ?_⟩
    have hk : k < l.length := by
      rcases Nat.lt_or_ge k l.length with h | h
      · exact h
      · rw [List.getElem?_eq_none h] at hx; cases hx
    obtain ⟨a, c, e, hi⟩ := hs.is
    obtain ⟨b, eb, -, hc⟩ := hi (by omega)
    rw [h2, eb] at e
    injection e with e _ _
    injection e with e
    injection e with e
    subst e
    exact hc k x hx
theorem Sw.fr {X : Nat → Prop} {W W' : World} {B : Nat} {v : Value} {l : List Pr} (h : Sw W B v l) (g : Fr X W W') (hX : ∀ k, v.ownBlock = some k → ¬ X k) : Sw W' B v l := by
  rcases h with h | ⟨q, cap, rfl, h1, h2, h3, h4⟩
  · exact .inl h
  · have hx := hX q rfl
    exact .inr ⟨q, cap, rfl, h1, Nat.lt_of_lt_of_le h2 g.size, fun k => by rw [g.frozen h2 hx]; exact h3 k, fun k x e => by rw [g.cell h2 hx, g.cell h2 hx]; exact h4 k x e⟩
/-- Rows while they are put into order. -/
structure Rq (w1 W : World) (B rb N : Nat) (f : Nat → Value) (row : Nat → List Pr) : Prop where
  fr : Fr (Gx B rb) w1 W
  c : ∀ c, c < N → W.cell? ⟨rb, c, none⟩ = some (f c)
  s : ∀ c, c < N → Sw W B (f c) (row c)
  inj : ∀ c d, c < N → d < N → (f c).ownBlock ≠ none → (f c).ownBlock = (f d).ownBlock → c = d
  lt : rb < B
  sz : B ≤ W.heap.size
theorem Rq.of {w1 W : World} {B rb N : Nat} {row : Nat → List Pr} (h : Gt w1 B rb N W row) : ∃ f, Rq w1 W B rb N f row := by
  obtain ⟨f, hf⟩ := h.rs
  exact ⟨f, h.fr, hf.c, fun c hc => Sw.of (hf.o c hc), hf.inj, hf.lt, hf.sz⟩
theorem Rq.rd {w1 W : World} {B rb N : Nat} {f : Nat → Value} {row : Nat → List Pr} (h : Rq w1 W B rb N f row) : Rd W (.slice (some ⟨rb, 0, none⟩) N N) N row :=
  ⟨_, N, rfl, Nat.le_refl _, fun _ => ⟨rb, 0, rfl, Nat.lt_of_lt_of_le h.lt h.sz, fun c hc => ⟨f c, by rw [Nat.zero_add]; exact h.c c hc, (h.s c hc).sl⟩⟩⟩
/-- One row turns. -/
theorem Rq.step {w1 W W' : World} {B rb N c : Nat} {f : Nat → Value} {row : Nat → List Pr} {l : List Pr} (h : Rq w1 W B rb N f row) (hc : c < N) (g : Fr (fun k => (f c).ownBlock = some k) W W') (hs : Sw W' B (f c) l) : Rq w1 W' B rb N f (updR row c l) := by
  have hl : rb < W.heap.size := Nat.lt_of_lt_of_le h.lt h.sz
  have ob : ∀ k, (f c).ownBlock = some k → B ≤ k := fun k e => by
    rcases h.s c hc with ⟨e1, -⟩ | ⟨q, cap, e1, h1, -⟩
    · rw [e1] at e; cases e
    · rw [e1] at e
      have e : some q = some k := e
      injection e with e
      omega
  have nrb : ¬ (f c).ownBlock = some rb := fun e => by have := ob _ e; have := h.lt; omega
  refine ⟨h.fr.trans g fun k _ e => .inr (ob k e), fun d hd => by rw [g.cell hl nrb]; exact h.c d hd, fun d hd => ?_, h.inj, h.lt, Nat.le_trans h.sz g.size⟩
  unfold updR
  by_cases e : d = c
  · subst e; rw [if_pos rfl]; exact hs
  · rw [if_neg e]
    exact (h.s d hd).fr g fun k hk e' => e (h.inj d c hd hc (by rw [hk]; simp) (by rw [hk]; exact e'.symm))
theorem map_getD (l : List Pr) : (List.range l.length).map (fun k => l.getD k (0, 0)) = l := by
  refine List.ext_getElem (by simp) fun i h1 h2 => ?_
  simp at h1
  simp [h1]
theorem Sw.rw {W : World} {B g cap : Nat} {l : List Pr} (h : Sw W B (.slice (some ⟨g, 0, none⟩) l.length cap) l) : B ≤ g ∧ Sp.Rw g l.length (fun _ => True) W W (fun k => l.getD k (0, 0)) := by
  rcases h with ⟨e, -⟩ | ⟨q, cap, e, h1, h2, h3, h4⟩
  · cases e
  · injection e with e _ _
    injection e with e
    injection e with e
    subst e
    have hx : ∀ k, k < l.length → l[k]? = some (l.getD k (0, 0)) := fun k hk => by simp [hk]
    exact ⟨h1, Fr.refl _ _, h2, fun k hk => (h4 k _ (hx k hk)).1, fun k hk => (h4 k _ (hx k hk)).2, h3, fun _ _ => trivial⟩
theorem Sw.back {w W : World} {B g m cap : Nat} {f : Nat → Pr} (hB : B ≤ g) (h : Sp.Rw g m (fun _ => True) w W f) : Sw W B (.slice (some ⟨g, 0, none⟩) m cap) ((List.range m).map f) := by
  refine .inr ⟨g, cap, by simp, hB, Nat.lt_of_lt_of_le h.lt h.fr.size, h.z, fun k x hx => ?_⟩
  have hk : k < m := by
    rcases Nat.lt_or_ge k m with h | h
    · exact h
    · rw [List.getElem?_eq_none (by simpa using h)] at hx; cases hx
  have e : f k = x := by simpa [hk] using hx
  subst e
  exact ⟨h.c k hk, h.d k hk⟩
/-- One row is put into order. -/
theorem rise_row {w1 W : World} {B rb N c : Nat} {f : Nat → Value} {row : Nat → List Pr} {E : Int} {cy : Nat → Int} {L n : Nat} (h : Rq w1 W B rb N f row) (hc : c < N) (hr : row c = rowP E cy (evC n L) c) (hn : L * n < 1099511627776) :
    Calls Try.prog 20 #[f c, .func (.func 21) #[] #[]] W fun e w' => e = .returned (.tuple #[]) ∧ Rq w1 w' B rb N f (updR row c (rowP E cy (evR L n) c)) := by
  have hs := h.s c hc
  have hs0 := hs
  rcases hs with ⟨e1, e2⟩ | ⟨g, cap, e1, -⟩
  · have e3 : rowP E cy (evR L n) c = [] := by
      have := sorted_is E cy L n c (fun _ => (0, 0)) (fun _ => (0, 0)) 0 (by rw [← hr, e2]; rfl) (Ps.refl _ _ _ _) (Srt.few _ _ (by omega))
      exact this.symm
    rw [e1]
    refine (rise_nil W).mono fun e w' h' => ⟨h'.1, ?_⟩
    rw [e3]
    refine h.step hc (Fr.of h'.2) ?_
    rw [e1]
    exact .inl ⟨rfl, rfl⟩
  · rw [e1] at hs0 ⊢
    obtain ⟨hB, hw⟩ := hs0.rw
    have hlen : (row c).length < 1099511627776 := by
      rw [hr]
      have := rowP_len E cy (evC n L) c
      rw [evC_len] at this
      omega
    refine (rise_any g (row c).length cap _ W hw hlen).mono fun e w' h' => ⟨h'.1, ?_⟩
    obtain ⟨-, f2, h2, h3, h4⟩ := h'
    have h5 := sorted_is E cy L n c _ f2 (row c).length (by rw [map_getD, hr]) h3 h4
    rw [← h5]
    refine h.step hc ?_ ?_
    · rw [e1]
      exact h2.fr.mono fun k _ e => by have e : k = g := e; subst e; rfl
    · rw [e1]
      exact Sw.back hB h2
end Go.Proofs.Ytnfnjhaaaenldaa.Ro
