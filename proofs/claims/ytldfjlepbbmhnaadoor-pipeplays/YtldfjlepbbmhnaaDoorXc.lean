/- The document's bundles out of words. Conditions: none. -/
import Derived.Test.YtldfjlepbbmhnaaDoorXb
namespace Go.Proofs.YtldfjlepbbmhnaaDoor.Bu
open Go.ChangeShapes Go.WideShapes Go.ChangeAt Go.RowKit
open _root_.Go.Proofs.YtldfjlepbbmhnaaDoor.Op
open _root_.Go.Proofs.YtldfjlepbbmhnaaDoor.Tb (Tab TabAt Bnds four tabAt_new ckR)
open _root_.Go.Proofs.YtldfjlepbbmhnaaDoor.So
set_option maxRecDepth 20000
/-- Words under way. -/
structure Ra (w W : World) (t : Tab) (a : Option Addr) (c : Nat) (ws : List Int) : Prop where
  row : W.ownsRow (w.heap.size + 1) 40 1 (.slice a ws.length c) ws.length (ws.map (Value.int .u64))
  t : TabAt W w.heap.size t
  up : Below w.heap.size w W
theorem Ra.next {w W W' : World} {t : Tab} {a : Option Addr} {c : Nat} {ws : List Int} (h : Ra w W t a c ws) (g : Below W.heap.size W W') : Ra w W' t a c ws := ⟨row_up h.row g, h.t.below g h.t.lt, h.up.trans (g.mono h.up.size)⟩
theorem Ra.add {w X w4 : World} {t : Tab} {a : Option Addr} {c g cap : Nat} {ws : List Int} {y : Int} (s : Ra w X t a c ws) (hgrow : X.grownBy w4 (Value.slice a ws.length c).ownBlock) (hown : w4.ownsRow (w.heap.size + 1) 40 1 (.slice (some ⟨g, 0, none⟩) (ws.length + 1) cap) (ws.length + 1) (ws.map (Value.int .u64) ++ [.int .u64 y])) : Ra w w4 t (some ⟨g, 0, none⟩) cap (ws ++ [y]) := by
  have hl := s.t.lt
  have B : Below (w.heap.size + 1) X w4 := ⟨hgrow.os, hgrow.tape, hgrow.output, hgrow.size, fun k hk => hgrow.block k (Nat.lt_of_lt_of_le hk hl) fun e => by
    have := (s.row.lt k e.symm).1
    omega⟩
  refine ⟨?_, s.t.below B (by omega), s.up.trans (B.mono (by omega))⟩
  rw [List.map_append, List.length_append]
  exact hown
theorem Ra.ws {w W : World} {t : Tab} {a : Option Addr} {c : Nat} {ws : List Int} (h : Ra w W t a c ws) (hok : ∀ y ∈ ws, 0 ≤ y ∧ y < 18446744073709551616) : Ws W a ws.length (fun j => ws.getD j 0) := by
  refine ⟨fun j hj => ?_, fun h0 => ?_⟩
  · rw [← getD_at _ _ hj]; exact hok _ (List.getElem_mem hj)
  · rcases h.row.2 with ⟨_, h1⟩ | ⟨g, cap, cur, h1, h2, h3, h4⟩
    · omega
    · injection h1 with e1 e2 e3
      subst e1
      refine ⟨g, 0, rfl, (h.row.lt g rfl).2, fun j hj => ?_⟩
      have := h.row.cells (g := g) rfl j (.int .u64 (ws.getD j 0)) (by rw [List.getElem?_map, List.getElem?_eq_getElem hj, getD_at _ _ hj]; rfl)
      rw [add_bu] at this
      exact this
theorem Ra.start (w : World) {W : World} {t : Tab} (ht : TabAt W w.heap.size t) (hu : Below w.heap.size w W) : Ra w W t none 0 [] := ⟨⟨rfl, .inl ⟨rfl, rfl⟩⟩, ht, hu⟩
/-- What the document's Encode answers. -/
def RnOut (w : World) (t : Tab) (ls : List Bn) (e : Ending) (w' : World) : Prop :=
  if allW t ls then ∃ a c, e = .returned (.tuple #[.slice a (ls.length * ofs t 4) c, .int .i64 0]) ∧ Ws w' a (ls.length * ofs t 4) (fun j => (encW t ls).getD j 0) ∧ Below w.heap.size w w'
  else e = .returned (.tuple #[.slice none 0 0, .int .i64 210]) ∧ Below w.heap.size w w'
theorem RnOut.no {w w' : World} {t : Tab} {ls : List Bn} (h : allW t ls = false) (hb : Below w.heap.size w w') : RnOut w t ls (.returned (.tuple #[.slice none 0 0, .int .i64 210])) w' := by
  unfold RnOut; rw [h]; exact ⟨rfl, hb⟩
theorem RnOut.yes {w w' : World} {t : Tab} {ls : List Bn} {a : Option Addr} {n c : Nat} (h : allW t ls = true) (hn : n = ls.length * ofs t 4) (h1 : Ws w' a n (fun j => (encW t ls).getD j 0)) (hb : Below w.heap.size w w') : RnOut w t ls (.returned (.tuple #[.slice a n c, .int .i64 0])) w' := by
  subst hn
  unfold RnOut; rw [h]; exact ⟨a, c, rfl, h1, hb⟩
end Go.Proofs.YtldfjlepbbmhnaaDoor.Bu

namespace Go.Proofs.YtldfjlepbbmhnaaDoor.Bu
open Go.ChangeShapes Go.WideShapes Go.ChangeAt Go.RowKit
open _root_.Go.Proofs.YtldfjlepbbmhnaaDoor.Op
open _root_.Go.Proofs.YtldfjlepbbmhnaaDoor.Tb (Tab TabAt Bnds four tabAt_new ckR)
open _root_.Go.Proofs.YtldfjlepbbmhnaaDoor.So
set_option maxRecDepth 20000
/-- A bundle and one of its lists under way. -/
structure Rc (w W : World) (t : Tab) (x : Bn) (p : Pb) (k : Nat) (a : Option Addr) (c : Nat) (xs : List O) : Prop where
  t : TabAt W w.heap.size t
  r : At W (w.heap.size + 1) #[.slice none 0 0, .slice none 0 0, .slice none 0 0, .slice none 0 0]
  cl : ∀ j, j < 4 → W.cell? ⟨w.heap.size + 2, j, none⟩ = some (if j = k then .slice a xs.length c else pv x p k j)
  f : ∀ j, W.frozen? ⟨w.heap.size + 2, j, none⟩ = false
  lt : w.heap.size + 2 < W.heap.size
  o : ∀ j, j < k → OpsAt W (p.a j) (x.l j) ∧ (∀ A, p.a j = some A → w.heap.size + 2 < A.block ∧ (0 < (x.l j).length → ∀ A', a = some A' → A.block ≠ A'.block))
  row : W.ownsRow (w.heap.size + 3) 55 5 (.slice a xs.length c) xs.length (ocells xs)
  up : Below w.heap.size w W
theorem Rc.next {w W W' : World} {t : Tab} {x : Bn} {p : Pb} {k : Nat} {a : Option Addr} {c : Nat} {xs : List O} (h : Rc w W t x p k a c xs) (g : Below W.heap.size W W') : Rc w W' t x p k a c xs :=
  ⟨h.t.below g h.t.lt, h.r.below g h.r.lt, fun j hj => by rw [(bcell g).1 _ _ h.lt]; exact h.cl j hj, fun j => by rw [(bcell g).2 _ _ h.lt]; exact h.f j, Nat.lt_of_lt_of_le h.lt g.size, fun j hj => ⟨(h.o j hj).1.below g, (h.o j hj).2⟩, row_up h.row g, h.up.trans (g.mono h.up.size)⟩
theorem Rc.of {w W : World} {t : Tab} {x : Bn} {p : Pb} {k : Nat} (h : Rb w W t x p k) : Rc w W t x p k none 0 [] :=
  ⟨h.t, h.r, fun j hj => by
    rw [h.c j hj]
    by_cases e : j = k
    · subst e; simp [pv]
    · rw [if_neg e], h.f, h.lt, fun j hj => ⟨(h.o j hj).1, fun A hA => ⟨(h.o j hj).2 A hA, fun _ _ e => by cases e⟩⟩, ⟨rfl, .inl ⟨rfl, rfl⟩⟩, h.up⟩
theorem Rc.done {w W : World} {t : Tab} {x : Bn} {p : Pb} {k : Nat} {a : Option Addr} {c : Nat} {xs : List O} (h : Rc w W t x p k a c xs) (hx : x.l k = xs) (hok : ∀ o ∈ xs, o.Ok) (hl : xs.length ≤ 8) : Rb w W t x (p.put k a c) (k + 1) := by
  refine ⟨h.t, h.r, fun j hj => ?_, h.f, h.lt, fun j hj => ?_, h.up⟩
  · rw [h.cl j hj]
    by_cases e : j = k
    · subst e
      simp [pv, Pb.put, hx]
    · rw [if_neg e]
      unfold pv Pb.put
      simp only [if_neg e]
      by_cases hj2 : j < k
      · rw [if_pos hj2, if_pos (by omega)]
      · rw [if_neg hj2, if_neg (by omega)]
  · by_cases e : j = k
    · subst e
      simp only [Pb.put, if_true]
      rw [hx]
      refine ⟨opsAt_row h.row hok (by omega), fun A hA => ?_⟩
      subst hA
      exact (h.row.lt A.block rfl).1
    · simp only [Pb.put, if_neg e]
      exact ⟨(h.o j (by omega)).1, fun A hA => ((h.o j (by omega)).2 A hA).1⟩
/-- One operation more in the list. -/
theorem Rc.add {w X w4 : World} {t : Tab} {x : Bn} {p : Pb} {k : Nat} {a : Option Addr} {c g cap : Nat} {xs : List O} {o : O} (s : Rc w X t x p k a c xs) (hk : k < 4) (hgrow : X.grownBy w4 (Value.slice a xs.length c).ownBlock) (hown : w4.ownsRow (w.heap.size + 3) 55 5 (.slice (some ⟨g, 0, none⟩) (xs.length + 1) cap) (xs.length + 1) (ocells xs ++ [.int .i8 o.op, .int .u8 o.d, .int .u8 o.a, .int .u8 o.b, .int .i64 o.im])) (hg : (Value.slice a xs.length c).ownBlock = some g ∨ g = X.heap.size) :
    (w4.cell? ⟨w.heap.size + 2, k, none⟩ = some (.slice a xs.length c) ∧ w4.frozen? ⟨w.heap.size + 2, k, none⟩ = false ∧ w.heap.size + 2 < w4.heap.size) ∧ Rc w (w4.setCell ⟨w.heap.size + 2, k, none⟩ (.slice (some ⟨g, 0, none⟩) (xs.length + 1) cap)) t x p k (some ⟨g, 0, none⟩) cap (xs ++ [o]) := by
  have B : Below (w.heap.size + 3) X w4 := ⟨hgrow.os, hgrow.tape, hgrow.output, hgrow.size, fun j hj => hgrow.block j (Nat.lt_of_lt_of_le hj s.lt) fun e => by
    have := (s.row.lt j e.symm).1
    omega⟩
  have hc : ∀ j, j < 4 → w4.cell? ⟨w.heap.size + 2, j, none⟩ = some (if j = k then .slice a xs.length c else pv x p k j) := fun j hj => by rw [(bcell B).1 _ _ (by omega)]; exact s.cl j hj
  have hck := hc k hk
  rw [if_pos rfl] at hck
  have hlt : w.heap.size + 2 < w4.heap.size := Nat.lt_of_lt_of_le s.lt hgrow.size
  have hF : Fr (One (w.heap.size + 2)) w4 (w4.setCell ⟨w.heap.size + 2, k, none⟩ (.slice (some ⟨g, 0, none⟩) (xs.length + 1) cap)) := (Fr.refl (One (w.heap.size + 2)) w4).setCell (.inr rfl) _ _
  have ht4 := s.t.below B (by omega)
  have hr4 := s.r.below B (by omega)
  refine ⟨⟨hck, by rw [(bcell B).2 _ _ (by omega)]; exact s.f k, hlt⟩, tab_fr ht4 hF (by show ¬ _ = _; omega), At.frb hr4 hF (by show ¬ _ = _; omega), fun j hj => ?_, fun j => by rw [World.frozen?_setCell, (bcell B).2 _ _ (by omega)]; exact s.f j, by simpa using hlt, fun j hj => ?_, ?_, (s.up.trans (B.mono (by omega))).setCell (by show w.heap.size ≤ w.heap.size + 2; omega) _⟩
  · by_cases e : j = k
    · subst e
      rw [if_pos rfl, World.cell?_setCell_same _ _ _ hck, List.length_append]
      rfl
    · rw [if_neg e, World.cell?_setCell_other]
      · rw [hc j hj, if_neg e]
      · intro h'; injection h' with _ h2; exact e h2.symm
  · obtain ⟨h1, h2⟩ := s.o j hj
    have hA : 0 < (x.l j).length → ∀ A, p.a j = some A → A.block < X.heap.size → w4.heap[A.block]? = X.heap[A.block]? := fun hn A hA hz => hgrow.block A.block hz fun e => by
      cases a with
      | none => simp [Value.ownBlock] at e
      | some y =>
        simp only [Value.ownBlock, Option.some.injEq] at e
        exact (h2 A hA).2 hn y rfl e
    refine ⟨?_, fun A hA' => ⟨(h2 A hA').1, fun hn A' e => ?_⟩⟩
    · have g4 : OpsAt w4 (p.a j) (x.l j) := by
        refine ⟨h1.ok, h1.len, fun h0 => ?_⟩
        obtain ⟨b, f, e, z, hc'⟩ := h1.is h0
        have hb := hA h0 _ e z
        refine ⟨b, f, e, Nat.lt_of_lt_of_le z hgrow.size, fun i hi => ?_⟩
        obtain ⟨c0, c1, c2, c3, c4⟩ := hc' i hi
        have cc : ∀ q, w4.cell? ⟨b, q, none⟩ = X.cell? ⟨b, q, none⟩ := fun q => World.cell?_of_block (w := X) hb
        exact ⟨by rw [cc]; exact c0, by rw [cc]; exact c1, by rw [cc]; exact c2, by rw [cc]; exact c3, by rw [cc]; exact c4⟩
      exact opsAt_fr g4 hF fun A hA' e => by have := (h2 A hA').1; have e : A.block = w.heap.size + 2 := e; omega
    · injection e with e
      subst e
      rcases hg with hg | hg
      · cases a with
        | none => simp [Value.ownBlock] at hg
        | some y =>
          simp only [Value.ownBlock, Option.some.injEq] at hg
          have := (h2 A hA').2 hn y rfl
          rw [hg] at this
          exact this
      · obtain ⟨b, f, e', z, -⟩ := h1.is hn
        rw [e'] at hA'
        injection hA' with hA'
        subst hA'
        show ¬ b = g
        omega
  · rw [ocells_snoc, List.length_append]
    refine row_fr hown hF fun q hq e => ?_
    have e : q = w.heap.size + 2 := e
    have := (hown.lt q hq).1
    omega
end Go.Proofs.YtldfjlepbbmhnaaDoor.Bu
