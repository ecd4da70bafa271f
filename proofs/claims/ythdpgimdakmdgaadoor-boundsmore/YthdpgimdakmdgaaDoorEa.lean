/- What depends on what, as plain mathematics: the rows of a pair, the dependences of a list; and how they lie in memory. Conditions: none. -/
import Derived.Test.YthdpgimdakmdgaaDoorSm
import Derived.Test.YthdpgimdakmdgaaDoorKd
import Derived.Test.YthdpgimdakmdgaaDoorTk
import Derived.Test.YthdpgimdakmdgaaDoorAd
import Derived.Deep.AppendLies
namespace Go.Proofs.YthdpgimdakmdgaaDoor.Dp
open Go.ChangeShapes Go.WideShapes Go.ChangeAt Go.RowKit
open _root_.Go.Proofs.YthdpgimdakmdgaaDoor.Op _root_.Go.Proofs.YthdpgimdakmdgaaDoor.So
set_option maxRecDepth 20000

/-- A dependence: from, to, latency, distance, why. -/
structure Ed where
  f : Int
  t : Int
  l : Int
  d : Int
  y : Int
abbrev Ed.cells (e : Ed) : List Value := [.int .i64 e.f, .int .i64 e.t, .int .i64 e.l, .int .i64 e.d, .int .i8 e.y]
def Ed.val (e : Ed) : Value := .agg #[.int .i64 e.f, .int .i64 e.t, .int .i64 e.l, .int .i64 e.d, .int .i8 e.y]
def ecells (es : List Ed) : List Value := es.flatMap Ed.cells
theorem ecells_len (es : List Ed) : (ecells es).length = es.length * 5 := by
  unfold ecells
  induction es with
  | nil => rfl
  | cons e es ih =>
    rw [List.flatMap_cons, List.length_append, ih]
    show 5 + es.length * 5 = (es.length + 1) * 5
    omega
theorem ecells_put (es : List Ed) (e : Ed) : ecells (es ++ [e]) = ecells es ++ e.cells := by unfold ecells; simp
theorem ecells_at (es : List Ed) (i : Nat) (h : i < es.length) (j : Nat) (hj : j < 5) : (ecells es)[i * 5 + j]? = (es[i]'h).cells[j]? := by
  induction es generalizing i with
  | nil => simp at h
  | cons e es ih =>
    have hc : ecells (e :: es) = e.cells ++ ecells es := rfl
    rw [hc]
    cases i with
    | zero =>
      rw [List.getElem?_append_left (by show 0 * 5 + j < 5; omega)]
      simp
    | succ i =>
      rw [List.getElem?_append_right (by show 5 ≤ _; omega), show (i + 1) * 5 + j - e.cells.length = i * 5 + j by show (i + 1) * 5 + j - 5 = _; omega, ih i (by simpa using h)]
      simp

/-- A row of the table, of two operations. -/
structure Rw where
  y : Int
  b : Bool
  l : Int
/-- What holds, as dependences like e. -/
def edL (e : Ed) (rs : List Rw) : List Ed := rs.flatMap fun r => if r.b then [⟨e.f, e.t, r.l, e.d, r.y⟩] else []
theorem edL_len (e : Ed) (rs : List Rw) : (edL e rs).length ≤ rs.length := by
  unfold edL
  induction rs with
  | nil => simp
  | cons r rs ih =>
    rw [List.flatMap_cons, List.length_append]
    have e1 : (r :: rs).length = rs.length + 1 := rfl
    split
    · show 1 + _ ≤ _; omega
    · show 0 + _ ≤ _; omega
theorem edL_take (e : Ed) (rs : List Rw) (k : Nat) (h : k < rs.length) : edL e (rs.take (k + 1)) = edL e (rs.take k) ++ (if rs[k].b then [⟨e.f, e.t, rs[k].l, e.d, rs[k].y⟩] else []) := by
  unfold edL
  rw [List.take_succ_eq_append_getElem h, List.flatMap_append]
  simp

/-- How memory goes on while dependences are put down: the finder's box and the list's own block turn, nothing else. -/
structure Gr (f : Nat) (ve : Value) (w : World) (ve' : Value) (w' : World) : Prop where
  fr : Fr (fun k => k = f ∨ ve.ownBlock = some k) w w'
  ow : ∀ b, b < w.heap.size → ve'.ownBlock = some b → ve.ownBlock = some b
  fc : f < w.heap.size → ∀ j, ¬ j = 2 → w'.cell? ⟨f, j, none⟩ = w.cell? ⟨f, j, none⟩
theorem Gr.refl (f : Nat) (ve : Value) (w : World) : Gr f ve w ve w := ⟨Fr.refl _ _, fun _ _ h => h, fun _ _ _ => rfl⟩
theorem Gr.of {f : Nat} {ve : Value} {w w' : World} (h : Below w.heap.size w w') : Gr f ve w ve w' := ⟨Fr.of h, fun _ _ h => h, fun hf _ _ => (bcell h).1 _ _ hf⟩
theorem Gr.trans {f : Nat} {ve ve' ve'' : Value} {w w' w'' : World} (h : Gr f ve w ve' w') (g : Gr f ve' w' ve'' w'') : Gr f ve w ve'' w'' :=
  ⟨h.fr.trans g.fr fun k hk hy => hy.imp id (h.ow k hk), fun b hb e => h.ow b hb (g.ow b (Nat.lt_of_lt_of_le hb h.fr.size) e), fun hf j hj => (g.fc (Nat.lt_of_lt_of_le hf h.fr.size) j hj).trans (h.fc hf j hj)⟩
theorem Gr.up {f : Nat} {ve ve' : Value} {w w' w'' : World} (h : Gr f ve w ve' w') (g : Below w'.heap.size w' w'') : Gr f ve w ve' w'' := h.trans (Gr.of g)
theorem Gr.below {f B : Nat} {ve ve' : Value} {w w' : World} (h : Gr f ve w ve' w') (hB : B ≤ f) (hw : B ≤ w.heap.size) (hv : ∀ k, ve.ownBlock = some k → B ≤ k) : Below B w w' :=
  h.fr.below hw fun k hk hx => by rcases hx with rfl | hx; · omega
                                  · have := hv k hx; omega

/-- The dependences so far: in the finder's box, and in a row of their own. -/
structure FE (w : World) (f : Nat) (ve : Value) (es : List Ed) : Prop where
  c : w.cell? ⟨f, 2, none⟩ = some ve
  z : w.frozen? ⟨f, 2, none⟩ = false
  lt : f < w.heap.size
  row : w.ownsRow (f + 1) 51 5 ve es.length (ecells es)
theorem row_fr {T : Nat → Prop} {w w' : World} {B : Nat} {e : TypeId} {z : Nat} {v : Value} {n : Nat} {xs : List Value} (h : w.ownsRow B e z v n xs) (g : Fr T w w') (hT : ∀ k, v.ownBlock = some k → ¬ T k) : w'.ownsRow B e z v n xs := by
  refine ⟨h.1, h.2.imp id ?_⟩
  rintro ⟨b, cap, cur, rfl, h2, h3, h4⟩
  have hz : b < w.heap.size := (h.lt b rfl).2
  exact ⟨b, cap, cur, rfl, h2, by rw [g.block b hz (hT b rfl)]; exact h3, h4⟩
theorem row_up {w w' : World} {B : Nat} {e : TypeId} {z : Nat} {v : Value} {n : Nat} {xs : List Value} (h : w.ownsRow B e z v n xs) (hb : Below w.heap.size w w') : w'.ownsRow B e z v n xs := row_fr h (Fr.of (X := Non) hb) fun _ _ hk => hk
theorem row_set' {w : World} {B : Nat} {e : TypeId} {z : Nat} {v : Value} {n : Nat} {xs : List Value} (h : w.ownsRow B e z v n xs) {b j : Nat} (hb : b < B) (u : Value) : (w.setCell ⟨b, j, none⟩ u).ownsRow B e z v n xs :=
  row_fr h ((Fr.refl (One b) w).setCell (.inr rfl) j u) fun k hk e => by
    have := (h.lt k hk).1
    have e' : k = b := e
    omega
theorem FE.up {w w' : World} {f : Nat} {ve : Value} {es : List Ed} (h : FE w f ve es) (hb : Below w.heap.size w w') : FE w' f ve es :=
  ⟨by rw [(bcell hb).1 _ _ h.lt]; exact h.c, by rw [(bcell hb).2 _ _ h.lt]; exact h.z, Nat.lt_of_lt_of_le h.lt hb.size, row_up h.row hb⟩
theorem grown_fr {w w' : World} {row : Option Nat} (h : w.grownBy w' row) : Fr (fun b => row = some b) w w' := ⟨h.os, h.tape, h.output, h.size, fun k hk hx => h.block k hk fun e => hx e.symm⟩
theorem drew_up (w : World) : Below w.heap.size w w.drew := ⟨rfl, rfl, rfl, Nat.le_refl _, fun _ _ => rfl⟩
/-- One dependence more. -/
theorem FE.next {w W w4 : World} {f g cap : Nat} {ve : Value} {es : List Ed} {e : Ed} (h : FE w f ve es) (hW : Below w.heap.size w W) (hgrow : W.grownBy w4 ve.ownBlock)
    (hown : w4.ownsRow (f + 1) 51 5 (.slice (some ⟨g, 0, none⟩) (es.length + 1) cap) (es.length + 1) (ecells es ++ e.cells)) (hg : ve.ownBlock = some g ∨ w.heap.size ≤ g) :
    (w4.cell? ⟨f, 2, none⟩ = some ve ∧ w4.frozen? ⟨f, 2, none⟩ = false ∧ f < w4.heap.size) ∧
    FE (w4.setCell ⟨f, 2, none⟩ (.slice (some ⟨g, 0, none⟩) (es.length + 1) cap)) f (.slice (some ⟨g, 0, none⟩) (es.length + 1) cap) (es ++ [e]) ∧
    Gr f ve w (.slice (some ⟨g, 0, none⟩) (es.length + 1) cap) (w4.setCell ⟨f, 2, none⟩ (.slice (some ⟨g, 0, none⟩) (es.length + 1) cap)) := by
  have hF : Fr (fun b => ve.ownBlock = some b) w w4 := (Fr.of hW).trans (grown_fr hgrow) fun _ _ e => e
  have nf : ¬ ve.ownBlock = some f := fun e => by have := (h.row.lt f e).1; omega
  have c1 := hF.cell h.lt nf 2
  have c2 := hF.frozen h.lt nf 2
  have hz : f < w4.heap.size := Nat.lt_of_lt_of_le h.lt hF.size
  rw [h.c] at c1
  rw [h.z] at c2
  refine ⟨⟨c1, c2, hz⟩, ⟨World.cell?_setCell_same _ _ _ c1, by rw [World.frozen?_setCell]; exact c2, by simpa using hz, ?_⟩, ?_, ?_, fun _ j hj => ?_⟩
  · rw [ecells_put, List.length_append]
    exact row_set' hown (by omega) _
  · exact (hF.mono fun k _ e => .inr e).setCell (.inr (.inl rfl)) _ _
  · intro b hb e
    rcases hg with hg | hg
    · rw [hg]; exact e
    · have : g = b := by simpa [Value.ownBlock] using e
      omega
  · rw [World.cell?_setCell_other]
    · exact hF.cell h.lt nf j
    · intro h'; injection h' with _ h2; exact hj h2.symm
/-- The rows of a pair in memory. -/
structure RowsAt (w : World) (rb : Nat) (rs : List Rw) : Prop where
  lt : rb < w.heap.size
  c0 : ∀ (k : Nat) (h : k < rs.length), w.cell? ⟨rb, k * 3, none⟩ = some (.int .i8 rs[k].y)
  c1 : ∀ (k : Nat) (h : k < rs.length), w.cell? ⟨rb, k * 3 + 1, none⟩ = some (.bool rs[k].b)
  c2 : ∀ (k : Nat) (h : k < rs.length), w.cell? ⟨rb, k * 3 + 2, none⟩ = some (.int .i64 rs[k].l)
theorem RowsAt.fr {X : Nat → Prop} {w w' : World} {rb : Nat} {rs : List Rw} (h : RowsAt w rb rs) (g : Fr X w w') (hx : ¬ X rb) : RowsAt w' rb rs :=
  ⟨Nat.lt_of_lt_of_le h.lt g.size, fun k hk => by rw [g.cell h.lt hx]; exact h.c0 k hk, fun k hk => by rw [g.cell h.lt hx]; exact h.c1 k hk, fun k hk => by rw [g.cell h.lt hx]; exact h.c2 k hk⟩
end Go.Proofs.YthdpgimdakmdgaaDoor.Dp
