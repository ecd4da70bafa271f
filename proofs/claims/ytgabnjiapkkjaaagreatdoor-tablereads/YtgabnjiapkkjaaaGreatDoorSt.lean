/- What a call of a closure of package table does to what was had and to the table, told for all kinds of closures at once. Conditions: as each row says. -/
import Derived.Test.YtgabnjiapkkjaaaGreatDoorWt
namespace Go.Proofs.YtgabnjiapkkjaaaGreatDoor.Tb
open Go.ChangeShapes Go.WideShapes Go.ChangeAt Go.RowKit

/-- What was had, and the table under way. -/
structure St where
  had : Nat → Bool
  t : Tab

def Tab.put (t : Tab) (o : Nat) (v : Int) : Tab :=
  { u := fun k => if o = k then v else t.u k, l := fun k => if o = 4 + k then v else t.l k, b := fun k => if o = 8 + k then v else t.b k, d := if o = 12 then v else t.d }
def St.have (st : St) (o : Nat) : St := { st with had := fun j => if o = j then true else st.had j }

/-- What a want answers of a word, and what it leaves. -/
def Wk.code (K : Wk) (l : List UInt8) (st : St) : Int :=
  if K.tag = 0 then 60 else if K.tag = 1 then (if st.had K.o then 60 else 0) else if K.tag = 2 then numC K.lo K.hi l else if l = K.s then 0 else 60
def Wk.next (K : Wk) (l : List UInt8) (st : St) : St :=
  if K.tag = 1 then (if st.had K.o then st else st.have K.o) else if K.tag = 2 then (if numC K.lo K.hi l = 0 then { st with t := st.t.put K.o (decV l) } else st) else st

structure StAt (w : World) (hb tb : Nat) (st : St) : Prop where
  h : ∀ k, k < 5 → w.cell? ⟨hb, k, none⟩ = some (.bool (st.had k))
  hf : ∀ k, k < 5 → w.frozen? ⟨hb, k, none⟩ = false
  t : TabAt w tb st.t
  tf : ∀ k, k < 13 → w.frozen? ⟨tb, k, none⟩ = false
  ne : hb ≠ tb
  lt : hb < w.heap.size

/-- Only two blocks have turned. -/
structure But (hb tb : Nat) (w w' : World) : Prop where
  os : w'.os = w.os
  tape : w'.tape = w.tape
  output : w'.output = w.output
  size : w.heap.size ≤ w'.heap.size
  block : ∀ k, k < w.heap.size → k ≠ hb → k ≠ tb → w'.heap[k]? = w.heap[k]?

theorem But.refl (hb tb : Nat) (w : World) : But hb tb w w := ⟨rfl, rfl, rfl, Nat.le_refl _, fun _ _ _ _ => rfl⟩
theorem But.trans {hb tb : Nat} {a b c : World} (h : But hb tb a b) (k : But hb tb b c) : But hb tb a c :=
  ⟨k.os.trans h.os, k.tape.trans h.tape, k.output.trans h.output, Nat.le_trans h.size k.size, fun j hj h1 h2 => (k.block j (Nat.lt_of_lt_of_le hj h.size) h1 h2).trans (h.block j hj h1 h2)⟩
theorem But.of_below {hb tb : Nat} {w w' : World} (h : Below w.heap.size w w') : But hb tb w w' := ⟨h.os, h.tape, h.output, h.size, fun k hk _ _ => h.block k hk⟩
theorem But.cell {hb tb : Nat} {w w' : World} (h : But hb tb w w') {b j : Nat} (hlt : b < w.heap.size) (h1 : b ≠ hb) (h2 : b ≠ tb) : w'.cell? ⟨b, j, none⟩ = w.cell? ⟨b, j, none⟩ := World.cell?_of_block (w := w) (h.block b hlt h1 h2)
theorem But.to_below {hb tb B : Nat} {w w' : World} (h : But hb tb w w') (hB : B ≤ w.heap.size) (h1 : B ≤ hb) (h2 : B ≤ tb) : Below B w w' :=
  ⟨h.os, h.tape, h.output, h.size, fun k hk => h.block k (Nat.lt_of_lt_of_le hk hB) (by omega) (by omega)⟩
theorem But.row {hb tb B : Nat} {w w' : World} {e : TypeId} {z : Nat} {v : Value} {n : Nat} {xs : List Value} (h : But hb tb w w') (hr : w.ownsRow B e z v n xs) (h1 : hb < B) (h2 : tb < B) : w'.ownsRow B e z v n xs := by
  refine ⟨hr.1, hr.2.imp id ?_⟩
  rintro ⟨g, cap, cur, e1, e2, e3, e4⟩
  have hlt : g < w.heap.size := by
    rcases Nat.lt_or_ge g w.heap.size with h | h
    · exact h
    · rw [Array.getElem?_eq_none h] at e3; cases e3
  exact ⟨g, cap, cur, e1, e2, by rw [h.block g hlt (by omega) (by omega)]; exact e3, e4⟩
theorem But.setCell {hb tb : Nat} {w : World} {b j : Nat} (v : Value) (h : b = hb ∨ b = tb) : But hb tb w (w.setCell ⟨b, j, none⟩ v) :=
  ⟨rfl, rfl, rfl, by simp, fun k _ h1 h2 => Below.heap_setCell w _ v k (by rcases h with rfl | rfl <;> assumption)⟩
theorem StAt.below {w w' : World} {hb tb : Nat} {st : St} (h : StAt w hb tb st) (hw : Below w.heap.size w w') : StAt w' hb tb st := by
  have hl := h.lt
  have tl := h.t.lt
  exact ⟨fun k hk => ((bcell hw).1 _ _ hl).trans (h.h k hk), fun k hk => ((bcell hw).2 _ _ hl).trans (h.hf k hk), h.t.below hw tl, fun k hk => ((bcell hw).2 _ _ tl).trans (h.tf k hk), h.ne, Nat.lt_of_lt_of_le hl hw.size⟩
theorem addr_ne {b b' j j' : Nat} (h : b ≠ b' ∨ j ≠ j') : (⟨b, j, none⟩ : Addr) ≠ ⟨b', j', none⟩ := by
  intro e
  simp only [Addr.mk.injEq, and_true] at e
  rcases h with h | h
  · exact h e.1
  · exact h e.2
theorem set_other {w : World} {a b : Addr} {v : Value} (h : a ≠ b) : (w.setCell a v).cell? b = w.cell? b := by
  apply World.cell?_setCell_other; exact h
theorem set_same {w : World} {a : Addr} {v u : Value} (h : w.cell? a = some u) : (w.setCell a v).cell? a = some v := by
  apply World.cell?_setCell_same; exact h
theorem StAt.once {w : World} {hb tb : Nat} {st : St} (h : StAt w hb tb st) (o : Nat) (ho : o < 5) : StAt (w.setCell ⟨hb, o, none⟩ (.bool true)) hb tb (st.have o) := by
  have hne := h.ne
  have oth : ∀ j, (w.setCell ⟨hb, o, none⟩ (.bool true)).cell? ⟨tb, j, none⟩ = w.cell? ⟨tb, j, none⟩ := fun j => set_other (addr_ne (.inl hne))
  refine ⟨fun k hk => ?_, fun k hk => by rw [World.frozen?_setCell]; exact h.hf k hk, ⟨fun k hk => (oth _).trans (h.t.cu k hk), fun k hk => (oth _).trans (h.t.cl k hk), fun k hk => (oth _).trans (h.t.cb k hk), (oth _).trans h.t.cd, by simpa using h.t.lt⟩, fun k hk => by rw [World.frozen?_setCell]; exact h.tf k hk, hne, by simpa using h.lt⟩
  by_cases e : o = k
  · subst e
    rw [set_same (h.h o ho)]; simp [St.have]
  · rw [set_other (addr_ne (.inr e)), h.h k hk]; simp [St.have, e]
theorem StAt.num {w : World} {hb tb : Nat} {st : St} (h : StAt w hb tb st) (o : Nat) (v : Int) (ho : o < 13) : StAt (w.setCell ⟨tb, o, none⟩ (.int .i64 v)) hb tb { st with t := st.t.put o v } := by
  have hne := h.ne
  have some1 : ∃ x, w.cell? ⟨tb, o, none⟩ = some x := by
    rcases Nat.lt_or_ge o 4 with h1 | h1
    · exact ⟨_, h.t.cu o h1⟩
    · rcases Nat.lt_or_ge o 8 with h2 | h2
      · exact ⟨_, by have := h.t.cl (o - 4) (by omega); rwa [show 4 + (o - 4) = o from by omega] at this⟩
      · rcases Nat.lt_or_ge o 12 with h3 | h3
        · exact ⟨_, by have := h.t.cb (o - 8) (by omega); rwa [show 8 + (o - 8) = o from by omega] at this⟩
        · exact ⟨_, by have := h.t.cd; rwa [show 12 = o from by omega] at this⟩
  obtain ⟨x, hx⟩ := some1
  have at1 : ∀ (j : Nat) (y : Int), w.cell? ⟨tb, j, none⟩ = some (.int .i64 y) → (w.setCell ⟨tb, o, none⟩ (.int .i64 v)).cell? ⟨tb, j, none⟩ = some (.int .i64 (if o = j then v else y)) := fun j y hy => by
    by_cases e : o = j
    · subst e
      rw [set_same hx, if_pos rfl]
    · rw [set_other (addr_ne (.inr e)), if_neg e]; exact hy
  refine ⟨fun k hk => ?_, fun k hk => by rw [World.frozen?_setCell]; exact h.hf k hk, ⟨fun k hk => at1 _ _ (h.t.cu k hk), fun k hk => at1 _ _ (h.t.cl k hk), fun k hk => at1 _ _ (h.t.cb k hk), at1 _ _ h.t.cd, by simpa using h.t.lt⟩, fun k hk => by rw [World.frozen?_setCell]; exact h.tf k hk, hne, by simpa using h.lt⟩
  rw [set_other (addr_ne (.inl (Ne.symm hne)))]; exact h.h k hk
theorem StAt.tcell {w : World} {hb tb : Nat} {st : St} (h : StAt w hb tb st) (o : Nat) (ho : o < 13) : ∃ x, w.cell? ⟨tb, o, none⟩ = some x := by
  rcases Nat.lt_or_ge o 4 with h1 | h1
  · exact ⟨_, h.t.cu o h1⟩
  · rcases Nat.lt_or_ge o 8 with h2 | h2
    · exact ⟨_, by have := h.t.cl (o - 4) (by omega); rwa [show 4 + (o - 4) = o from by omega] at this⟩
    · rcases Nat.lt_or_ge o 12 with h3 | h3
      · exact ⟨_, by have := h.t.cb (o - 8) (by omega); rwa [show 8 + (o - 8) = o from by omega] at this⟩
      · exact ⟨_, by have := h.t.cd; rwa [show 12 = o from by omega] at this⟩

end Go.Proofs.YtgabnjiapkkjaaaGreatDoor.Tb
