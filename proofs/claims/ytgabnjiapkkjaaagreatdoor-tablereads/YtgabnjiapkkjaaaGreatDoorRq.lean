/- The reference's lines in memory: the line under way, the finished ones, and what each step does to them. Conditions: as each row says. -/
import Derived.Test.YtgabnjiapkkjaaaGreatDoorMe
import Derived.Test.YtgabnjiapkkjaaaGreatDoorRx
namespace Go.Proofs.YtgabnjiapkkjaaaGreatDoor.Tb
open Go.ChangeShapes Go.WideShapes Go.ChangeAt Go.RowKit

theorem info96 : (Tryz.prog.info? 96).map (fun i => (i.zero, i.size, i.bytes)) = some (some (.agg #[.string ⟨#[]⟩, .int .i64 0]), 2, 24) := by kernel_rfl
theorem info71 : (Tryz.prog.info? 71).map (fun i => (i.zero, i.size, i.bytes)) = some (some (.agg #[.slice none 0 0, .int .i64 0]), 2, 32) := by kernel_rfl
/-- A line's words as the reference lays them. -/
def rcells (ws : List (Nat × List UInt8)) : List Value := ws.flatMap fun x => [.string ⟨x.2.toArray⟩, .int .i64 (x.1 : Int)]
theorem rcells_snoc (ws : List (Nat × List UInt8)) (x : Nat × List UInt8) : rcells (ws ++ [x]) = rcells ws ++ [.string ⟨x.2.toArray⟩, .int .i64 (x.1 : Int)] := by simp [rcells]

/-- Where Lines stands. -/
structure Lm (w0 w : World) (v uv : Value) (en : Nat) (acc : Lns) (ws : List (Nat × List UInt8)) (Bt : Nat) (vs : List Value) : Prop where
  c0 : w.cell? ⟨w0.heap.size, 0, none⟩ = some uv
  c1 : w.cell? ⟨w0.heap.size, 1, none⟩ = some (.int .i64 (en : Int))
  f0 : w.frozen? ⟨w0.heap.size, 0, none⟩ = false
  f1 : w.frozen? ⟨w0.heap.size, 1, none⟩ = false
  lo : w0.heap.size + 1 ≤ Bt
  hi : Bt ≤ w.heap.size
  len : vs.length = acc.length
  out : w.ownsRow (w0.heap.size + 1) 71 2 v acc.length (lcells vs (acc.map (·.2)))
  rows : ∀ (i : Nat) u l, vs[i]? = some u → acc[i]? = some l → w.ownsRow (w0.heap.size + 1) 96 2 u l.1.length (rcells l.1) ∧ ∀ b, u.ownBlock = some b → b < Bt
  cur : w.ownsRow Bt 96 2 uv ws.length (rcells ws)
  bel : Below w0.heap.size w0 w

theorem Lm.begin (w : World) : Lm w (w.alloc (.cells #[.slice none 0 0, .int .i64 0] 71)) (.slice none 0 0) (.slice none 0 0) 0 [] [] (w.heap.size + 1) [] :=
  ⟨by simp, by simp, by simp, by simp, by omega, by simp, rfl, World.ownsRow_nil _ _ _ _, fun i u l hu => by simp at hu, World.ownsRow_nil _ _ _ _, (Below.refl _ _).alloc (Nat.le_refl _) _⟩

theorem ne_block {w : World} {B : Nat} {e : TypeId} {z n : Nat} {v : Value} {xs : List Value} {row : Option Nat} (_h : w.ownsRow B e z v n xs) (hr : ∀ b, row = some b → ∀ c, v.ownBlock = some c → c ≠ b) : v.ownBlock = none ∨ v.ownBlock ≠ row := by
  cases hv : v.ownBlock with
  | none => left; rfl
  | some c =>
    right
    cases row with
    | none => simp
    | some b => simp; exact hr b rfl c hv
/-- A word more. -/
theorem Lm.word {w0 w w1 : World} {v uv u' : Value} {en : Nat} {acc : Lns} {ws : List (Nat × List UInt8)} {Bt : Nat} {vs : List Value} {x : Nat × List UInt8} {ob : Obj}
    (h : Lm w0 w v uv en acc ws Bt vs) (hown : w1.ownsRow Bt 96 2 u' (ws.length + 1) (rcells ws ++ [.string ⟨x.2.toArray⟩, .int .i64 (x.1 : Int)])) (hg : (w.alloc ob).grownBy w1 uv.ownBlock) :
    Lm w0 (w1.setCell ⟨w0.heap.size, 0, none⟩ u') v u' en acc (ws ++ [x]) Bt vs := by
  have hlo := h.lo
  have hhi := h.hi
  have hcur := h.cur.alloc ob
  have hb : Below Bt w w1 := ((Below.refl _ w).alloc hhi ob).grown hg (by simp; omega) (fun b hb => (hcur.lt b hb).1)
  have hz := hb.size
  have c0 : w1.cell? ⟨w0.heap.size, 0, none⟩ = some uv := by rw [(bcell hb).1 _ _ (by omega)]; exact h.c0
  have c1 : w1.cell? ⟨w0.heap.size, 1, none⟩ = some (.int .i64 (en : Int)) := by rw [(bcell hb).1 _ _ (by omega)]; exact h.c1
  refine ⟨set_same c0, by rw [set_other (addr_ne (.inr (by omega)))]; exact c1, by rw [World.frozen?_setCell, (bcell hb).2 _ _ (by omega)]; exact h.f0, by rw [World.frozen?_setCell, (bcell hb).2 _ _ (by omega)]; exact h.f1, hlo, by simp; omega, h.len, ?_, ?_, ?_, ?_⟩
  · exact ownsRow_setCell_below (row_far (h.out.alloc ob) hcur (by decide) hg) (by simp) _
  · intro i u l hu hl
    obtain ⟨r1, r2⟩ := h.rows i u l hu hl
    refine ⟨ownsRow_setCell_below ((r1.alloc ob).kept hg (ne_block r1 (fun b hb' c hc => ?_))) (by simp) _, r2⟩
    have h1 := (hcur.lt b hb').1
    have h2 := r2 c hc
    omega
  · rw [rcells_snoc, List.length_append]
    exact ownsRow_setCell_below hown (by simp; omega) _
  · exact (h.bel.trans (hb.mono (by omega))).trans ((But.setCell (hb := w0.heap.size) (tb := w0.heap.size) _ (.inl rfl)).to_below (by have := h.bel.size; omega) (Nat.le_refl _) (Nat.le_refl _))
/-- Where the line ends. -/
theorem Lm.ends {w0 w : World} {v uv : Value} {en : Nat} {acc : Lns} {ws : List (Nat × List UInt8)} {Bt : Nat} {vs : List Value} (h : Lm w0 w v uv en acc ws Bt vs) (k : Nat) :
    Lm w0 (w.setCell ⟨w0.heap.size, 1, none⟩ (.int .i64 (k : Int))) v uv k acc ws Bt vs := by
  have hlo := h.lo
  refine ⟨by rw [set_other (addr_ne (.inr (by omega)))]; exact h.c0, set_same h.c1, by rw [World.frozen?_setCell]; exact h.f0, by rw [World.frozen?_setCell]; exact h.f1, hlo, by simpa using h.hi, h.len, ownsRow_setCell_below h.out (by simp) _, fun i u l hu hl => ⟨ownsRow_setCell_below (h.rows i u l hu hl).1 (by simp) _, (h.rows i u l hu hl).2⟩, ownsRow_setCell_below h.cur (by simp; omega) _, ?_⟩
  exact h.bel.trans ((But.setCell (hb := w0.heap.size) (tb := w0.heap.size) _ (.inl rfl)).to_below h.bel.size (Nat.le_refl _) (Nat.le_refl _))
/-- A line more; the box is empty again. -/
theorem Lm.line {w0 w w1 : World} {v uv v' : Value} {en : Nat} {acc : Lns} {ws : List (Nat × List UInt8)} {Bt : Nat} {vs : List Value} {ob : Obj}
    (h : Lm w0 w v uv en acc ws Bt vs) (hown : w1.ownsRow (w0.heap.size + 1) 71 2 v' (acc.length + 1) (lcells vs (acc.map (·.2)) ++ [uv, .int .i64 (en : Int)])) (hg : (w.alloc ob).grownBy w1 v.ownBlock) :
    Lm w0 ((w1.setCell ⟨w0.heap.size, 0, none⟩ (.slice none 0 0)).setCell ⟨w0.heap.size, 1, none⟩ (.int .i64 ((0 : Nat) : Int))) v' (.slice none 0 0) 0 (acc ++ [(ws, en)]) [] w1.heap.size (vs ++ [uv]) := by
  have hlo := h.lo
  have hhi := h.hi
  have hbz := h.bel.size
  have hout := h.out.alloc ob
  have hb : Below (w0.heap.size + 1) w w1 := ((Below.refl _ w).alloc (by omega) ob).grown hg (by simp; omega) (fun b hb => (hout.lt b hb).1)
  have hz := hb.size
  have hz2 : w.heap.size + 1 ≤ w1.heap.size := by have := hg.size; simp at this; omega
  have c0 : w1.cell? ⟨w0.heap.size, 0, none⟩ = some uv := by rw [(bcell hb).1 _ _ (by omega)]; exact h.c0
  have c1 : w1.cell? ⟨w0.heap.size, 1, none⟩ = some (.int .i64 (en : Int)) := by rw [(bcell hb).1 _ _ (by omega)]; exact h.c1
  have far : ∀ {u : Value} {B n : Nat} {xs : List Value}, w.ownsRow B 96 2 u n xs → w1.ownsRow B 96 2 u n xs := fun r => row_far (r.alloc ob) hout (by decide) hg
  have S1 : ∀ {u : Value} {B n : Nat} {e : TypeId} {xs : List Value}, w0.heap.size + 1 ≤ B → w1.ownsRow B e 2 u n xs → ((w1.setCell ⟨w0.heap.size, 0, none⟩ (.slice none 0 0)).setCell ⟨w0.heap.size, 1, none⟩ (.int .i64 ((0 : Nat) : Int))).ownsRow B e 2 u n xs := fun hB r => ownsRow_setCell_below (ownsRow_setCell_below r (by simp; omega) _) (by simp; omega) _
  refine ⟨?_, ?_, by rw [World.frozen?_setCell, World.frozen?_setCell, (bcell hb).2 _ _ (by omega)]; exact h.f0, by rw [World.frozen?_setCell, World.frozen?_setCell, (bcell hb).2 _ _ (by omega)]; exact h.f1, by omega, by simp, by simp [h.len], ?_, ?_, World.ownsRow_nil _ _ _ _, ?_⟩
  · rw [set_other (addr_ne (.inr (by omega)))]; exact set_same c0
  · exact set_same (by rw [set_other (addr_ne (.inr (by omega)))]; exact c1)
  · rw [List.map_append, List.map_singleton, lcells_snoc _ _ _ _ (by simp [h.len]), List.length_append]
    exact S1 (Nat.le_refl _) hown
  · intro i u l hu hl
    have hnew : w1.ownsRow (w0.heap.size + 1) 96 2 uv ws.length (rcells ws) := far (row_le h.cur hlo)
    rcases Nat.lt_or_ge i acc.length with hlt | hge
    · rw [List.getElem?_append_left (by have := h.len; omega)] at hu
      rw [List.getElem?_append_left (by omega)] at hl
      obtain ⟨r1, r2⟩ := h.rows i u l hu hl
      exact ⟨S1 (Nat.le_refl _) (far r1), fun b hb' => by have := r2 b hb'; omega⟩
    · have hi : i = acc.length := by
        rcases Nat.lt_or_ge acc.length i with h' | h'
        · rw [List.getElem?_eq_none (by simp; omega)] at hl; cases hl
        · omega
      subst hi
      rw [← h.len, List.getElem?_append_right (Nat.le_refl _)] at hu
      rw [List.getElem?_append_right (Nat.le_refl _)] at hl
      simp at hu hl
      subst hu hl
      exact ⟨S1 (Nat.le_refl _) hnew, fun b hb' => (hnew.lt b hb').2⟩
  · refine ((h.bel.trans (hb.mono (by omega))).trans ((But.setCell (hb := w0.heap.size) (tb := w0.heap.size) _ (.inl rfl)).to_below (by omega) (Nat.le_refl _) (Nat.le_refl _))).trans ((But.setCell (hb := w0.heap.size) (tb := w0.heap.size) _ (.inl rfl)).to_below (by simp; omega) (Nat.le_refl _) (Nat.le_refl _))

/-- A slice of the reference's lines in memory. -/
def LinesR (w : World) (B : Nat) (v : Value) (ls : Lns) : Prop :=
  ∃ vs : List Value, vs.length = ls.length ∧ w.ownsRow B 71 2 v ls.length (lcells vs (ls.map (·.2))) ∧ ∀ (i : Nat) u l, vs[i]? = some u → ls[i]? = some l → w.ownsRow B 96 2 u l.1.length (rcells l.1)
theorem Lm.done {w0 w : World} {v uv : Value} {en : Nat} {acc : Lns} {ws : List (Nat × List UInt8)} {Bt : Nat} {vs : List Value} (h : Lm w0 w v uv en acc ws Bt vs) : LinesR w (w0.heap.size + 1) v acc ∧ Below w0.heap.size w0 w :=
  ⟨⟨vs, h.len, h.out, fun i u l hu hl => (h.rows i u l hu hl).1⟩, h.bel⟩

end Go.Proofs.YtgabnjiapkkjaaaGreatDoor.Tb
