/- What is ahead of each block's end, and of an operation, read off the program by the walk. Conditions: the program lies in memory; the variable lies there as the program lays it. -/
import Derived.Test.YtddcndlogoajkaaDoorQVe
namespace Go.Proofs.YtddcndlogoajkaaDoor.L8.Li
open Go.ChangeShapes Go.WideShapes Go.ChangeAt Go.RowKit Go.Maps
open _root_.Go.Proofs.YtddcndlogoajkaaDoor.L8.So _root_.Go.Proofs.YtddcndlogoajkaaDoor.L8.Op _root_.Go.Proofs.YtddcndlogoajkaaDoor.L8.Fl _root_.Go.Proofs.YtddcndlogoajkaaDoor.L8.Lv
set_option maxRecDepth 20000

/-- The sets into the blocks: this list alone can be they. -/
def InIs (ps : List Bk) (I : List Nat) : Prop := ∀ xs, IsIn ps xs → xs = I
theorem in_ex {ps : List Bk} (ho : PsOk ps) : ∃ I, InIs ps I := by
  by_cases h : ∃ xs, IsIn ps xs
  · obtain ⟨xs, hx⟩ := h
    exact ⟨xs, fun ys hy => hy.same ho hx⟩
  · exact ⟨[], fun ys hy => absurd ⟨ys, hy⟩ h⟩
theorem in_is (I : List Nat) (ao : Option Addr) (cap : Nat) (ps : List Bk) (w : World) (hI : InIs ps I) (h : PAt w ao ps) (he : Env w) :
    Calls Tryd.prog 28 #[.agg #[.slice ao ps.length cap]] w fun e w' => ∃ a c, e = .returned (.slice a I.length c) ∧ Ul w' a I ∧ IsIn ps I ∧ Below w.heap.size w w' :=
  (in_any ao cap ps w h he).mono fun e w' ⟨v, xs, h1, ⟨a, c, h2, h3, h4⟩, h5⟩ => by
    have e1 := hI xs h5
    subst e1
    exact ⟨a, c, by rw [h1, h2], h3, h5, h4⟩
/-- A list of sets under way. -/
structure Ot (wI wr : World) (n bO k : Nat) (f : Nat → Nat) (ys : List Nat) : Prop where
  b : Below wI.heap.size wI wr
  hO : wI.heap.size ≤ bO
  u : Op.At wr bO (uc ys)
  len : ys.length = n
  is : ∀ i, i < k → inN ys i = f i
theorem Ot.start (wI : World) (n : Nat) (f : Nat → Nat) (t : TypeId) : Ot wI (wI.alloc (.cells (madeCells #[.int .u32 0] n) t)) n wI.heap.size 0 f (List.replicate n 0) :=
  ⟨below_al _, Nat.le_refl _, by rw [uc_made]; exact Op.At.new _ _ _, by simp, fun i hi => by omega⟩
theorem Ot.step {wI wr w2 : World} {n bO k : Nat} {f : Nat → Nat} {ys : List Nat} (h : Ot wI wr n bO k f ys) (hk : k < n) (hb : Below wr.heap.size wr w2) : Ot wI (w2.setCell ⟨bO, k, none⟩ (.int .u32 ((f k : Nat) : Int))) n bO (k + 1) f (ys.set k (f k)) := by
  have hl := h.len
  have hO := h.hO
  refine ⟨?_, hO, ?_, by simp [hl], fun i hi => ?_⟩
  · have f1 : Fr Non wI w2 := Fr.of (h.b.trans (hb.mono h.b.size))
    exact (f1.setCell (Or.inl hO) k _).non
  · rw [← uc_set]
    exact (h.u.below hb h.u.lt).set (by rw [uc_size]; omega) _
  · rw [inN_set (by omega)]
    split
    · rename_i e; rw [← e]
    · exact h.is i (by omega)
theorem Ot.done {wI wr : World} {n bO : Nat} {f : Nat → Nat} {ys : List Nat} (h : Ot wI wr n bO n f ys) : ys = (List.range n).map f :=
  List.ext_getElem (by simp [h.len]) fun i h1 h2 => by
    rw [← inN_eq h1, h.is i (by rw [← h.len]; exact h1)]; simp
end Go.Proofs.YtddcndlogoajkaaDoor.L8.Li
