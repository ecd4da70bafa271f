/- A program in memory of its own, under way: the boxes, the row of blocks, each block's two lists. Conditions: none. -/
import Derived.Test.YtddcndlogoajkaaDoorQCp
import Derived.Test.YtddcndlogoajkaaDoorQPk
namespace Go.Proofs.YtddcndlogoajkaaDoor.L8.Op
open Go.ChangeShapes Go.WideShapes Go.ChangeAt Go.RowKit
set_option maxRecDepth 20000

theorem pAt_nil (w : World) (ao : Option Addr) : PAt w ao [] := ⟨by simp, fun h => by simp at h⟩
theorem At.new' (w : World) (c : Array Value) (t : TypeId) (n : Nat) (h : w.heap.size = n) : At (w.alloc (.cells c t)) n c := h ▸ At.new w c t
theorem row_below {w w' : World} {B : Nat} {e : TypeId} {z : Nat} {v : Value} {n : Nat} {xs : List Value} (h : w.ownsRow B e z v n xs) (hb : Below w.heap.size w w') : w'.ownsRow B e z v n xs :=
  h.kept (row := none) ⟨hb.os, hb.tape, hb.output, hb.size, fun k hk _ => hb.block k hk⟩ (by cases v.ownBlock <;> simp)
theorem row_far {w w' : World} {B B' : Nat} {e e' : TypeId} {z z' : Nat} {u v : Value} {n m : Nat} {xs ys : List Value} (h : w.ownsRow B e z u n xs) (hv : w.ownsRow B' e' z' v m ys) (he : e ≠ e') (hg : w.grownBy w' v.ownBlock) : w'.ownsRow B e z u n xs := by
  refine h.kept hg ?_
  rcases h.2 with ⟨rfl, _⟩ | ⟨g, cap, cur, rfl, _, h3, _⟩
  · left; rfl
  · right
    rcases hv.2 with ⟨rfl, _⟩ | ⟨g', cap', cur', rfl, _, h3', _⟩
    · simp [Value.ownBlock]
    · simp only [Value.ownBlock, ne_eq, Option.some.injEq]
      rintro rfl
      rw [h3] at h3'
      simp at h3'
      exact he h3'.2
theorem row_set {w : World} {B : Nat} {e : TypeId} {z : Nat} {v : Value} {n : Nat} {xs : List Value} (h : w.ownsRow B e z v n xs) {b j : Nat} (hb : b < B) (u : Value) : (w.setCell ⟨b, j, none⟩ u).ownsRow B e z v n xs := by
  refine h.kept (row := some b) ⟨rfl, rfl, rfl, by simp, fun k hk hne => Below.heap_setCell _ _ _ _ fun e => hne (by rw [e])⟩ ?_
  cases hv : v.ownBlock with
  | none => left; rfl
  | some g => right; have := (h.lt g hv).1; intro e; injection e with e; omega
theorem At.set {w : World} {q j : Nat} {cs : Array Value} (h : At w q cs) (hj : j < cs.size) (v : Value) : At (w.setCell ⟨q, j, none⟩ v) q (cs.setIfInBounds j v) := by
  refine ⟨fun k u hk => ?_, fun k => by rw [World.frozen?_setCell]; exact h.f k, by simpa using h.lt⟩
  by_cases e : j = k
  · subst e
    rw [World.cell?_setCell_same (h := h.c j _ (Array.getElem?_eq_getElem hj))]
    rw [Array.getElem?_setIfInBounds_self_of_lt hj] at hk
    exact hk
  · rw [Array.getElem?_setIfInBounds_ne e] at hk
    rw [World.cell?_setCell_other]
    · exact h.c k u hk
    · intro h'; injection h' with _ h2; exact e h2
theorem At.other {w : World} {q b j : Nat} {cs : Array Value} (h : At w q cs) (hb : b ≠ q) (v : Value) : At (w.setCell ⟨b, j, none⟩ v) q cs := by
  refine ⟨fun k u hk => ?_, fun k => by rw [World.frozen?_setCell]; exact h.f k, by simpa using h.lt⟩
  rw [World.cell?_setCell_other]
  · exact h.c k u hk
  · intro h'; injection h' with h1; exact hb h1

/-- The cells of blocks in a row. -/
def bcells (xs : List Bk) (ls : List Pl) : List Value := (xs.zip ls).flatMap fun y => [.slice y.2.oa y.1.ops.length y.2.oc, .int .i8 y.1.fin, .int .u8 y.1.a, .slice y.2.ba y.1.body.length y.2.bc, .int .i64 y.1.thn, .int .i64 y.1.els]
theorem bcells_snoc (xs : List Bk) (ls : List Pl) (x : Bk) (p : Pl) (h : xs.length = ls.length) : bcells (xs ++ [x]) (ls ++ [p]) = bcells xs ls ++ [.slice p.oa x.ops.length p.oc, .int .i8 x.fin, .int .u8 x.a, .slice p.ba x.body.length p.bc, .int .i64 x.thn, .int .i64 x.els] := by
  simp [bcells, List.zip_append h]
theorem bcells_cons (x : Bk) (xs : List Bk) (p : Pl) (ls : List Pl) : bcells (x :: xs) (p :: ls) = .slice p.oa x.ops.length p.oc :: .int .i8 x.fin :: .int .u8 x.a :: .slice p.ba x.body.length p.bc :: .int .i64 x.thn :: .int .i64 x.els :: bcells xs ls := rfl
theorem bcells_get (xs : List Bk) : ∀ (ls : List Pl) (_ : xs.length = ls.length) (i : Nat) (h : i < xs.length) (h' : i < ls.length), (bcells xs ls)[i * 6]? = some (.slice ls[i].oa xs[i].ops.length ls[i].oc) ∧ (bcells xs ls)[i * 6 + 1]? = some (.int .i8 xs[i].fin) ∧ (bcells xs ls)[i * 6 + 2]? = some (.int .u8 xs[i].a) ∧ (bcells xs ls)[i * 6 + 3]? = some (.slice ls[i].ba xs[i].body.length ls[i].bc) ∧ (bcells xs ls)[i * 6 + 4]? = some (.int .i64 xs[i].thn) ∧ (bcells xs ls)[i * 6 + 5]? = some (.int .i64 xs[i].els) := by
  induction xs with
  | nil => intro ls _ i h; simp at h
  | cons x r ih =>
    intro ls hl i h h'
    cases ls with
    | nil => simp at h'
    | cons p ls =>
      rw [bcells_cons]
      cases i with
      | zero => exact ⟨rfl, rfl, rfl, rfl, rfl, rfl⟩
      | succ i =>
        have := ih ls (by simpa using hl) i (by simpa using h) (by simpa using h')
        rw [show (i + 1) * 6 = i * 6 + 1 + 1 + 1 + 1 + 1 + 1 by omega]
        simpa using this

/-- A list's row. -/
def LRow (w : World) (B : Nat) (a : Option Addr) (c : Nat) (xs : List O) : Prop := w.ownsRow B 39 5 (.slice a xs.length c) xs.length (ocells xs)
/-- The copy under way: k blocks are there. -/
structure Cq (w V : World) (ao : Option Addr) (cap : Nat) (ps : List Bk) (k : Nat) (v : Value) (ls : List Pl) : Prop where
  b : Below w.heap.size w V
  z : w.heap.size + 3 ≤ V.heap.size
  p : At V w.heap.size #[.slice ao ps.length cap]
  r : At V (w.heap.size + 1) #[.slice none 0 0]
  o : At V (w.heap.size + 1 + 1) #[v]
  len : ls.length = k
  row : V.ownsRow (w.heap.size + 3) 36 6 v k (bcells (ps.take k) ls)
  ins : ∀ (i : Nat) p x, ls[i]? = some p → ps[i]? = some x → LRow V (w.heap.size + 3) p.oa p.oc x.ops ∧ LRow V (w.heap.size + 3) p.ba p.bc x.body
theorem Cq.go {w V V' : World} {ao : Option Addr} {cap : Nat} {ps : List Bk} {k : Nat} {v : Value} {ls : List Pl} (h : Cq w V ao cap ps k v ls) (hb : Below V.heap.size V V') : Cq w V' ao cap ps k v ls :=
  ⟨h.b.trans (hb.mono h.b.size), Nat.le_trans h.z hb.size, h.p.below hb h.p.lt, h.r.below hb h.r.lt, h.o.below hb h.o.lt, h.len, row_below h.row hb, fun i p x hp hx => ⟨row_below (h.ins i p x hp hx).1 hb, row_below (h.ins i p x hp hx).2 hb⟩⟩
theorem Cq.start (w : World) (ao : Option Addr) (cap : Nat) (ps : List Bk) (t0 t1 t2 : TypeId) : Cq w (((w.alloc (.cells #[.slice ao ps.length cap] t0)).alloc (.cells #[.slice none 0 0] t1)).alloc (.cells #[.slice none 0 0] t2)) ao cap ps 0 (.slice none 0 0) [] := by
  have h1 := At.new' (w.alloc (.cells #[.slice ao ps.length cap] t0)) #[.slice none 0 0] t1 (w.heap.size + 1) (by simp)
  have h2 := At.new' ((w.alloc (.cells #[.slice ao ps.length cap] t0)).alloc (.cells #[.slice none 0 0] t1)) #[.slice none 0 0] t2 (w.heap.size + 2) (by simp)
  exact ⟨((Below.refl _ _).alloc (Nat.le_refl _) _).alloc (by simp) _ |>.alloc (by simp; omega) _, by simp, ((At.new w _ t0).alloc _).alloc _, h1.alloc _, h2, rfl, World.ownsRow_nil _ _ _ _, fun i p x hp => by simp at hp⟩
/-- A block more. -/
theorem Cq.put {w V V' : World} {ao : Option Addr} {cap : Nat} {ps : List Bk} {k : Nat} {v v' : Value} {ls : List Pl} {p : Pl} (h : Cq w V ao cap ps k v ls) (hk : k < ps.length) (ho : LRow V (w.heap.size + 3) p.oa p.oc ps[k].ops) (hy : LRow V (w.heap.size + 3) p.ba p.bc ps[k].body)
    (hg : V.grownBy V' v.ownBlock) (hown : V'.ownsRow (w.heap.size + 3) 36 6 v' (k + 1) (bcells (ps.take k) ls ++ [.slice p.oa ps[k].ops.length p.oc, .int .i8 ps[k].fin, .int .u8 ps[k].a, .slice p.ba ps[k].body.length p.bc, .int .i64 ps[k].thn, .int .i64 ps[k].els])) :
    Cq w (V'.setCell ⟨w.heap.size + 1 + 1, 0, none⟩ v') ao cap ps (k + 1) v' (ls ++ [p]) := by
  have hr : ∀ b, v.ownBlock = some b → w.heap.size + 3 ≤ b := fun b hb => (h.row.lt b hb).1
  have hb : Below (w.heap.size + 3) V V' := (Below.refl _ _).grown hg h.z hr
  have far : ∀ {a : Option Addr} {c : Nat} {xs : List O}, LRow V (w.heap.size + 3) a c xs → LRow (V'.setCell ⟨w.heap.size + 1 + 1, 0, none⟩ v') (w.heap.size + 3) a c xs := fun hl => row_set (row_far hl h.row (by decide) hg) (by omega) _
  refine ⟨(h.b.trans (hb.mono (by omega))).setCell (by show w.heap.size ≤ w.heap.size + 2; omega) _, by rw [World.size_setCell]; exact Nat.le_trans h.z hg.size, (h.p.below hb (by omega)).other (by omega) _, (h.r.below hb (by omega)).other (by omega) _, (h.o.below hb (by omega)).set (j := 0) (by simp) v', by simp [h.len], ?_, ?_⟩
  · rw [List.take_succ_eq_append_getElem hk, bcells_snoc _ _ _ _ (by rw [h.len]; simp; omega)]
    exact row_set hown (by omega) _
  · intro i p' x hp hx
    rcases Nat.lt_or_ge i k with hlt | hge
    · rw [List.getElem?_append_left (by rw [h.len]; exact hlt)] at hp
      exact ⟨far (h.ins i p' x hp hx).1, far (h.ins i p' x hp hx).2⟩
    · rw [List.getElem?_append_right (by rw [h.len]; exact hge), h.len] at hp
      have hi : i - k = 0 := by
        rcases Nat.eq_zero_or_pos (i - k) with h' | h'
        · exact h'
        · rw [List.getElem?_eq_none (by simp; omega)] at hp; cases hp
      rw [hi] at hp
      simp at hp
      subst hp
      obtain rfl : i = k := by omega
      rw [List.getElem?_eq_getElem hk] at hx
      obtain rfl := Option.some.inj hx
      exact ⟨far ho, far hy⟩
/-- What a program must be to be copied: no list is great. -/
structure Small (ps : List Bk) : Prop where
  n : ps.length ≤ 8192
  l : ∀ x, x ∈ ps → x.Ok ∧ (∀ o, o ∈ x.ops → o.Ok) ∧ (∀ o, o ∈ x.body → o.Ok) ∧ x.ops.length ≤ 8192 ∧ x.body.length ≤ 8192
theorem small_of {w : World} {ao : Option Addr} {ps : List Bk} (h : PAt w ao ps) (hg : greatB ps = false) : Small ps := by
  unfold greatB opsN at hg
  simp at hg
  refine ⟨by omega, fun x hx => ?_⟩
  obtain ⟨k, hk, rfl⟩ := List.getElem_of_mem hx
  obtain ⟨b, f, _, _, hx⟩ := h.is (by omega)
  obtain ⟨p, _, h2⟩ := hx k hk
  have m := sumTo_mono ps (ps.length - (k + 1)) (k + 1) (by omega)
  rw [show k + 1 + (ps.length - (k + 1)) = ps.length by omega, sumTo_succ hk] at m
  unfold bkN at m
  exact ⟨h2.ok, h2.o.ok, h2.b.ok, by omega, by omega⟩
/-- The copy is the program. -/
theorem row_cap {w : World} {B : Nat} {a : Option Addr} {c : Nat} {xs : List O} (h : LRow w B a c xs) : xs.length ≤ c := by
  rcases h.2 with ⟨e, h0⟩ | ⟨g, cap, cur, e, _, _, h3, _⟩
  · omega
  · injection e with _ _ e3
    omega
theorem rows_done {V : World} {B : Nat} {ps : List Bk} {v : Value} {ls : List Pl} (hlen : ls.length = ps.length) (hrow : V.ownsRow B 36 6 v ps.length (bcells ps ls)) (hins : ∀ (i : Nat) p x, ls[i]? = some p → ps[i]? = some x → LRow V B p.oa p.oc x.ops ∧ LRow V B p.ba p.bc x.body) (hs : Small ps) : ∃ a c, v = .slice a ps.length c ∧ PAt V a ps := by
  rcases hrow.2 with ⟨rfl, h0⟩ | ⟨g, c, cur, rfl, _⟩
  · obtain rfl : ps = [] := List.eq_nil_of_length_eq_zero h0
    exact ⟨none, 0, rfl, pAt_nil _ _⟩
  · refine ⟨_, _, rfl, ⟨by have := hs.n; omega, fun h0 => ⟨g, 0, rfl, (hrow.lt g rfl).2, fun i hi => ?_⟩⟩⟩
    have hi' : i < ls.length := by rw [hlen]; exact hi
    obtain ⟨g0, g1, g2, g3, g4, g5⟩ := bcells_get ps ls hlen.symm i hi hi'
    have k : ∀ j u, (bcells ps ls)[j]? = some u → V.cell? ⟨g, 0 + j, none⟩ = some u := fun j u hj => by have := hrow.cells (g := g) rfl j u hj; rw [add_at] at this; exact this
    obtain ⟨s1, s2, s3, s4, s5⟩ := hs.l ps[i] (List.getElem_mem hi)
    obtain ⟨r1, r2⟩ := hins i ls[i] ps[i] (List.getElem?_eq_getElem hi') (List.getElem?_eq_getElem hi)
    exact ⟨ls[i], ⟨k _ _ g0, k _ _ g1, k _ _ g2, k _ _ g3, k _ _ g4, k _ _ g5⟩, ⟨s1, opsAt_row r1 s2 s4, opsAt_row r2 s3 s5, row_cap r1⟩⟩
theorem Cq.done {w V : World} {ao : Option Addr} {cap : Nat} {ps : List Bk} {v : Value} {ls : List Pl} (h : Cq w V ao cap ps ps.length v ls) (hs : Small ps) (u : Value) : ∃ a c, v = .slice a ps.length c ∧ PAt (V.setCell ⟨w.heap.size + 1, 0, none⟩ u) a ps := by
  have hrow := h.row
  rw [List.take_length] at hrow
  exact rows_done h.len (row_set hrow (by omega) _) (fun i p x hp hx => ⟨row_set (h.ins i p x hp hx).1 (by omega) _, row_set (h.ins i p x hp hx).2 (by omega) _⟩) hs
end Go.Proofs.YtddcndlogoajkaaDoor.L8.Op
