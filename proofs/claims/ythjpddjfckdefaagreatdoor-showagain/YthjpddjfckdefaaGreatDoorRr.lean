/- Rows of operations and of blocks in memory, and what of them stays while other blocks turn. Conditions: none. -/
import Derived.Test.YthjpddjfckdefaaGreatDoorNx
import Derived.Test.YthjpddjfckdefaaGreatDoorSr
import Derived.Deep.AppendLies
import Derived.OwnWalk
namespace Go.Proofs.YthjpddjfckdefaaGreatDoor.Op
open Go.ChangeShapes Go.WideShapes Go.ChangeAt Go.RowKit
open _root_.Go.Proofs.YthjpddjfckdefaaGreatDoor.Pr
set_option maxRecDepth 20000

theorem info46 : (Tryz.prog.info? 46).map (fun i => (i.zero, i.size, i.bytes)) = some (some (.agg #[.int .i8 0, .int .u8 0, .int .u8 0, .int .u8 0, .int .i64 0]), 5, 16) := by kernel_rfl
theorem info43 : (Tryz.prog.info? 43).map (fun i => (i.zero, i.size, i.bytes)) = some (some (.agg #[.slice none 0 0, .int .i8 0, .int .u8 0, .slice none 0 0, .int .i64 0, .int .i64 0]), 6, 72) := by kernel_rfl
theorem add_at (b f j : Nat) : (⟨b, f, none⟩ : Addr).add j = ⟨b, f + j, none⟩ := by simp [Addr.add]
/-- The cells of operations in a row. -/
def ocells (xs : List O) : List Value := xs.flatMap fun o => [.int .i8 o.op, .int .u8 o.d, .int .u8 o.a, .int .u8 o.b, .int .i64 o.im]
theorem ocells_len (xs : List O) : (ocells xs).length = xs.length * 5 := by
  induction xs with
  | nil => rfl
  | cons o r ih => unfold ocells at ih ⊢; rw [List.flatMap_cons, List.length_append, ih]; simp; omega
theorem ocells_cons (o : O) (r : List O) : ocells (o :: r) = .int .i8 o.op :: .int .u8 o.d :: .int .u8 o.a :: .int .u8 o.b :: .int .i64 o.im :: ocells r := rfl
theorem ocells_get (xs : List O) : ∀ (i : Nat) (h : i < xs.length), (ocells xs)[i * 5]? = some (.int .i8 xs[i].op) ∧ (ocells xs)[i * 5 + 1]? = some (.int .u8 xs[i].d) ∧ (ocells xs)[i * 5 + 2]? = some (.int .u8 xs[i].a) ∧ (ocells xs)[i * 5 + 3]? = some (.int .u8 xs[i].b) ∧ (ocells xs)[i * 5 + 4]? = some (.int .i64 xs[i].im) := by
  induction xs with
  | nil => intro i h; simp at h
  | cons o r ih =>
    intro i h
    rw [ocells_cons]
    cases i with
    | zero => exact ⟨rfl, rfl, rfl, rfl, rfl⟩
    | succ i =>
      have := ih i (by simpa using h)
      rw [show (i + 1) * 5 = i * 5 + 1 + 1 + 1 + 1 + 1 by omega]
      simpa using this
theorem ocells_one (xs : List O) : ∀ u, u ∈ ocells xs → u.oneCell' = true := by
  intro u hu
  obtain ⟨o, _, h⟩ := List.mem_flatMap.1 hu
  simp at h
  rcases h with rfl | rfl | rfl | rfl | rfl <;> rfl
theorem ocells_at {w : World} {b f : Nat} (xs : List O) (h : ∀ (i : Nat) (h : i < xs.length), OAt w b (f + i * 5) xs[i]) : ∀ j u, (ocells xs)[j]? = some u → w.cell? ((⟨b, f, none⟩ : Addr).add j) = some u := by
  intro j u hu
  have hj : j < (ocells xs).length := by
    rcases Nat.lt_or_ge j (ocells xs).length with h' | h'
    · exact h'
    · rw [List.getElem?_eq_none h'] at hu; cases hu
  rw [ocells_len] at hj
  have hi : j / 5 < xs.length := by omega
  obtain ⟨c0, c1, c2, c3, c4⟩ := h (j / 5) hi
  obtain ⟨g0, g1, g2, g3, g4⟩ := ocells_get xs (j / 5) hi
  have hq : j = j / 5 * 5 + j % 5 := by omega
  have hm : j % 5 = 0 ∨ j % 5 = 1 ∨ j % 5 = 2 ∨ j % 5 = 3 ∨ j % 5 = 4 := by omega
  rw [add_at]
  generalize j / 5 = q at *
  rcases hm with hm | hm | hm | hm | hm
  · obtain rfl : j = q * 5 := by omega
    rw [g0] at hu; rw [← hu]; exact c0
  · obtain rfl : j = q * 5 + 1 := by omega
    rw [g1] at hu; rw [← hu, ← Nat.add_assoc]; exact c1
  · obtain rfl : j = q * 5 + 2 := by omega
    rw [g2] at hu; rw [← hu, ← Nat.add_assoc]; exact c2
  · obtain rfl : j = q * 5 + 3 := by omega
    rw [g3] at hu; rw [← hu, ← Nat.add_assoc]; exact c3
  · obtain rfl : j = q * 5 + 4 := by omega
    rw [g4] at hu; rw [← hu, ← Nat.add_assoc]; exact c4
/-- A row of operations is a list in memory. -/
theorem opsAt_row {w : World} {B c : Nat} {a : Option Addr} {xs : List O} (h : w.ownsRow B 46 5 (.slice a xs.length c) xs.length (ocells xs)) (hok : ∀ o, o ∈ xs → o.Ok) (hl : xs.length ≤ 100000) : OpsAt w a xs := by
  refine ⟨hok, by omega, fun h0 => ?_⟩
  rcases h.2 with ⟨_, h1⟩ | ⟨g, cap, cur, h1, h2, h3, h4⟩
  · omega
  · injection h1 with e1 e2 e3
    subst e1
    have hc := h.cells (g := g) rfl
    refine ⟨g, 0, rfl, (h.lt g rfl).2, fun i hi => ?_⟩
    obtain ⟨g0, g1, g2, g3, g4⟩ := ocells_get xs i hi
    have k : ∀ j u, (ocells xs)[j]? = some u → w.cell? ⟨g, 0 + j, none⟩ = some u := fun j u hj => by have := hc j u hj; rw [add_at] at this; exact this
    exact ⟨k _ _ g0, k _ _ g1, k _ _ g2, k _ _ g3, k _ _ g4⟩

theorem grown_below {w w' : World} {row : Option Nat} (h : w.grownBy w' row) (hr : ∀ b, row = some b → w.heap.size ≤ b) : Below w.heap.size w w' :=
  ⟨h.os, h.tape, h.output, h.size, fun k hk => h.block k hk fun e => by have := hr k e.symm; omega⟩

theorem row_le {w : World} {b b' : Nat} {e : TypeId} {z : Nat} {v : Value} {n : Nat} {xs : List Value} (h : w.ownsRow b e z v n xs) (hb : b' ≤ b) : w.ownsRow b' e z v n xs := by
  refine ⟨h.1, h.2.imp id ?_⟩
  rintro ⟨g, cap, cur, h1, h2, h3⟩
  exact ⟨g, cap, cur, h1, Nat.le_trans hb h2, h3⟩
theorem row_below {w w' : World} {B : Nat} {e : TypeId} {z : Nat} {v : Value} {n : Nat} {xs : List Value} (h : w.ownsRow B e z v n xs) (hb : Below w.heap.size w w') : w'.ownsRow B e z v n xs :=
  h.kept (row := none) ⟨hb.os, hb.tape, hb.output, hb.size, fun k hk _ => hb.block k hk⟩ (by cases v.ownBlock <;> simp)
theorem row_far {w w' : World} {B B' : Nat} {e e' : TypeId} {z z' : Nat} {u v : Value} {n m : Nat} {xs ys : List Value} (h : w.ownsRow B e z u n xs) (hv : w.ownsRow B' e' z' v m ys) (he : e ≠ e') (hg : w.grownBy w' v.ownBlock) : w'.ownsRow B e z u n xs := by
  refine h.kept hg ?_
  rcases h.2 with ⟨rfl, _⟩ | ⟨g, cap, cur, rfl, _, h3, _⟩
  · left; rfl
  · right
    rcases hv.2 with ⟨rfl, _⟩ | ⟨g', cap', cur', rfl, _, h3', _⟩
    · simp [Value.ownBlock]
    · simp only [Value.ownBlock, ne_eq, Option.some.injEq]
      rintro rfl
      rw [h3] at h3'
      simp at h3'
      exact he h3'.2
theorem row_set {w : World} {B : Nat} {e : TypeId} {z : Nat} {v : Value} {n : Nat} {xs : List Value} (h : w.ownsRow B e z v n xs) {b j : Nat} (hb : b < B) (u : Value) : (w.setCell ⟨b, j, none⟩ u).ownsRow B e z v n xs := by
  refine h.kept (row := some b) ⟨rfl, rfl, rfl, by simp, fun k hk hne => Below.heap_setCell _ _ _ _ fun e => hne (by rw [e])⟩ ?_
  cases hv : v.ownBlock with
  | none => left; rfl
  | some g => right; have := (h.lt g hv).1; intro e; injection e with e; omega
def bcells (xs : List Bk) (ls : List Pl) : List Value := (xs.zip ls).flatMap fun y => [.slice y.2.oa y.1.ops.length y.2.oc, .int .i8 y.1.fin, .int .u8 y.1.a, .slice y.2.ba y.1.body.length y.2.bc, .int .i64 y.1.thn, .int .i64 y.1.els]
theorem bcells_snoc (xs : List Bk) (ls : List Pl) (x : Bk) (p : Pl) (h : xs.length = ls.length) : bcells (xs ++ [x]) (ls ++ [p]) = bcells xs ls ++ [.slice p.oa x.ops.length p.oc, .int .i8 x.fin, .int .u8 x.a, .slice p.ba x.body.length p.bc, .int .i64 x.thn, .int .i64 x.els] := by
  simp [bcells, List.zip_append h]
theorem bcells_cons (x : Bk) (xs : List Bk) (p : Pl) (ls : List Pl) : bcells (x :: xs) (p :: ls) = .slice p.oa x.ops.length p.oc :: .int .i8 x.fin :: .int .u8 x.a :: .slice p.ba x.body.length p.bc :: .int .i64 x.thn :: .int .i64 x.els :: bcells xs ls := rfl
theorem bcells_get (xs : List Bk) : ∀ (ls : List Pl) (_ : xs.length = ls.length) (i : Nat) (h : i < xs.length) (h' : i < ls.length), (bcells xs ls)[i * 6]? = some (.slice ls[i].oa xs[i].ops.length ls[i].oc) ∧ (bcells xs ls)[i * 6 + 1]? = some (.int .i8 xs[i].fin) ∧ (bcells xs ls)[i * 6 + 2]? = some (.int .u8 xs[i].a) ∧ (bcells xs ls)[i * 6 + 3]? = some (.slice ls[i].ba xs[i].body.length ls[i].bc) ∧ (bcells xs ls)[i * 6 + 4]? = some (.int .i64 xs[i].thn) ∧ (bcells xs ls)[i * 6 + 5]? = some (.int .i64 xs[i].els) := by
  induction xs with
  | nil => intro ls _ i h; simp at h
  | cons x r ih =>
    intro ls hl i h h'
    cases ls with
    | nil => simp at h'
    | cons p ls =>
      rw [bcells_cons]
      cases i with
      | zero => exact ⟨rfl, rfl, rfl, rfl, rfl, rfl⟩
      | succ i =>
        have := ih ls (by simpa using hl) i (by simpa using h) (by simpa using h')
        rw [show (i + 1) * 6 = i * 6 + 1 + 1 + 1 + 1 + 1 + 1 by omega]
        simpa using this

def LRow (w : World) (B : Nat) (a : Option Addr) (c : Nat) (xs : List O) : Prop := w.ownsRow B 46 5 (.slice a xs.length c) xs.length (ocells xs)
/-- A row stays where its block does. -/
theorem row_fr {X : Nat → Prop} {w w' : World} {B : Nat} {e : TypeId} {z : Nat} {v : Value} {n : Nat} {xs : List Value} (h : w.ownsRow B e z v n xs) (g : Fr X w w') (hX : ∀ b, v.ownBlock = some b → ¬ X b) : w'.ownsRow B e z v n xs := by
  refine ⟨h.1, ?_⟩
  rcases h.2 with h1 | ⟨b, cap, cur, h1, h2, h3, h4⟩
  · exact .inl h1
  · refine .inr ⟨b, cap, cur, h1, h2, ?_, h4⟩
    rw [g.block b (h.lt b (by rw [h1]; rfl)).2 (hX b (by rw [h1]; rfl))]
    exact h3
theorem row_old {w w' : World} {B q : Nat} {e : TypeId} {z : Nat} {v : Value} {n : Nat} {xs : List Value} (h : w.ownsRow B e z v n xs) (g : Fr (One q) w w') (hq : q < B) : w'.ownsRow B e z v n xs :=
  row_fr h g fun b hb e => by have := (h.lt b hb).1; subst e; omega
structure Small (ps : List Bk) : Prop where
  n : ps.length ≤ 100000
  l : ∀ x, x ∈ ps → x.Ok ∧ (∀ o, o ∈ x.ops → o.Ok) ∧ (∀ o, o ∈ x.body → o.Ok) ∧ x.ops.length ≤ 100000 ∧ x.body.length ≤ 100000
theorem pAt_nil (w : World) (ao : Option Addr) : PAt w ao [] := ⟨by simp, fun h => by simp at h⟩
theorem rows_done {V : World} {B : Nat} {ps : List Bk} {v : Value} {ls : List Pl} (hlen : ls.length = ps.length) (hrow : V.ownsRow B 43 6 v ps.length (bcells ps ls)) (hins : ∀ (i : Nat) p x, ls[i]? = some p → ps[i]? = some x → LRow V B p.oa p.oc x.ops ∧ LRow V B p.ba p.bc x.body) (hs : Small ps) : ∃ a c, v = .slice a ps.length c ∧ PAt V a ps := by
  rcases hrow.2 with ⟨rfl, h0⟩ | ⟨g, c, cur, rfl, _⟩
  · obtain rfl : ps = [] := List.eq_nil_of_length_eq_zero h0
    exact ⟨none, 0, rfl, pAt_nil _ _⟩
  · refine ⟨_, _, rfl, ⟨by have := hs.n; omega, fun h0 => ⟨g, 0, rfl, (hrow.lt g rfl).2, fun i hi => ?_⟩⟩⟩
    have hi' : i < ls.length := by rw [hlen]; exact hi
    obtain ⟨g0, g1, g2, g3, g4, g5⟩ := bcells_get ps ls hlen.symm i hi hi'
    have k : ∀ j u, (bcells ps ls)[j]? = some u → V.cell? ⟨g, 0 + j, none⟩ = some u := fun j u hj => by have := hrow.cells (g := g) rfl j u hj; rw [add_at] at this; exact this
    obtain ⟨s1, s2, s3, s4, s5⟩ := hs.l ps[i] (List.getElem_mem hi)
    obtain ⟨r1, r2⟩ := hins i ls[i] ps[i] (List.getElem?_eq_getElem hi') (List.getElem?_eq_getElem hi)
    exact ⟨ls[i], ⟨k _ _ g0, k _ _ g1, k _ _ g2, k _ _ g3, k _ _ g4, k _ _ g5⟩, ⟨s1, opsAt_row r1 s2 s4, opsAt_row r2 s3 s5⟩⟩
end Go.Proofs.YthjpddjfckdefaaGreatDoor.Op
