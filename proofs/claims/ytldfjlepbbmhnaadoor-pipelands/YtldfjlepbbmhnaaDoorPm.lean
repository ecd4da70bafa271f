/- A program as it lies in memory: blocks, each with two lists of operations; and what of it stays as memory grows. Conditions: none. -/
import Derived.Test.YtldfjlepbbmhnaaDoorKa
import Derived.Test.YtldfjlepbbmhnaaDoorKb
namespace Go.Proofs.YtldfjlepbbmhnaaDoor.Op
open Go.ChangeShapes Go.WideShapes Go.ChangeAt Go.RowKit
set_option maxRecDepth 20000

/-- An operation at a place. -/
structure OAt (w : World) (b f : Nat) (o : O) : Prop where
  c0 : w.cell? ⟨b, f, none⟩ = some (.int .i8 o.op)
  c1 : w.cell? ⟨b, f + 1, none⟩ = some (.int .u8 o.d)
  c2 : w.cell? ⟨b, f + 2, none⟩ = some (.int .u8 o.a)
  c3 : w.cell? ⟨b, f + 3, none⟩ = some (.int .u8 o.b)
  c4 : w.cell? ⟨b, f + 4, none⟩ = some (.int .i64 o.im)
theorem OAt.below {w w' : World} {b f B : Nat} {o : O} (h : OAt w b f o) (hb : Below B w w') (z : b < B) : OAt w' b f o := by
  have c := (bcell hb).1
  exact ⟨by rw [c _ _ z]; exact h.c0, by rw [c _ _ z]; exact h.c1, by rw [c _ _ z]; exact h.c2, by rw [c _ _ z]; exact h.c3, by rw [c _ _ z]; exact h.c4⟩

/-- A list of operations in memory. -/
structure OpsAt (w : World) (ao : Option Addr) (xs : List O) : Prop where
  ok : ∀ o, o ∈ xs → o.Ok
  len : xs.length ≤ 8796093022208
  is : 0 < xs.length → ∃ b f, ao = some ⟨b, f, none⟩ ∧ b < w.heap.size ∧ ∀ (i : Nat) (h : i < xs.length), OAt w b (f + i * 5) xs[i]
theorem OpsAt.below {w w' : World} {ao : Option Addr} {xs : List O} (h : OpsAt w ao xs) (hb : Below w.heap.size w w') : OpsAt w' ao xs := by
  refine ⟨h.ok, h.len, fun h0 => ?_⟩
  obtain ⟨b, f, e, z, hx⟩ := h.is h0
  exact ⟨b, f, e, Nat.lt_of_lt_of_le z hb.size, fun i hi => (hx i hi).below hb z⟩

/-- A block: its operations, how it ends, the body of its loop, where it goes on. -/
structure Bk where
  ops : List O
  fin : Int
  a : Int
  body : List O
  thn : Int
  els : Int
structure Bk.Ok (x : Bk) : Prop where
  f0 : -128 ≤ x.fin
  f1 : x.fin ≤ 127
  a0 : 0 ≤ x.a
  a1 : x.a ≤ 255
  t0 : -9223372036854775808 ≤ x.thn
  t1 : x.thn ≤ 9223372036854775807
  e0 : -9223372036854775808 ≤ x.els
  e1 : x.els ≤ 9223372036854775807

/-- Where a block's two lists lie. -/
structure Pl where
  oa : Option Addr
  oc : Nat
  ba : Option Addr
  bc : Nat
abbrev Bk.cells (x : Bk) (p : Pl) : Array Value := #[.slice p.oa x.ops.length p.oc, .int .i8 x.fin, .int .u8 x.a, .slice p.ba x.body.length p.bc, .int .i64 x.thn, .int .i64 x.els]
abbrev Bk.val (x : Bk) (p : Pl) : Value := .agg #[.slice p.oa x.ops.length p.oc, .int .i8 x.fin, .int .u8 x.a, .slice p.ba x.body.length p.bc, .int .i64 x.thn, .int .i64 x.els]
/-- A block's value, with its lists in memory. -/
structure BIn (w : World) (x : Bk) (p : Pl) : Prop where
  ok : x.Ok
  o : OpsAt w p.oa x.ops
  b : OpsAt w p.ba x.body
  c : x.ops.length ≤ p.oc
theorem BIn.below {w w' : World} {x : Bk} {p : Pl} (h : BIn w x p) (hb : Below w.heap.size w w') : BIn w' x p := ⟨h.ok, h.o.below hb, h.b.below hb, h.c⟩
structure BAt (w : World) (b f : Nat) (x : Bk) (p : Pl) : Prop where
  c0 : w.cell? ⟨b, f, none⟩ = some (.slice p.oa x.ops.length p.oc)
  c1 : w.cell? ⟨b, f + 1, none⟩ = some (.int .i8 x.fin)
  c2 : w.cell? ⟨b, f + 2, none⟩ = some (.int .u8 x.a)
  c3 : w.cell? ⟨b, f + 3, none⟩ = some (.slice p.ba x.body.length p.bc)
  c4 : w.cell? ⟨b, f + 4, none⟩ = some (.int .i64 x.thn)
  c5 : w.cell? ⟨b, f + 5, none⟩ = some (.int .i64 x.els)
theorem BAt.below {w w' : World} {b f B : Nat} {x : Bk} {p : Pl} (h : BAt w b f x p) (hb : Below B w w') (z : b < B) : BAt w' b f x p := by
  have c := (bcell hb).1
  exact ⟨by rw [c _ _ z]; exact h.c0, by rw [c _ _ z]; exact h.c1, by rw [c _ _ z]; exact h.c2, by rw [c _ _ z]; exact h.c3, by rw [c _ _ z]; exact h.c4, by rw [c _ _ z]; exact h.c5⟩

/-- A program in memory. -/
structure PAt (w : World) (ao : Option Addr) (ps : List Bk) : Prop where
  len : ps.length ≤ 2199023255552
  is : 0 < ps.length → ∃ b f, ao = some ⟨b, f, none⟩ ∧ b < w.heap.size ∧ ∀ (i : Nat) (h : i < ps.length), ∃ p, BAt w b (f + i * 6) ps[i] p ∧ BIn w ps[i] p
theorem PAt.below {w w' : World} {ao : Option Addr} {ps : List Bk} (h : PAt w ao ps) (hb : Below w.heap.size w w') : PAt w' ao ps := by
  refine ⟨h.len, fun h0 => ?_⟩
  obtain ⟨b, f, e, z, hx⟩ := h.is h0
  refine ⟨b, f, e, Nat.lt_of_lt_of_le z hb.size, fun i hi => ?_⟩
  obtain ⟨p, h1, h2⟩ := hx i hi
  exact ⟨p, h1.below hb z, h2.below hb⟩
end Go.Proofs.YtldfjlepbbmhnaaDoor.Op
