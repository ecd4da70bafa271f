/- What stays of memory while some blocks turn; blocks in memory; regions that only read. Conditions: none. -/
import Derived.Test.YtnfnjhaaaenldaaChecked
import Derived.Test.YtnfnjhaaaenldaaSs
import Derived.ProofKit
import Derived.OpenShut
import Derived.WalkKit
import Derived.WalkSpells
import Derived.WalkLawsBesides
import Derived.Handy
import Derived.ChangeOld
import Derived.Below
import Derived.BigRegion
import Derived.BigQuiet
import Derived.Deep.LoopGhost
import Derived.Deep.QuietTactic
import Derived.Deep.RegionHeld3
import Derived.Deep.DrawnRows
import Derived.Deep.WholeRow
namespace Go.Proofs.Ytnfnjhaaaenldaa.So
open Go.ChangeShapes Go.WideShapes Go.ChangeAt Go.RowKit
set_option maxRecDepth 20000

/-- All old blocks stand, but for some. -/
structure Fr (X : Nat → Prop) (w w' : World) : Prop where
  os : w'.os = w.os
  tape : w'.tape = w.tape
  output : w'.output = w.output
  size : w.heap.size ≤ w'.heap.size
  block : ∀ k, k < w.heap.size → ¬ X k → w'.heap[k]? = w.heap[k]?
abbrev Non : Nat → Prop := fun _ => False
abbrev One (q : Nat) : Nat → Prop := fun k => k = q
theorem Fr.refl (X : Nat → Prop) (w : World) : Fr X w w := ⟨rfl, rfl, rfl, Nat.le_refl _, fun _ _ _ => rfl⟩
theorem Fr.of {X : Nat → Prop} {w w' : World} (h : Below w.heap.size w w') : Fr X w w' := ⟨h.os, h.tape, h.output, h.size, fun k hk _ => h.block k hk⟩
theorem Fr.trans {X Y : Nat → Prop} {a b c : World} (h : Fr X a b) (g : Fr Y b c) (hY : ∀ k, k < a.heap.size → Y k → X k) : Fr X a c :=
  ⟨g.os.trans h.os, g.tape.trans h.tape, g.output.trans h.output, Nat.le_trans h.size g.size, fun k hk hx => (g.block k (Nat.lt_of_lt_of_le hk h.size) fun hy => hx (hY k hk hy)).trans (h.block k hk hx)⟩
theorem Fr.then {X : Nat → Prop} {a b c : World} (h : Fr X a b) (g : Below b.heap.size b c) : Fr X a c := h.trans (Fr.of (X := Non) g) fun _ _ hy => hy.elim
theorem Fr.same {X : Nat → Prop} {a b c : World} (h : Fr X a b) (g : Fr X b c) : Fr X a c := h.trans g fun _ _ hy => hy
theorem Fr.new {X : Nat → Prop} {q : Nat} {a b c : World} (h : Fr X a b) (g : Fr (One q) b c) (hq : a.heap.size ≤ q) : Fr X a c := h.trans g fun k hk hy => by subst hy; omega
theorem Fr.below {X : Nat → Prop} {B : Nat} {w w' : World} (h : Fr X w w') (hB : B ≤ w.heap.size) (hX : ∀ k, k < B → ¬ X k) : Below B w w' := ⟨h.os, h.tape, h.output, h.size, fun k hk => h.block k (Nat.lt_of_lt_of_le hk hB) (hX k hk)⟩
theorem Fr.non {w w' : World} (h : Fr Non w w') : Below w.heap.size w w' := h.below (Nat.le_refl _) fun _ _ hk => hk
theorem Fr.mono {X Y : Nat → Prop} {w w' : World} (h : Fr X w w') (hX : ∀ k, k < w.heap.size → X k → Y k) : Fr Y w w' := ⟨h.os, h.tape, h.output, h.size, fun k hk hy => h.block k hk fun hx => hy (hX k hk hx)⟩
theorem Fr.cell {X : Nat → Prop} {w w' : World} (h : Fr X w w') {b : Nat} (hb : b < w.heap.size) (hx : ¬ X b) (o : Nat) : w'.cell? ⟨b, o, none⟩ = w.cell? ⟨b, o, none⟩ := World.cell?_of_block (w := w) (h.block b hb hx)
theorem Fr.frozen {X : Nat → Prop} {w w' : World} (h : Fr X w w') {b : Nat} (hb : b < w.heap.size) (hx : ¬ X b) (o : Nat) : w'.frozen? ⟨b, o, none⟩ = w.frozen? ⟨b, o, none⟩ := World.frozen?_of_block (a := ⟨b, o, none⟩) (h.block b hb hx)
theorem Fr.setCell {X : Nat → Prop} {w w' : World} (h : Fr X w w') {b : Nat} (hb : w.heap.size ≤ b ∨ X b) (o : Nat) (v : Value) : Fr X w (w'.setCell ⟨b, o, none⟩ v) := by
  refine ⟨h.os, h.tape, h.output, by rw [World.size_setCell]; exact h.size, fun k hk hx => ?_⟩
  have hne : k ≠ b := by
    rintro rfl
    rcases hb with hb | hb
    · omega
    · exact hx hb
  rw [Below.heap_setCell _ _ _ _ hne]
  exact h.block k hk hx
theorem Fr.alloc {X : Nat → Prop} {w w' : World} (h : Fr X w w') (o : Obj) : Fr X w (w'.alloc o) := h.then ((Below.refl _ _).alloc (Nat.le_refl _) _)
theorem Fr.drewN {X : Nat → Prop} {w w' : World} (h : Fr X w w') (n : Nat) : Fr X w (w'.drewN n) := ⟨h.os, h.tape, h.output, h.size, h.block⟩
theorem Fr.drew {X : Nat → Prop} {w w' : World} (h : Fr X w w') : Fr X w w'.drew := ⟨h.os, h.tape, h.output, h.size, h.block⟩
/-- What comparing two numbers answers. -/
def c3 (a b : Int) : Int := if a < b then -1 else if b < a then 1 else 0
theorem c3_lt {a b : Int} : c3 a b < 0 ↔ a < b := by
  unfold c3
  by_cases h : a < b
  · rw [if_pos h]; omega
  · rw [if_neg h]
    by_cases h' : b < a
    · rw [if_pos h']; omega
    · rw [if_neg h']; omega
end Go.Proofs.Ytnfnjhaaaenldaa.So
namespace Go.Proofs.Ytnfnjhaaaenldaa.Op
open Go.ChangeShapes Go.WideShapes Go.ChangeAt Go.RowKit

theorem ret_bool {a b : Bool} (h : a = b) : Ending.returned (.bool a) = .returned (.bool b) := by rw [h]
theorem ret_int {k : IntKind} {a b : Int} (h : a = b) : Ending.returned (.int k a) = .returned (.int k b) := by rw [h]
theorem bcell {B : Nat} {W w1 : World} (hb : Below B W w1) : (∀ b o, b < B → w1.cell? ⟨b, o, none⟩ = W.cell? ⟨b, o, none⟩) ∧ (∀ b o, b < B → w1.frozen? ⟨b, o, none⟩ = W.frozen? ⟨b, o, none⟩) :=
  ⟨fun b o h => hb.cell (p := ⟨b, o, none⟩) h, fun b o h => hb.frozen (p := ⟨b, o, none⟩) h⟩

/-- A world that meets a condition. -/
structure Wd (G : World → Prop) where
  w : World
  ok : G w

theorem wp_region_in {P : Program} {id : Nat} {Q : Exit → Act → World → Prop} {a : Act} {w : World} {l : List Oper} (G : World → Prop) (hm : P.follows .mixedOrders = true) (hB : Region.lexB .any l.toArray = true)
    (hG : G w.drew) (h : wpQuiet P l.toArray (fun w' => ∃ x : Wd G, w' = x.w) (fun a' => ∀ w', (∃ x : Wd G, w' = x.w) → Q .normal a' w') l a) : (Code.region id l.toArray true).wp P Q a w :=
  wp_region_quiet (C := fun w' => ∃ x : Wd G, w' = x.w) hm hB ⟨⟨_, hG⟩, rfl⟩ (by simpa using h)

theorem calls_in {P : Program} {B : Nat} {W : World} {f : FuncId} {args : Array Value} {v : Value} (hB : B ≤ W.heap.size) (x : Wd (Below B W)) (c : Calls P f args x.w fun e w' => e = .returned v ∧ Below x.w.heap.size x.w w') :
    Calls P f args x.w fun e w'' => e = .returned v ∧ ∃ y : Wd (Below B W), w'' = y.w :=
  c.mono fun _ w' h => ⟨h.1, ⟨w', x.ok.trans (h.2.mono (Nat.le_trans hB x.ok.size))⟩, rfl⟩

/-- A block that holds these cells, none of them frozen. -/
structure At (w : World) (b : Nat) (cs : Array Value) : Prop where
  c : ∀ (j : Nat) v, cs[j]? = some v → w.cell? ⟨b, j, none⟩ = some v
  f : ∀ j : Nat, w.frozen? ⟨b, j, none⟩ = false
  lt : b < w.heap.size
theorem At.new (w : World) (c : Array Value) (t : TypeId) : At (w.alloc (.cells c t)) w.heap.size c :=
  ⟨fun j v h => by simp [h], fun j => by simp, by simp⟩
theorem At.below {w w' : World} {b B : Nat} {cs : Array Value} (h : At w b cs) (hb : Below B w w') (hB : b < B) : At w' b cs :=
  ⟨fun j v e => by rw [(bcell hb).1 _ _ hB]; exact h.c j v e, fun j => by rw [(bcell hb).2 _ _ hB]; exact h.f j, Nat.lt_of_lt_of_le h.lt hb.size⟩
theorem At.alloc {w : World} {b : Nat} {cs : Array Value} (h : At w b cs) (o : Obj) : At (w.alloc o) b cs :=
  h.below ((Below.refl _ _).alloc (Nat.le_refl _) o) h.lt
theorem drew_up (w : World) : Below w.heap.size w w.drew := ⟨rfl, rfl, rfl, Nat.le_refl _, fun _ _ => rfl⟩
end Go.Proofs.Ytnfnjhaaaenldaa.Op
