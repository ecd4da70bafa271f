/- The machine in memory: the program's and the document's; what stays of it as memory turns, and what a store makes of it. Conditions: none. -/
import Derived.Test.YtddcndlogoajkaaGreatDoorChecked
import Derived.Test.YtddcndlogoajkaaGreatDoorQSs
import Derived.ProofKit
import Derived.WalkKit
import Derived.WalkLawsBesides
import Derived.ChangeOld
import Derived.Below
import Derived.BigRegion
import Derived.BigQuiet
import Derived.Deep.LoopGhost
import Derived.Deep.QuietTactic
import Derived.Test.YtddcndlogoajkaaGreatDoorQNa
import Derived.Laws.EntriesVeiled
namespace Go.Proofs.YtddcndlogoajkaaGreatDoor.L8.So
open Go.ChangeShapes Go.WideShapes Go.ChangeAt Go.RowKit
set_option maxRecDepth 20000

/-- All old blocks stand, but for some. -/
structure Fr (X : Nat → Prop) (w w' : World) : Prop where
  os : w'.os = w.os
  tape : w'.tape = w.tape
  output : w'.output = w.output
  size : w.heap.size ≤ w'.heap.size
  block : ∀ k, k < w.heap.size → ¬ X k → w'.heap[k]? = w.heap[k]?
abbrev Non : Nat → Prop := fun _ => False
abbrev One (q : Nat) : Nat → Prop := fun k => k = q
theorem Fr.refl (X : Nat → Prop) (w : World) : Fr X w w := ⟨rfl, rfl, rfl, Nat.le_refl _, fun _ _ _ => rfl⟩
theorem Fr.of {X : Nat → Prop} {w w' : World} (h : Below w.heap.size w w') : Fr X w w' := ⟨h.os, h.tape, h.output, h.size, fun k hk _ => h.block k hk⟩
theorem Fr.trans {X Y : Nat → Prop} {a b c : World} (h : Fr X a b) (g : Fr Y b c) (hY : ∀ k, k < a.heap.size → Y k → X k) : Fr X a c :=
  ⟨g.os.trans h.os, g.tape.trans h.tape, g.output.trans h.output, Nat.le_trans h.size g.size, fun k hk hx => (g.block k (Nat.lt_of_lt_of_le hk h.size) fun hy => hx (hY k hk hy)).trans (h.block k hk hx)⟩
theorem Fr.then {X : Nat → Prop} {a b c : World} (h : Fr X a b) (g : Below b.heap.size b c) : Fr X a c := h.trans (Fr.of (X := Non) g) fun _ _ hy => hy.elim
theorem Fr.same {X : Nat → Prop} {a b c : World} (h : Fr X a b) (g : Fr X b c) : Fr X a c := h.trans g fun _ _ hy => hy
theorem Fr.new {X : Nat → Prop} {q : Nat} {a b c : World} (h : Fr X a b) (g : Fr (One q) b c) (hq : a.heap.size ≤ q) : Fr X a c := h.trans g fun k hk hy => by subst hy; omega
theorem Fr.below {X : Nat → Prop} {B : Nat} {w w' : World} (h : Fr X w w') (hB : B ≤ w.heap.size) (hX : ∀ k, k < B → ¬ X k) : Below B w w' := ⟨h.os, h.tape, h.output, h.size, fun k hk => h.block k (Nat.lt_of_lt_of_le hk hB) (hX k hk)⟩
theorem Fr.non {w w' : World} (h : Fr Non w w') : Below w.heap.size w w' := h.below (Nat.le_refl _) fun _ _ hk => hk
theorem Fr.mono {X Y : Nat → Prop} {w w' : World} (h : Fr X w w') (hX : ∀ k, k < w.heap.size → X k → Y k) : Fr Y w w' := ⟨h.os, h.tape, h.output, h.size, fun k hk hy => h.block k hk fun hx => hy (hX k hk hx)⟩
theorem Fr.cell {X : Nat → Prop} {w w' : World} (h : Fr X w w') {b : Nat} (hb : b < w.heap.size) (hx : ¬ X b) (o : Nat) : w'.cell? ⟨b, o, none⟩ = w.cell? ⟨b, o, none⟩ := World.cell?_of_block (w := w) (h.block b hb hx)
theorem Fr.frozen {X : Nat → Prop} {w w' : World} (h : Fr X w w') {b : Nat} (hb : b < w.heap.size) (hx : ¬ X b) (o : Nat) : w'.frozen? ⟨b, o, none⟩ = w.frozen? ⟨b, o, none⟩ := World.frozen?_of_block (a := ⟨b, o, none⟩) (h.block b hb hx)
theorem Fr.setCell {X : Nat → Prop} {w w' : World} (h : Fr X w w') {b : Nat} (hb : w.heap.size ≤ b ∨ X b) (o : Nat) (v : Value) : Fr X w (w'.setCell ⟨b, o, none⟩ v) := by
  refine ⟨h.os, h.tape, h.output, by rw [World.size_setCell]; exact h.size, fun k hk hx => ?_⟩
  have hne : k ≠ b := by
    rintro rfl
    rcases hb with hb | hb
    · omega
    · exact hx hb
  rw [Below.heap_setCell _ _ _ _ hne]
  exact h.block k hk hx
theorem Fr.alloc {X : Nat → Prop} {w w' : World} (h : Fr X w w') (o : Obj) : Fr X w (w'.alloc o) := h.then ((Below.refl _ _).alloc (Nat.le_refl _) _)
theorem Fr.drewN {X : Nat → Prop} {w w' : World} (h : Fr X w w') (n : Nat) : Fr X w (w'.drewN n) := ⟨h.os, h.tape, h.output, h.size, h.block⟩
theorem Fr.drew {X : Nat → Prop} {w w' : World} (h : Fr X w w') : Fr X w w'.drew := ⟨h.os, h.tape, h.output, h.size, h.block⟩
/-- What comparing two numbers answers. -/
def c3 (a b : Int) : Int := if a < b then -1 else if b < a then 1 else 0
theorem c3_lt {a b : Int} : c3 a b < 0 ↔ a < b := by
  unfold c3
  by_cases h : a < b
  · rw [if_pos h]; omega
  · rw [if_neg h]
    by_cases h' : b < a
    · rw [if_pos h']; omega
    · rw [if_neg h']; omega
end Go.Proofs.YtddcndlogoajkaaGreatDoor.L8.So
namespace Go.Proofs.YtddcndlogoajkaaGreatDoor.L8.Sm
open Go.ChangeShapes Go.WideShapes Go.ChangeAt Go.RowKit
open _root_.Go.Proofs.YtddcndlogoajkaaGreatDoor.L8.Op
set_option maxRecDepth 20000

theorem co {w : World} {q j k : Nat} {v : Value} (h : ¬ j = k) : (w.setCell ⟨q, j, none⟩ v).cell? ⟨q, k, none⟩ = w.cell? ⟨q, k, none⟩ := by
  rw [World.cell?_setCell_other]
  intro e; injection e with _ e; exact h e
theorem cs {w : World} {q j : Nat} {v u : Value} (h : w.cell? ⟨q, j, none⟩ = some u) : (w.setCell ⟨q, j, none⟩ v).cell? ⟨q, j, none⟩ = some v := World.cell?_setCell_same _ _ _ h
/-- What an operation's kind does: its two functions; what a block's end does. -/
def fnV (n : Nat) : Value := .func (.func n) #[] #[]
def valN (k : Nat) : Nat := if k = 1 then 50 else if k = 15 then 52 else if k = 16 then 53 else if k = 17 then 55 else 61
def landN (k : Nat) : Nat := if k = 16 then 54 else if k = 17 then 56 else 51
def deedF (j : Nat) : Value := if j < 2 then .nilFunc else if j % 2 = 0 then fnV (valN (j / 2)) else fnV (landN (j / 2))
/-- The program's machine at a block. -/
structure MAt (w : World) (q : Nat) (ba : Option Addr) (bl bc : Nat) (po : Option Addr) (pc : Nat) (M : Ma) : Prop where
  lt : q < w.heap.size
  fz : ∀ j : Nat, w.frozen? ⟨q, j, none⟩ = false
  bk : w.cell? ⟨q, 0, none⟩ = some (.slice ba bl bc)
  b : w.cell? ⟨q, 329, none⟩ = some (.int .i64 (M.b : Int))
  y : w.cell? ⟨q, 330, none⟩ = some (.bool M.y)
  o : w.cell? ⟨q, 331, none⟩ = some (.int .i64 (M.o : Int))
  n : w.cell? ⟨q, 332, none⟩ = some (.int .i64 M.n)
  e : w.cell? ⟨q, 333, none⟩ = some (.int .i64 M.e)
  v : w.cell? ⟨q, 334, none⟩ = some (.int .i64 M.v)
  p : w.cell? ⟨q, 335, none⟩ = some (.slice po M.pr.length pc)
  s : w.cell? ⟨q, 336, none⟩ = some (.int .i64 (M.s : Int))
  r : ∀ i : Nat, i < 32 → w.cell? ⟨q, 41 + i, none⟩ = some (.int .i64 (M.r i))
  m : ∀ i : Nat, i < 256 → w.cell? ⟨q, 73 + i, none⟩ = some (.int .i64 (M.m i))
  d : ∀ i : Nat, i < 36 → w.cell? ⟨q, 1 + i, none⟩ = some (deedF i)
  en : ∀ i : Nat, i < 4 → w.cell? ⟨q, 37 + i, none⟩ = some (fnV (57 + i))
  hi : ∀ j : Nat, 337 ≤ j → w.cell? ⟨q, j, none⟩ = none
theorem MAt.fr {w : World} {q : Nat} {ba : Option Addr} {bl bc : Nat} {po : Option Addr} {pc : Nat} {M : Ma} (h : MAt w q ba bl bc po pc M) {X : Nat → Prop} {w' : World} (g : So.Fr X w w') (hx : ¬ X q) : MAt w' q ba bl bc po pc M := by
  have c := fun o => g.cell h.lt hx o
  exact ⟨Nat.lt_of_lt_of_le h.lt g.size, fun j => (g.frozen h.lt hx j).trans (h.fz j), (c _).trans h.bk, (c _).trans h.b, (c _).trans h.y, (c _).trans h.o, (c _).trans h.n, (c _).trans h.e, (c _).trans h.v, (c _).trans h.p, (c _).trans h.s, fun i hi => (c _).trans (h.r i hi), fun i hi => (c _).trans (h.m i hi), fun i hi => (c _).trans (h.d i hi), fun i hi => (c _).trans (h.en i hi), fun j hj => (c _).trans (h.hi j hj)⟩
theorem MAt.up {w : World} {q : Nat} {ba : Option Addr} {bl bc : Nat} {po : Option Addr} {pc : Nat} {M : Ma} (h : MAt w q ba bl bc po pc M) {w' : World} (g : Below w.heap.size w w') : MAt w' q ba bl bc po pc M := h.fr (So.Fr.of (X := So.Non) g) fun hk => hk
theorem MAt.set_b {w : World} {q : Nat} {ba : Option Addr} {bl bc : Nat} {po : Option Addr} {pc : Nat} {M : Ma} (h : MAt w q ba bl bc po pc M) (k : Nat) : MAt (w.setCell ⟨q, 329, none⟩ (.int .i64 (k : Int))) q ba bl bc po pc { M with b := k } := by
  exact ⟨by rw [World.size_setCell]; exact h.lt,
    fun j => by rw [World.frozen?_setCell]; exact h.fz j,
    (co (by omega)).trans h.bk,
    cs h.b,
    (co (by omega)).trans h.y,
    (co (by omega)).trans h.o,
    (co (by omega)).trans h.n,
    (co (by omega)).trans h.e,
    (co (by omega)).trans h.v,
    (co (by omega)).trans h.p,
    (co (by omega)).trans h.s,
    fun j hj => (co (by omega)).trans (h.r j hj),
    fun j hj => (co (by omega)).trans (h.m j hj),
    fun j hj => (co (by omega)).trans (h.d j hj),
    fun j hj => (co (by omega)).trans (h.en j hj),
    fun j hj => (co (by omega)).trans (h.hi j hj)⟩
theorem MAt.set_y {w : World} {q : Nat} {ba : Option Addr} {bl bc : Nat} {po : Option Addr} {pc : Nat} {M : Ma} (h : MAt w q ba bl bc po pc M) (k : Bool) : MAt (w.setCell ⟨q, 330, none⟩ (.bool k)) q ba bl bc po pc { M with y := k } := by
  exact ⟨by rw [World.size_setCell]; exact h.lt,
    fun j => by rw [World.frozen?_setCell]; exact h.fz j,
    (co (by omega)).trans h.bk,
    (co (by omega)).trans h.b,
    cs h.y,
    (co (by omega)).trans h.o,
    (co (by omega)).trans h.n,
    (co (by omega)).trans h.e,
    (co (by omega)).trans h.v,
    (co (by omega)).trans h.p,
    (co (by omega)).trans h.s,
    fun j hj => (co (by omega)).trans (h.r j hj),
    fun j hj => (co (by omega)).trans (h.m j hj),
    fun j hj => (co (by omega)).trans (h.d j hj),
    fun j hj => (co (by omega)).trans (h.en j hj),
    fun j hj => (co (by omega)).trans (h.hi j hj)⟩
theorem MAt.set_o {w : World} {q : Nat} {ba : Option Addr} {bl bc : Nat} {po : Option Addr} {pc : Nat} {M : Ma} (h : MAt w q ba bl bc po pc M) (k : Nat) : MAt (w.setCell ⟨q, 331, none⟩ (.int .i64 (k : Int))) q ba bl bc po pc { M with o := k } := by
  exact ⟨by rw [World.size_setCell]; exact h.lt,
    fun j => by rw [World.frozen?_setCell]; exact h.fz j,
    (co (by omega)).trans h.bk,
    (co (by omega)).trans h.b,
    (co (by omega)).trans h.y,
    cs h.o,
    (co (by omega)).trans h.n,
    (co (by omega)).trans h.e,
    (co (by omega)).trans h.v,
    (co (by omega)).trans h.p,
    (co (by omega)).trans h.s,
    fun j hj => (co (by omega)).trans (h.r j hj),
    fun j hj => (co (by omega)).trans (h.m j hj),
    fun j hj => (co (by omega)).trans (h.d j hj),
    fun j hj => (co (by omega)).trans (h.en j hj),
    fun j hj => (co (by omega)).trans (h.hi j hj)⟩
theorem MAt.set_n {w : World} {q : Nat} {ba : Option Addr} {bl bc : Nat} {po : Option Addr} {pc : Nat} {M : Ma} (h : MAt w q ba bl bc po pc M) (k : Int) : MAt (w.setCell ⟨q, 332, none⟩ (.int .i64 k)) q ba bl bc po pc { M with n := k } := by
  exact ⟨by rw [World.size_setCell]; exact h.lt,
    fun j => by rw [World.frozen?_setCell]; exact h.fz j,
    (co (by omega)).trans h.bk,
    (co (by omega)).trans h.b,
    (co (by omega)).trans h.y,
    (co (by omega)).trans h.o,
    cs h.n,
    (co (by omega)).trans h.e,
    (co (by omega)).trans h.v,
    (co (by omega)).trans h.p,
    (co (by omega)).trans h.s,
    fun j hj => (co (by omega)).trans (h.r j hj),
    fun j hj => (co (by omega)).trans (h.m j hj),
    fun j hj => (co (by omega)).trans (h.d j hj),
    fun j hj => (co (by omega)).trans (h.en j hj),
    fun j hj => (co (by omega)).trans (h.hi j hj)⟩
theorem MAt.set_e {w : World} {q : Nat} {ba : Option Addr} {bl bc : Nat} {po : Option Addr} {pc : Nat} {M : Ma} (h : MAt w q ba bl bc po pc M) (k : Int) : MAt (w.setCell ⟨q, 333, none⟩ (.int .i64 k)) q ba bl bc po pc { M with e := k } := by
  exact ⟨by rw [World.size_setCell]; exact h.lt,
    fun j => by rw [World.frozen?_setCell]; exact h.fz j,
    (co (by omega)).trans h.bk,
    (co (by omega)).trans h.b,
    (co (by omega)).trans h.y,
    (co (by omega)).trans h.o,
    (co (by omega)).trans h.n,
    cs h.e,
    (co (by omega)).trans h.v,
    (co (by omega)).trans h.p,
    (co (by omega)).trans h.s,
    fun j hj => (co (by omega)).trans (h.r j hj),
    fun j hj => (co (by omega)).trans (h.m j hj),
    fun j hj => (co (by omega)).trans (h.d j hj),
    fun j hj => (co (by omega)).trans (h.en j hj),
    fun j hj => (co (by omega)).trans (h.hi j hj)⟩
theorem MAt.set_v {w : World} {q : Nat} {ba : Option Addr} {bl bc : Nat} {po : Option Addr} {pc : Nat} {M : Ma} (h : MAt w q ba bl bc po pc M) (k : Int) : MAt (w.setCell ⟨q, 334, none⟩ (.int .i64 k)) q ba bl bc po pc { M with v := k } := by
  exact ⟨by rw [World.size_setCell]; exact h.lt,
    fun j => by rw [World.frozen?_setCell]; exact h.fz j,
    (co (by omega)).trans h.bk,
    (co (by omega)).trans h.b,
    (co (by omega)).trans h.y,
    (co (by omega)).trans h.o,
    (co (by omega)).trans h.n,
    (co (by omega)).trans h.e,
    cs h.v,
    (co (by omega)).trans h.p,
    (co (by omega)).trans h.s,
    fun j hj => (co (by omega)).trans (h.r j hj),
    fun j hj => (co (by omega)).trans (h.m j hj),
    fun j hj => (co (by omega)).trans (h.d j hj),
    fun j hj => (co (by omega)).trans (h.en j hj),
    fun j hj => (co (by omega)).trans (h.hi j hj)⟩
theorem MAt.set_p {w : World} {q : Nat} {ba : Option Addr} {bl bc : Nat} {po : Option Addr} {pc : Nat} {M : Ma} (h : MAt w q ba bl bc po pc M) (po' : Option Addr) (pc' : Nat) (l : List Int) : MAt (w.setCell ⟨q, 335, none⟩ (.slice po' l.length pc')) q ba bl bc po' pc' { M with pr := l } := by
  exact ⟨by rw [World.size_setCell]; exact h.lt,
    fun j => by rw [World.frozen?_setCell]; exact h.fz j,
    (co (by omega)).trans h.bk,
    (co (by omega)).trans h.b,
    (co (by omega)).trans h.y,
    (co (by omega)).trans h.o,
    (co (by omega)).trans h.n,
    (co (by omega)).trans h.e,
    (co (by omega)).trans h.v,
    cs h.p,
    (co (by omega)).trans h.s,
    fun j hj => (co (by omega)).trans (h.r j hj),
    fun j hj => (co (by omega)).trans (h.m j hj),
    fun j hj => (co (by omega)).trans (h.d j hj),
    fun j hj => (co (by omega)).trans (h.en j hj),
    fun j hj => (co (by omega)).trans (h.hi j hj)⟩
theorem MAt.set_s {w : World} {q : Nat} {ba : Option Addr} {bl bc : Nat} {po : Option Addr} {pc : Nat} {M : Ma} (h : MAt w q ba bl bc po pc M) (k : Nat) : MAt (w.setCell ⟨q, 336, none⟩ (.int .i64 (k : Int))) q ba bl bc po pc { M with s := k } := by
  exact ⟨by rw [World.size_setCell]; exact h.lt,
    fun j => by rw [World.frozen?_setCell]; exact h.fz j,
    (co (by omega)).trans h.bk,
    (co (by omega)).trans h.b,
    (co (by omega)).trans h.y,
    (co (by omega)).trans h.o,
    (co (by omega)).trans h.n,
    (co (by omega)).trans h.e,
    (co (by omega)).trans h.v,
    (co (by omega)).trans h.p,
    cs h.s,
    fun j hj => (co (by omega)).trans (h.r j hj),
    fun j hj => (co (by omega)).trans (h.m j hj),
    fun j hj => (co (by omega)).trans (h.d j hj),
    fun j hj => (co (by omega)).trans (h.en j hj),
    fun j hj => (co (by omega)).trans (h.hi j hj)⟩
theorem MAt.set_r {w : World} {q : Nat} {ba : Option Addr} {bl bc : Nat} {po : Option Addr} {pc : Nat} {M : Ma} (h : MAt w q ba bl bc po pc M) {i : Nat} (hi : i < 32) (v : Int) : MAt (w.setCell ⟨q, 41 + i, none⟩ (.int .i64 v)) q ba bl bc po pc { M with r := upd M.r i v } := by
  exact ⟨by rw [World.size_setCell]; exact h.lt,
    fun j => by rw [World.frozen?_setCell]; exact h.fz j,
    (co (by omega)).trans h.bk,
    (co (by omega)).trans h.b,
    (co (by omega)).trans h.y,
    (co (by omega)).trans h.o,
    (co (by omega)).trans h.n,
    (co (by omega)).trans h.e,
    (co (by omega)).trans h.v,
    (co (by omega)).trans h.p,
    (co (by omega)).trans h.s,
    fun j hj => by
      by_cases e : j = i
      · subst e; rw [cs (h.r j hj)]; simp [upd]
      · rw [co (by omega), h.r j hj]; simp [upd, e],
    fun j hj => (co (by omega)).trans (h.m j hj),
    fun j hj => (co (by omega)).trans (h.d j hj),
    fun j hj => (co (by omega)).trans (h.en j hj),
    fun j hj => (co (by omega)).trans (h.hi j hj)⟩
theorem MAt.set_m {w : World} {q : Nat} {ba : Option Addr} {bl bc : Nat} {po : Option Addr} {pc : Nat} {M : Ma} (h : MAt w q ba bl bc po pc M) {i : Nat} (hi : i < 256) (v : Int) : MAt (w.setCell ⟨q, 73 + i, none⟩ (.int .i64 v)) q ba bl bc po pc { M with m := upd M.m i v } := by
  exact ⟨by rw [World.size_setCell]; exact h.lt,
    fun j => by rw [World.frozen?_setCell]; exact h.fz j,
    (co (by omega)).trans h.bk,
    (co (by omega)).trans h.b,
    (co (by omega)).trans h.y,
    (co (by omega)).trans h.o,
    (co (by omega)).trans h.n,
    (co (by omega)).trans h.e,
    (co (by omega)).trans h.v,
    (co (by omega)).trans h.p,
    (co (by omega)).trans h.s,
    fun j hj => (co (by omega)).trans (h.r j hj),
    fun j hj => by
      by_cases e : j = i
      · subst e; rw [cs (h.m j hj)]; simp [upd]
      · rw [co (by omega), h.m j hj]; simp [upd, e],
    fun j hj => (co (by omega)).trans (h.d j hj),
    fun j hj => (co (by omega)).trans (h.en j hj),
    fun j hj => (co (by omega)).trans (h.hi j hj)⟩
end Go.Proofs.YtddcndlogoajkaaGreatDoor.L8.Sm
