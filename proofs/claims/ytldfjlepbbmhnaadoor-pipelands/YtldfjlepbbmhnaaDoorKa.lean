/- The chapter's table of kinds, as package ops makes it (kinds), read off the program by the walk. Conditions: none. -/
import Derived.Test.YtldfjlepbbmhnaaDoorBc
import Derived.OpenShut
import Derived.WalkKit
import Derived.WalkSpells
import Derived.WalkLawsBesides
import Derived.Handy
import Derived.Deep.RegionHeld3
import Derived.Deep.DrawnRows
import Derived.Deep.QuietTactic
import Derived.BigQuiet
import Derived.Deep.WholeRow
namespace Go.Proofs.YtldfjlepbbmhnaaDoor.Op
open Go.ChangeShapes Go.WideShapes Go.ChangeAt Go.RowKit

theorem bcell {B : Nat} {W w1 : World} (hb : Below B W w1) : (∀ b o, b < B → w1.cell? ⟨b, o, none⟩ = W.cell? ⟨b, o, none⟩) ∧ (∀ b o, b < B → w1.frozen? ⟨b, o, none⟩ = W.frozen? ⟨b, o, none⟩) :=
  ⟨fun b o h => hb.cell (p := ⟨b, o, none⟩) h, fun b o h => hb.frozen (p := ⟨b, o, none⟩) h⟩

/-- A world that meets a condition. -/
structure Wd (G : World → Prop) where
  w : World
  ok : G w

theorem wp_region_in {P : Program} {id : Nat} {Q : Exit → Act → World → Prop} {a : Act} {w : World} {l : List Oper} (G : World → Prop) (hm : P.follows .mixedOrders = true) (hB : Region.lexB .any l.toArray = true)
    (hG : G w.drew) (h : wpQuiet P l.toArray (fun w' => ∃ x : Wd G, w' = x.w) (fun a' => ∀ w', (∃ x : Wd G, w' = x.w) → Q .normal a' w') l a) : (Code.region id l.toArray true).wp P Q a w :=
  wp_region_quiet (C := fun w' => ∃ x : Wd G, w' = x.w) hm hB ⟨⟨_, hG⟩, rfl⟩ (by simpa using h)

theorem calls_in {P : Program} {B : Nat} {W : World} {f : FuncId} {args : Array Value} {v : Value} (hB : B ≤ W.heap.size) (x : Wd (Below B W)) (c : Calls P f args x.w fun e w' => e = .returned v ∧ Below x.w.heap.size x.w w') :
    Calls P f args x.w fun e w'' => e = .returned v ∧ ∃ y : Wd (Below B W), w'' = y.w :=
  c.mono fun _ w' h => ⟨h.1, ⟨w', x.ok.trans (h.2.mono (Nat.le_trans hB x.ok.size))⟩, rfl⟩

/-- A kind: its name, its class (-1: none), and which fields count (N: B as a number). -/
structure K where
  name : List UInt8
  cls : Int
  D : Bool
  A : Bool
  B : Bool
  N : Bool
  I : Bool
def bi (b : Bool) (n : Int) : Int := if b then n else 0
def K.fields (k : K) : Int := bi k.D 1 + bi k.A 2 + bi k.B 4 + bi k.I 8 + bi k.N 16
def K.s (k : K) : ByteArray := ⟨k.name.toArray⟩
def K.cells (k : K) : List Value := [.string k.s, .int .i8 k.cls, .int .u8 k.fields]
def kindL : List K :=
  [⟨[110, 111, 112], -1, false, false, false, false, false⟩, ⟨[99, 111, 110, 115, 116], 0, true, false, false, false, true⟩,
   ⟨[97, 100, 100], 0, true, true, true, false, false⟩, ⟨[115, 117, 98], 0, true, true, true, false, false⟩, ⟨[97, 110, 100], 0, true, true, true, false, false⟩,
   ⟨[111, 114], 0, true, true, true, false, false⟩, ⟨[120, 111, 114], 0, true, true, true, false, false⟩, ⟨[115, 104, 108], 0, true, true, true, false, false⟩,
   ⟨[115, 104, 114], 0, true, true, true, false, false⟩, ⟨[108, 101, 115, 115], 0, true, true, true, false, false⟩, ⟨[101, 113, 117, 97, 108], 0, true, true, true, false, false⟩,
   ⟨[109, 111, 118, 101], 0, true, true, false, false, false⟩,
   ⟨[116, 105, 109, 101, 115], 1, true, true, true, false, false⟩, ⟨[100, 105, 118, 105, 100, 101], 1, true, true, true, false, false⟩, ⟨[114, 101, 115, 116], 1, true, true, true, false, false⟩,
   ⟨[108, 111, 97, 100], 2, true, true, false, false, true⟩, ⟨[115, 116, 111, 114, 101], 2, false, true, true, false, true⟩, ⟨[112, 114, 105, 110, 116], 2, false, true, false, false, false⟩,
   ⟨[106, 117, 109, 112], 3, false, false, false, false, true⟩, ⟨[98, 114, 97, 110, 99, 104], 3, false, true, false, false, true⟩, ⟨[104, 97, 108, 116], 3, false, true, false, false, false⟩,
   ⟨[99, 111, 117, 110, 116], 3, false, true, false, false, true⟩, ⟨[115, 104, 111, 114, 116], 3, false, true, false, true, true⟩, ⟨[97, 103, 97, 105, 110], 3, false, false, false, false, true⟩]
def kOf (d : Int) : Option K := if 0 ≤ d then kindL[d.toNat]? else none
def kindCells : Array Value := (kindL.flatMap K.cells).toArray

set_option maxRecDepth 20000
def zeroCells : Array Value := (List.replicate 24 [Value.string ⟨#[]⟩, .int .i8 0, .int .u8 0]).flatten.toArray
theorem kind_one : kindCells.all (·.oneCell') = true := by kernel_rfl
theorem info119 : (Tryd.prog.info? 119).map (·.size) = some 72 := by kernel_rfl
theorem kindSize : kindCells.size = 72 := by kernel_rfl
theorem zeroSize : zeroCells.size = 72 := by kernel_rfl
set_option maxHeartbeats 4000000 in
theorem kinds_any (w : World) : Calls Tryd.prog 53 #[] w fun e w' => e = .returned (.agg kindCells) ∧ Below w.heap.size w w' := by
  have hZ := (zero_of_info (P := Tryd.prog) (t := 119) (v := .agg zeroCells) (n := 72) (by kernel_rfl)).1
  have hzs := zeroSize
  have hsc : Hid (_) := run_storeCells_new (P := Tryd.prog) w 119 zeroCells kindCells (by rw [kindSize]; exact info119) (by rw [kindSize, zeroSize]) kind_one
  go_enter Tryd.func53, Tryd.ntmps53
  go_wp2
  conv in storeCells _ _ _ => arg 2; change kindCells.toList
  rw [hsc.out]
  simp only [Result.andThen]
  rw [Oper.upon_skip]
  go_wp2
  (try simp only [Exit.inBlock, Exit.then])
  refine bodyPost_ret (v := .agg kindCells) (results_cell_row (P := Tryd.prog) Tryd.results53 _ _ w.heap.size 119 kindCells (0, 0) _ rfl (heap_alloc_last w _) Tryd.underlying119 rfl (by rw [kindSize]; exact info119)) rfl ⟨rfl, by go_grown⟩
end Go.Proofs.YtldfjlepbbmhnaaDoor.Op
