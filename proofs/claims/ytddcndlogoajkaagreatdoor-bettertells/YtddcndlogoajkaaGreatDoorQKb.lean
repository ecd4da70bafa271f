/- What package ops answers of an operation's kind and fields (kindOf, counts, fieldsHold, checked, Check, Class, Writes), read off the program by the walk. Conditions: each field is a number of its own width. -/
import Derived.Test.YtddcndlogoajkaaGreatDoorQBd
import Derived.OpenShut
import Derived.WalkKit
import Derived.WalkSpells
import Derived.WalkLawsBesides
import Derived.Handy
import Derived.Deep.RegionHeld3
import Derived.Deep.DrawnRows
import Derived.Deep.QuietTactic
import Derived.BigQuiet
import Derived.Deep.WholeRow
namespace Go.Proofs.YtddcndlogoajkaaGreatDoor.L8.Op
open Go.ChangeShapes Go.WideShapes Go.ChangeAt Go.RowKit

theorem bcell {B : Nat} {W w1 : World} (hb : Below B W w1) : (∀ b o, b < B → w1.cell? ⟨b, o, none⟩ = W.cell? ⟨b, o, none⟩) ∧ (∀ b o, b < B → w1.frozen? ⟨b, o, none⟩ = W.frozen? ⟨b, o, none⟩) :=
  ⟨fun b o h => hb.cell (p := ⟨b, o, none⟩) h, fun b o h => hb.frozen (p := ⟨b, o, none⟩) h⟩

/-- A world that meets a condition. -/
structure Wd (G : World → Prop) where
  w : World
  ok : G w

theorem wp_region_in {P : Program} {id : Nat} {Q : Exit → Act → World → Prop} {a : Act} {w : World} {l : List Oper} (G : World → Prop) (hm : P.follows .mixedOrders = true) (hB : Region.lexB .any l.toArray = true)
    (hG : G w.drew) (h : wpQuiet P l.toArray (fun w' => ∃ x : Wd G, w' = x.w) (fun a' => ∀ w', (∃ x : Wd G, w' = x.w) → Q .normal a' w') l a) : (Code.region id l.toArray true).wp P Q a w :=
  wp_region_quiet (C := fun w' => ∃ x : Wd G, w' = x.w) hm hB ⟨⟨_, hG⟩, rfl⟩ (by simpa using h)

theorem calls_in {P : Program} {B : Nat} {W : World} {f : FuncId} {args : Array Value} {v : Value} (hB : B ≤ W.heap.size) (x : Wd (Below B W)) (c : Calls P f args x.w fun e w' => e = .returned v ∧ Below x.w.heap.size x.w w') :
    Calls P f args x.w fun e w'' => e = .returned v ∧ ∃ y : Wd (Below B W), w'' = y.w :=
  c.mono fun _ w' h => ⟨h.1, ⟨w', x.ok.trans (h.2.mono (Nat.le_trans hB x.ok.size))⟩, rfl⟩

/-- A kind: its name, its class (-1: none), and which fields count (N: B as a number). -/
structure K where
  name : List UInt8
  cls : Int
  D : Bool
  A : Bool
  B : Bool
  N : Bool
  I : Bool
def bi (b : Bool) (n : Int) : Int := if b then n else 0
def K.fields (k : K) : Int := bi k.D 1 + bi k.A 2 + bi k.B 4 + bi k.I 8 + bi k.N 16
def K.s (k : K) : ByteArray := ⟨k.name.toArray⟩
def K.cells (k : K) : List Value := [.string k.s, .int .i8 k.cls, .int .u8 k.fields]
def kindL : List K :=
  [⟨[110, 111, 112], -1, false, false, false, false, false⟩, ⟨[99, 111, 110, 115, 116], 0, true, false, false, false, true⟩,
   ⟨[97, 100, 100], 0, true, true, true, false, false⟩, ⟨[115, 117, 98], 0, true, true, true, false, false⟩, ⟨[97, 110, 100], 0, true, true, true, false, false⟩,
   ⟨[111, 114], 0, true, true, true, false, false⟩, ⟨[120, 111, 114], 0, true, true, true, false, false⟩, ⟨[115, 104, 108], 0, true, true, true, false, false⟩,
   ⟨[115, 104, 114], 0, true, true, true, false, false⟩, ⟨[108, 101, 115, 115], 0, true, true, true, false, false⟩, ⟨[101, 113, 117, 97, 108], 0, true, true, true, false, false⟩,
   ⟨[109, 111, 118, 101], 0, true, true, false, false, false⟩,
   ⟨[116, 105, 109, 101, 115], 1, true, true, true, false, false⟩, ⟨[100, 105, 118, 105, 100, 101], 1, true, true, true, false, false⟩, ⟨[114, 101, 115, 116], 1, true, true, true, false, false⟩,
   ⟨[108, 111, 97, 100], 2, true, true, false, false, true⟩, ⟨[115, 116, 111, 114, 101], 2, false, true, true, false, true⟩, ⟨[112, 114, 105, 110, 116], 2, false, true, false, false, false⟩,
   ⟨[106, 117, 109, 112], 3, false, false, false, false, true⟩, ⟨[98, 114, 97, 110, 99, 104], 3, false, true, false, false, true⟩, ⟨[104, 97, 108, 116], 3, false, true, false, false, false⟩,
   ⟨[99, 111, 117, 110, 116], 3, false, true, false, false, true⟩, ⟨[115, 104, 111, 114, 116], 3, false, true, false, true, true⟩, ⟨[97, 103, 97, 105, 110], 3, false, false, false, false, true⟩]
def kOf (d : Int) : Option K := if 0 ≤ d then kindL[d.toNat]? else none
def kindCells : Array Value := (kindL.flatMap K.cells).toArray

set_option maxRecDepth 20000
def zeroCells : Array Value := (List.replicate 24 [Value.string ⟨#[]⟩, .int .i8 0, .int .u8 0]).flatten.toArray
theorem kind_one : kindCells.all (·.oneCell') = true := by kernel_rfl
theorem info177 : (Tryz.prog.info? 177).map (·.size) = some 72 := by kernel_rfl
theorem kindSize : kindCells.size = 72 := by kernel_rfl
theorem zeroSize : zeroCells.size = 72 := by kernel_rfl
set_option maxHeartbeats 4000000 in
theorem kinds_any (w : World) : Calls Tryz.prog 125 #[] w fun e w' => e = .returned (.agg kindCells) ∧ Below w.heap.size w w' := by
  have hZ := (zero_of_info (P := Tryz.prog) (t := 177) (v := .agg zeroCells) (n := 72) (by kernel_rfl)).1
  have hzs := zeroSize
  have hsc : Hid (_) := run_storeCells_new (P := Tryz.prog) w 177 zeroCells kindCells (by rw [kindSize]; exact info177) (by rw [kindSize, zeroSize]) kind_one
  go_enter Tryz.func125, Tryz.ntmps125
  go_wp2
  conv in storeCells _ _ _ => arg 2; change kindCells.toList
  rw [hsc.out]
  simp only [Result.andThen]
  rw [Oper.upon_skip]
  go_wp2
  (try simp only [Exit.inBlock, Exit.then])
  refine bodyPost_ret (v := .agg kindCells) (results_cell_row (P := Tryz.prog) Tryz.results125 _ _ w.heap.size 177 kindCells (0, 0) _ rfl (heap_alloc_last w _) Tryz.underlying177 rfl (by rw [kindSize]; exact info177)) rfl ⟨rfl, by go_grown⟩
end Go.Proofs.YtddcndlogoajkaaGreatDoor.L8.Op
namespace Go.Proofs.YtddcndlogoajkaaGreatDoor.L8.Op
open Go.ChangeShapes Go.WideShapes Go.ChangeAt Go.RowKit
set_option maxRecDepth 20000

abbrev kz : Value := .agg #[.string ⟨#[]⟩, .int .i8 0, .int .u8 0]
abbrev K.val (k : K) : Value := .agg #[.string k.s, .int .i8 k.cls, .int .u8 k.fields]

theorem new_cells (w : World) (c : Array Value) (t : TypeId) {w' : World} (hb : Below (w.alloc (.cells c t)).heap.size (w.alloc (.cells c t)) w') :
    (∀ (j : Nat) v, c[j]? = some v → w'.cell? ⟨w.heap.size, j, none⟩ = some v) ∧ (∀ j : Nat, w'.frozen? ⟨w.heap.size, j, none⟩ = false) ∧ Below w.heap.size w w' ∧ w.heap.size < w'.heap.size := by
  have hz := hb.size
  simp at hz
  refine ⟨fun j v h => ?_, fun j => ?_, ((Below.refl _ _).alloc (Nat.le_refl _) _).trans (hb.mono (by simp)), hz⟩
  · rw [(bcell hb).1 _ _ (by simp)]; simp [h]
  · rw [(bcell hb).2 _ _ (by simp)]; simp
theorem kOf_some {d : Int} {k : K} (h : kOf d = some k) : ∃ (n : Nat) (hn : n < 24), d = n ∧ kindL[n]'hn = k := by
  unfold kOf at h
  split at h
  · rename_i h0
    obtain ⟨n, rfl⟩ := Int.eq_ofNat_of_zero_le h0
    obtain ⟨hn, e⟩ := List.getElem?_eq_some_iff.1 h
    exact ⟨n, hn, rfl, e⟩
  · cases h
theorem kOf_out {d : Int} (h : kOf d = none) : d < 0 ∨ 24 ≤ d := by
  unfold kOf at h
  split at h
  · rename_i h0
    have := List.getElem?_eq_none_iff.1 h
    simp [kindL] at this
    omega
  · omega

theorem kindOf_no (d : Int) (w : World) (h1 : -128 ≤ d) (h2 : d ≤ 127) (h : kOf d = none) :
    Calls Tryz.prog 112 #[.int .i8 d] w fun e w' => e = .returned (.tuple #[kz, .bool false]) ∧ Below w.heap.size w w' := by
  have hd : 24 ≤ d % 256 := by have := kOf_out h; omega
  clear h
  go_enter Tryz.func112, Tryz.ntmps112
  go_wp2
  refine bodyPost_ret (v := .tuple #[kz, .bool false]) (by simp [results, Tryz.results112, go_sem]) rfl ⟨rfl, by go_grown⟩

theorem index80 (d : Nat) (h : d < 24) (w : World) : (Instr.index 177 (.agg kindCells) (.int .i8 d)).run Tryz.prog w = .ok (.agg (kindCells.extract (d * 3) (d * 3 + 3))) w := by
  simp [Instr.index, asIntOf, Tryz.sizeOf153, Tryz.isAgg153, part, go_sem]
  intro hc; omega
theorem kindRow (d : Nat) (h : d < 24) : Value.agg (kindCells.extract (d * 3) (d * 3 + 3)) = (kindL[d]'h).val := by
  match d, h with
  | 0, _ => rfl
  | 1, _ => rfl
  | 2, _ => rfl
  | 3, _ => rfl
  | 4, _ => rfl
  | 5, _ => rfl
  | 6, _ => rfl
  | 7, _ => rfl
  | 8, _ => rfl
  | 9, _ => rfl
  | 10, _ => rfl
  | 11, _ => rfl
  | 12, _ => rfl
  | 13, _ => rfl
  | 14, _ => rfl
  | 15, _ => rfl
  | 16, _ => rfl
  | 17, _ => rfl
  | 18, _ => rfl
  | 19, _ => rfl
  | 20, _ => rfl
  | 21, _ => rfl
  | 22, _ => rfl
  | 23, _ => rfl
  | _ + 24, h => exact absurd h (by omega)

theorem kindOf_yes (d : Int) (k : K) (w : World) (h : kOf d = some k) :
    Calls Tryz.prog 112 #[.int .i8 d] w fun e w' => e = .returned (.tuple #[k.val, .bool true]) ∧ Below w.heap.size w w' := by
  obtain ⟨n, hn, rfl, hk⟩ := kOf_some h
  clear h
  have hi : ∀ w, (Instr.index 177 (.agg kindCells) (.int .i8 n)).run Tryz.prog w = .ok k.val w := fun w => by rw [index80 n hn, kindRow n hn, hk]
  clear hk
  have hd : (n : Int) % 256 < 24 := by omega
  go_enter Tryz.func112, Tryz.ntmps112
  go_wp2_with (first | (go_at_call 125; refine (kinds_any _).mono ?_; rintro e w' ⟨rfl, hb⟩; obtain ⟨hc, hf, HB0, hz⟩ := new_cells w _ _ hb; have c0 := hc 0 _ rfl; have c1 := hc 1 _ rfl; have c2 := hc 2 _ rfl; have f0 := hf 0; have f1 := hf 1; have f2 := hf 2; have HB : Hid (Below w.heap.size w w') := HB0; clear hb HB0 hc hf))
  refine bodyPost_ret (v := .tuple #[k.val, .bool true]) (by simp [results, Tryz.results112, go_sem, c0, c1, c2]) rfl ⟨rfl, HB.out.trans ?_⟩
  go_grown

theorem counts_any (s : ByteArray) (c f m : Int) (w : World) : Calls Tryz.prog 103 #[.agg #[.string s, .int .i8 c, .int .u8 f], .int .u8 m] w fun e w' => e = .returned (.bool (bits .and .u8 f m != 0)) ∧ Below w.heap.size w w' := by
  go_enter Tryz.func103, Tryz.ntmps103
  go_wp2
  go_ret
  exact ⟨rfl, by go_grown⟩
theorem and_D (k : K) : (bits .and .u8 k.fields 1 != 0) = k.D :=
  (by decide : ∀ D A B N I : Bool, (bits .and .u8 (bi D 1 + bi A 2 + bi B 4 + bi I 8 + bi N 16) 1 != 0) = D) k.D k.A k.B k.N k.I
theorem and_A (k : K) : (bits .and .u8 k.fields 2 != 0) = k.A :=
  (by decide : ∀ D A B N I : Bool, (bits .and .u8 (bi D 1 + bi A 2 + bi B 4 + bi I 8 + bi N 16) 2 != 0) = A) k.D k.A k.B k.N k.I
theorem and_B (k : K) : (bits .and .u8 k.fields 4 != 0) = k.B :=
  (by decide : ∀ D A B N I : Bool, (bits .and .u8 (bi D 1 + bi A 2 + bi B 4 + bi I 8 + bi N 16) 4 != 0) = B) k.D k.A k.B k.N k.I
theorem and_I (k : K) : (bits .and .u8 k.fields 8 != 0) = k.I :=
  (by decide : ∀ D A B N I : Bool, (bits .and .u8 (bi D 1 + bi A 2 + bi B 4 + bi I 8 + bi N 16) 8 != 0) = I) k.D k.A k.B k.N k.I
theorem and_BN (k : K) : (bits .and .u8 k.fields 20 != 0) = (k.B || k.N) :=
  (by decide : ∀ D A B N I : Bool, (bits .and .u8 (bi D 1 + bi A 2 + bi B 4 + bi I 8 + bi N 16) 20 != 0) = (B || N)) k.D k.A k.B k.N k.I
theorem cnt_D (k : K) (w : World) : Calls Tryz.prog 103 #[k.val, .int .u8 1] w fun e w' => e = .returned (.bool k.D) ∧ Below w.heap.size w w' := by
  have h := counts_any k.s k.cls k.fields 1 w
  rw [and_D] at h; exact h
theorem cnt_A (k : K) (w : World) : Calls Tryz.prog 103 #[k.val, .int .u8 2] w fun e w' => e = .returned (.bool k.A) ∧ Below w.heap.size w w' := by
  have h := counts_any k.s k.cls k.fields 2 w
  rw [and_A] at h; exact h
theorem cnt_B (k : K) (w : World) : Calls Tryz.prog 103 #[k.val, .int .u8 4] w fun e w' => e = .returned (.bool k.B) ∧ Below w.heap.size w w' := by
  have h := counts_any k.s k.cls k.fields 4 w
  rw [and_B] at h; exact h
def rH (r : Int) (c : Bool) : Bool := if c then decide (r < 32) else r == 0
def iH (i : Int) (c : Bool) : Bool := if c then decide (-2147483648 ≤ i ∧ i ≤ 2147483647) else i == 0
theorem regHolds (r : Int) (c : Bool) (w : World) : Calls Tryz.prog 126 #[.int .u8 r, .bool c] w fun e w' => e = .returned (.bool (rH r c)) ∧ w' = w := by
  cases c
  all_goals
    go_enter Tryz.func126, Tryz.ntmps126
    go_wp2
    go_ret
    exact ⟨rfl, rfl⟩
theorem fits32 (i : Int) : fitsI i 32 = decide (-2147483648 ≤ i ∧ i ≤ 2147483647) := by
  unfold fitsI sgI
  rw [show (cl 32).toNat = 32 from rfl, Bool.eq_iff_iff]
  simp only [decide_eq_true_eq]
  rw [sg_iff _ 32 (by decide)]
  simp
  omega
theorem immHolds (i : Int) (c : Bool) (w : World) : Calls Tryz.prog 127 #[.int .i64 i, .bool c] w fun e w' => e = .returned (.bool (iH i c)) ∧ w' = w := by
  cases c
  all_goals
    go_enter Tryz.func127, Tryz.ntmps127
    go_wp2_with (first | (go_at_call 132; refine (fits_any _ _ _).mono ?_; rintro e w' ⟨rfl, rfl⟩))
    go_ret
    exact ⟨by simp [iH, fits32], rfl⟩

/-- An operation's five numbers. -/
structure O where
  op : Int
  d : Int
  a : Int
  b : Int
  im : Int
abbrev O.cells (o : O) : Array Value := #[.int .i8 o.op, .int .u8 o.d, .int .u8 o.a, .int .u8 o.b, .int .i64 o.im]
abbrev O.val (o : O) : Value := .agg #[.int .i8 o.op, .int .u8 o.d, .int .u8 o.a, .int .u8 o.b, .int .i64 o.im]
structure O.Ok (o : O) : Prop where
  op0 : -128 ≤ o.op
  op1 : o.op ≤ 127
  d0 : 0 ≤ o.d
  d1 : o.d ≤ 255
  a0 : 0 ≤ o.a
  a1 : o.a ≤ 255
  b0 : 0 ≤ o.b
  b1 : o.b ≤ 255
  i0 : -9223372036854775808 ≤ o.im
  i1 : o.im ≤ 9223372036854775807
def okF (k : K) (o : O) : Bool := rH o.d k.D && rH o.a k.A && rH o.b (k.B || k.N) && iH o.im k.I
def okO (o : O) : Bool := match kOf o.op with | some k => okF k o | none => false
end Go.Proofs.YtddcndlogoajkaaGreatDoor.L8.Op
