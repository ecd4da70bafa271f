/- The table of the operations' names as package parse makes it (shapes), and what is found in it: read off the program by the walk. Conditions: none. -/
import Derived.Test.YthjpddjfckdefaaGreatDoorMr
import Derived.WalkKit
import Derived.WalkSpells
import Derived.WalkLawsBesides
import Derived.Handy
import Derived.Maps.Own
namespace Go.Proofs.YthjpddjfckdefaaGreatDoor.Pr
open Go.ChangeShapes Go.WideShapes Go.ChangeAt Go.RowKit
open Go.Maps (Keyed string_keyed)
open Go.ChangeMaps
set_option maxRecDepth 20000

/-- A table of names in memory. -/
def MapIs (w : World) (b : Nat) (l : List (List UInt8 × Nat × Nat)) : Prop :=
  ∃ es clock, w.heap[b]? = some (.map es clock) ∧ es.toList.map (fun e => (e.key, e.val)) = l.map fun x => (Value.string ⟨x.1.toArray⟩, Value.agg #[.int .i8 (x.2.1 : Int), .int .u8 (x.2.2 : Int)])
theorem MapIs.block {w w' : World} {b : Nat} {l : List (List UInt8 × Nat × Nat)} (h : MapIs w b l) (hb : w'.heap[b]? = w.heap[b]?) : MapIs w' b l := by
  obtain ⟨es, c, h1, h2⟩ := h
  exact ⟨es, c, by rw [hb]; exact h1, h2⟩
theorem MapIs.lt {w : World} {b : Nat} {l : List (List UInt8 × Nat × Nat)} (h : MapIs w b l) : b < w.heap.size := by
  obtain ⟨es, c, h1, _⟩ := h
  rcases Nat.lt_or_ge b w.heap.size with h' | h'
  · exact h'
  · rw [Array.getElem?_eq_none h'] at h1; cases h1
theorem law9 : Keyed Tryz.prog 9 := string_keyed Tryz.underlying9
theorem key9 (s : ByteArray) (h : s.size ≤ maxLen) : keyOf Tryz.prog 9 (.string s) = some (.string s.data.toList) := Go.WideMaps.keyOf_string_mk Tryz.underlying9 h
theorem map_keys {l : List (List UInt8 × Nat × Nat)} {es : Array MapEntry} (h : es.toList.map (fun e => (e.key, e.val)) = l.map fun x => (Value.string ⟨x.1.toArray⟩, Value.agg #[.int .i8 (x.2.1 : Int), .int .u8 (x.2.2 : Int)])) (hl : ∀ x ∈ l, x.1.length ≤ 100) :
    ∀ e ∈ es.toList, ∃ y ∈ l, e.key = .string ⟨y.1.toArray⟩ ∧ e.val = .agg #[.int .i8 (y.2.1 : Int), .int .u8 (y.2.2 : Int)] ∧ ∃ k, keyOf Tryz.prog 9 e.key = some k := by
  intro e he
  have h1 : (e.key, e.val) ∈ es.toList.map (fun e => (e.key, e.val)) := List.mem_map.2 ⟨e, he, rfl⟩
  rw [h] at h1
  obtain ⟨y, hy, h2⟩ := List.mem_map.1 h1
  simp only [Prod.mk.injEq] at h2
  refine ⟨y, hy, h2.1.symm, h2.2.symm, .string y.1.toArray.toList, ?_⟩
  rw [← h2.1]
  exact key9 _ (by have := hl y hy; show y.1.toArray.size ≤ _; simp; unfold maxLen; omega)
/-- One name more. -/
theorem wpList_ins {w : World} {ops : Array Oper} {rest : List Oper} {o : Oper} {a : Act} {Q : Exit → Act → World → Prop} (hg : o.guard = none) (m x v : Operand) (hop : o.op = Op.insert 77 m x v) (b : Nat) (l : List (List UInt8 × Nat × Nat)) (hm : a.eval m = .map (some b)) (hM : MapIs w b l) (hl : ∀ x ∈ l, x.1.length ≤ 100) (k : List UInt8) (d f : Nat) (hx : a.eval x = .string ⟨k.toArray⟩) (hv : a.eval v = .agg #[.int .i8 (d : Int), .int .u8 (f : Int)]) (hk : k.length ≤ 100) (hno : ∀ x ∈ l, x.1 ≠ k)
    (hK : ∀ w', MapIs w' b (l ++ [(k, d, f)]) → w.grownBy w' (some b) → wpList Tryz.prog ops Q rest (a.put o.dst undef) w') : wpList Tryz.prog ops Q (o :: rest) a w := by
  refine wpList_plain hg fun K' hK' => ?_
  obtain ⟨es, clock, hb, he⟩ := hM
  have hs : (⟨k.toArray⟩ : ByteArray).size ≤ maxLen := by show k.toArray.size ≤ _; simp; unfold maxLen; omega
  have hks := map_keys he hl
  have hrun : (Instr.mapUpdate 77 (.map (some b)) (.string ⟨k.toArray⟩) (.agg #[.int .i8 (d : Int), .int .u8 (f : Int)])).run Tryz.prog w = .ok () (setBlock w b (.map (es.push ⟨.string ⟨k.toArray⟩, .agg #[.int .i8 (d : Int), .int .u8 (f : Int)], clock⟩) (clock + 1))) := by
    rcases law9.find w (key9 _ hs) es.toList (fun e he' => (hks e he').elim fun _ h => h.2.2.2) with ⟨h1, _⟩ | ⟨j, e, _, h2, h3⟩
    · simp [Instr.mapUpdate, run_underlying Tryz.underlying77, MapKept.run_getObj_map hb, law9.check w false (key9 _ hs), h1, MapKept.run_setObj_map _ hb, Result.andThen, setBlock]
    · obtain ⟨y, hy, e1, _⟩ := hks e (List.mem_of_getElem? h2)
      rw [h3] at e1
      injection e1 with e2
      injection e2 with e3
      exact absurd (congrArg Array.toList e3).symm (by simpa using hno y hy)
  unfold Oper.wp
  simp [execOp, hop, hm, hx, hv, hrun, Result.andThen]
  refine hK' _ _ (hK _ ⟨_, _, heap_setBlock_same hb _, ?_⟩ ⟨rfl, rfl, rfl, by simp [setBlock], fun i _ hi => heap_setBlock_other hb _ (fun e => hi (by rw [e]))⟩)
  simp [he]
set_option maxHeartbeats 4000000 in
theorem shapes_any (w : World) : Calls Tryz.prog 30 #[] w fun e w' => e = .returned (.map (some w.heap.size)) ∧ MapIs w' w.heap.size shapeL ∧ Below w.heap.size w w' := by
  have hmm := @run_makeMap Tryz.prog
  have HM : Hid (MapIs (w.alloc (.map #[] 0)) w.heap.size (shapeL.take 0) ∧ Below w.heap.size w (w.alloc (.map #[] 0))) := ⟨⟨#[], 0, heap_alloc_new w _, rfl⟩, (Below.refl _ _).alloc (Nat.le_refl _) _⟩
  go_enter Tryz.func30, Tryz.ntmps30
  go_wp2_with (first
    | (refine wpList_ins rfl _ _ _ rfl w.heap.size (shapeL.take 0) rfl HM.out.1 (by decide) [99, 111, 110, 115, 116] 1 9 rfl rfl (by decide) (by decide) ?_; intro w1 hm1 hg1; have HN : Hid (MapIs w1 w.heap.size (shapeL.take 1) ∧ Below w.heap.size w w1) := ⟨hm1, HM.out.2.grown hg1 HM.out.2.size (fun b hb => by cases hb; exact Nat.le_refl _)⟩; clear HM hm1 hg1; have HM : Hid _ := HN.out; clear HN)
    | (refine wpList_ins rfl _ _ _ rfl w.heap.size (shapeL.take 1) rfl HM.out.1 (by decide) [97, 100, 100] 2 7 rfl rfl (by decide) (by decide) ?_; intro w2 hm2 hg2; have HN : Hid (MapIs w2 w.heap.size (shapeL.take 2) ∧ Below w.heap.size w w2) := ⟨hm2, HM.out.2.grown hg2 HM.out.2.size (fun b hb => by cases hb; exact Nat.le_refl _)⟩; clear HM hm2 hg2; have HM : Hid _ := HN.out; clear HN)
    | (refine wpList_ins rfl _ _ _ rfl w.heap.size (shapeL.take 2) rfl HM.out.1 (by decide) [115, 117, 98] 3 7 rfl rfl (by decide) (by decide) ?_; intro w3 hm3 hg3; have HN : Hid (MapIs w3 w.heap.size (shapeL.take 3) ∧ Below w.heap.size w w3) := ⟨hm3, HM.out.2.grown hg3 HM.out.2.size (fun b hb => by cases hb; exact Nat.le_refl _)⟩; clear HM hm3 hg3; have HM : Hid _ := HN.out; clear HN)
    | (refine wpList_ins rfl _ _ _ rfl w.heap.size (shapeL.take 3) rfl HM.out.1 (by decide) [97, 110, 100] 4 7 rfl rfl (by decide) (by decide) ?_; intro w4 hm4 hg4; have HN : Hid (MapIs w4 w.heap.size (shapeL.take 4) ∧ Below w.heap.size w w4) := ⟨hm4, HM.out.2.grown hg4 HM.out.2.size (fun b hb => by cases hb; exact Nat.le_refl _)⟩; clear HM hm4 hg4; have HM : Hid _ := HN.out; clear HN)
    | (refine wpList_ins rfl _ _ _ rfl w.heap.size (shapeL.take 4) rfl HM.out.1 (by decide) [111, 114] 5 7 rfl rfl (by decide) (by decide) ?_; intro w5 hm5 hg5; have HN : Hid (MapIs w5 w.heap.size (shapeL.take 5) ∧ Below w.heap.size w w5) := ⟨hm5, HM.out.2.grown hg5 HM.out.2.size (fun b hb => by cases hb; exact Nat.le_refl _)⟩; clear HM hm5 hg5; have HM : Hid _ := HN.out; clear HN)
    | (refine wpList_ins rfl _ _ _ rfl w.heap.size (shapeL.take 5) rfl HM.out.1 (by decide) [120, 111, 114] 6 7 rfl rfl (by decide) (by decide) ?_; intro w6 hm6 hg6; have HN : Hid (MapIs w6 w.heap.size (shapeL.take 6) ∧ Below w.heap.size w w6) := ⟨hm6, HM.out.2.grown hg6 HM.out.2.size (fun b hb => by cases hb; exact Nat.le_refl _)⟩; clear HM hm6 hg6; have HM : Hid _ := HN.out; clear HN)
    | (refine wpList_ins rfl _ _ _ rfl w.heap.size (shapeL.take 6) rfl HM.out.1 (by decide) [115, 104, 108] 7 7 rfl rfl (by decide) (by decide) ?_; intro w7 hm7 hg7; have HN : Hid (MapIs w7 w.heap.size (shapeL.take 7) ∧ Below w.heap.size w w7) := ⟨hm7, HM.out.2.grown hg7 HM.out.2.size (fun b hb => by cases hb; exact Nat.le_refl _)⟩; clear HM hm7 hg7; have HM : Hid _ := HN.out; clear HN)
    | (refine wpList_ins rfl _ _ _ rfl w.heap.size (shapeL.take 7) rfl HM.out.1 (by decide) [115, 104, 114] 8 7 rfl rfl (by decide) (by decide) ?_; intro w8 hm8 hg8; have HN : Hid (MapIs w8 w.heap.size (shapeL.take 8) ∧ Below w.heap.size w w8) := ⟨hm8, HM.out.2.grown hg8 HM.out.2.size (fun b hb => by cases hb; exact Nat.le_refl _)⟩; clear HM hm8 hg8; have HM : Hid _ := HN.out; clear HN)
    | (refine wpList_ins rfl _ _ _ rfl w.heap.size (shapeL.take 8) rfl HM.out.1 (by decide) [108, 101, 115, 115] 9 7 rfl rfl (by decide) (by decide) ?_; intro w9 hm9 hg9; have HN : Hid (MapIs w9 w.heap.size (shapeL.take 9) ∧ Below w.heap.size w w9) := ⟨hm9, HM.out.2.grown hg9 HM.out.2.size (fun b hb => by cases hb; exact Nat.le_refl _)⟩; clear HM hm9 hg9; have HM : Hid _ := HN.out; clear HN)
    | (refine wpList_ins rfl _ _ _ rfl w.heap.size (shapeL.take 9) rfl HM.out.1 (by decide) [101, 113, 117, 97, 108] 10 7 rfl rfl (by decide) (by decide) ?_; intro w10 hm10 hg10; have HN : Hid (MapIs w10 w.heap.size (shapeL.take 10) ∧ Below w.heap.size w w10) := ⟨hm10, HM.out.2.grown hg10 HM.out.2.size (fun b hb => by cases hb; exact Nat.le_refl _)⟩; clear HM hm10 hg10; have HM : Hid _ := HN.out; clear HN)
    | (refine wpList_ins rfl _ _ _ rfl w.heap.size (shapeL.take 10) rfl HM.out.1 (by decide) [109, 111, 118, 101] 11 3 rfl rfl (by decide) (by decide) ?_; intro w11 hm11 hg11; have HN : Hid (MapIs w11 w.heap.size (shapeL.take 11) ∧ Below w.heap.size w w11) := ⟨hm11, HM.out.2.grown hg11 HM.out.2.size (fun b hb => by cases hb; exact Nat.le_refl _)⟩; clear HM hm11 hg11; have HM : Hid _ := HN.out; clear HN)
    | (refine wpList_ins rfl _ _ _ rfl w.heap.size (shapeL.take 11) rfl HM.out.1 (by decide) [116, 105, 109, 101, 115] 12 7 rfl rfl (by decide) (by decide) ?_; intro w12 hm12 hg12; have HN : Hid (MapIs w12 w.heap.size (shapeL.take 12) ∧ Below w.heap.size w w12) := ⟨hm12, HM.out.2.grown hg12 HM.out.2.size (fun b hb => by cases hb; exact Nat.le_refl _)⟩; clear HM hm12 hg12; have HM : Hid _ := HN.out; clear HN)
    | (refine wpList_ins rfl _ _ _ rfl w.heap.size (shapeL.take 12) rfl HM.out.1 (by decide) [100, 105, 118, 105, 100, 101] 13 7 rfl rfl (by decide) (by decide) ?_; intro w13 hm13 hg13; have HN : Hid (MapIs w13 w.heap.size (shapeL.take 13) ∧ Below w.heap.size w w13) := ⟨hm13, HM.out.2.grown hg13 HM.out.2.size (fun b hb => by cases hb; exact Nat.le_refl _)⟩; clear HM hm13 hg13; have HM : Hid _ := HN.out; clear HN)
    | (refine wpList_ins rfl _ _ _ rfl w.heap.size (shapeL.take 13) rfl HM.out.1 (by decide) [114, 101, 115, 116] 14 7 rfl rfl (by decide) (by decide) ?_; intro w14 hm14 hg14; have HN : Hid (MapIs w14 w.heap.size (shapeL.take 14) ∧ Below w.heap.size w w14) := ⟨hm14, HM.out.2.grown hg14 HM.out.2.size (fun b hb => by cases hb; exact Nat.le_refl _)⟩; clear HM hm14 hg14; have HM : Hid _ := HN.out; clear HN)
    | (refine wpList_ins rfl _ _ _ rfl w.heap.size (shapeL.take 14) rfl HM.out.1 (by decide) [108, 111, 97, 100] 15 11 rfl rfl (by decide) (by decide) ?_; intro w15 hm15 hg15; have HN : Hid (MapIs w15 w.heap.size (shapeL.take 15) ∧ Below w.heap.size w w15) := ⟨hm15, HM.out.2.grown hg15 HM.out.2.size (fun b hb => by cases hb; exact Nat.le_refl _)⟩; clear HM hm15 hg15; have HM : Hid _ := HN.out; clear HN)
    | (refine wpList_ins rfl _ _ _ rfl w.heap.size (shapeL.take 15) rfl HM.out.1 (by decide) [115, 116, 111, 114, 101] 16 14 rfl rfl (by decide) (by decide) ?_; intro w16 hm16 hg16; have HN : Hid (MapIs w16 w.heap.size (shapeL.take 16) ∧ Below w.heap.size w w16) := ⟨hm16, HM.out.2.grown hg16 HM.out.2.size (fun b hb => by cases hb; exact Nat.le_refl _)⟩; clear HM hm16 hg16; have HM : Hid _ := HN.out; clear HN)
    | (refine wpList_ins rfl _ _ _ rfl w.heap.size (shapeL.take 16) rfl HM.out.1 (by decide) [112, 114, 105, 110, 116] 17 2 rfl rfl (by decide) (by decide) ?_; intro w17 hm17 hg17; have HN : Hid (MapIs w17 w.heap.size (shapeL.take 17) ∧ Below w.heap.size w w17) := ⟨hm17, HM.out.2.grown hg17 HM.out.2.size (fun b hb => by cases hb; exact Nat.le_refl _)⟩; clear HM hm17 hg17; have HM : Hid _ := HN.out; clear HN))
  go_ret
  exact ⟨rfl, HM.out.1, HM.out.2⟩
theorem shape_in : ∀ y ∈ shapeL, shapeOf y.1 = some y.2 := by decide
theorem shape_out {s : List UInt8} (h : ∀ y ∈ shapeL, y.1 ≠ s) : shapeOf s = none := by
  unfold shapeOf
  rw [Option.map_eq_none_iff, List.find?_eq_none]
  intro y hy
  simpa using h y hy
/-- What is found at a name. -/
def foundV (s : List UInt8) : Value := match shapeOf s with | some x => .tuple #[.agg #[.int .i8 (x.1 : Int), .int .u8 (x.2 : Int)], .bool true] | none => .tuple #[.agg #[.int .i8 0, .int .u8 0], .bool false]
theorem MapIs.look {w : World} {b : Nat} (h : MapIs w b shapeL) (s : ByteArray) (hs : s.size ≤ maxLen) : (Instr.lookup 77 (.map (some b)) (.string s) true).run Tryz.prog w = .ok (foundV s.data.toList) w := by
  obtain ⟨es, clock, hb, he⟩ := h
  have hks := map_keys he (by decide)
  rcases law9.find w (key9 _ hs) es.toList (fun e he' => (hks e he').elim fun _ h => h.2.2.2) with ⟨h1, h2⟩ | ⟨j, e, h1, h2, h3⟩
  · have hn : shapeOf s.data.toList = none := by
      refine shape_out fun y hy e0 => ?_
      have hm : (Value.string ⟨y.1.toArray⟩, Value.agg #[.int .i8 (y.2.1 : Int), .int .u8 (y.2.2 : Int)]) ∈ es.toList.map (fun e => (e.key, e.val)) := by
        rw [he]; exact List.mem_map.2 ⟨y, hy, rfl⟩
      obtain ⟨e, hee, h3⟩ := List.mem_map.1 hm
      simp only [Prod.mk.injEq] at h3
      exact h2 e hee (by rw [h3.1, e0])
    simp [Instr.lookup, run_underlying Tryz.underlying77, MapKept.run_getObj_map hb, law9.check w _ (key9 _ hs), h1, Result.andThen, foundV, hn]
  · obtain ⟨y, hy, e1, e2, _⟩ := hks e (List.mem_of_getElem? h2)
    rw [h3] at e1
    injection e1 with e3
    have hn : shapeOf s.data.toList = some y.2 := by
      rw [e3]; simpa using shape_in y hy
    simp [Instr.lookup, run_underlying Tryz.underlying77, MapKept.run_getObj_map hb, law9.check w _ (key9 _ hs), h1, Result.andThen, foundV, hn, e2]
end Go.Proofs.YthjpddjfckdefaaGreatDoor.Pr
