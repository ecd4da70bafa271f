/- A text that is built line by line: the builder's calls by the library's contracts, and what the closure that puts a line leaves: read off the program by the walk. Conditions: the builder is the block that the closure holds. -/
import Derived.Test.YthjpddjfckdefaaGreatDoorTx
import Derived.Shelf.Strings.BuilderK
namespace Go.Proofs.YthjpddjfckdefaaGreatDoor.Op
open Go.ChangeShapes Go.WideShapes Go.ChangeAt Go.RowKit
set_option maxRecDepth 20000

/-- The builder, with what was written. -/
def Bd (B : Nat) (l : List UInt8) (w : World) : Prop := Lib.IsBuilderF 56 5 B B (Lib.byteCells l) w
/-- What stays while the builder grows. -/
structure Kp (B : Nat) (w w' : World) : Prop where
  b : Below B w w'
  k : Lib.OthersKept 5 (some B) w w'
theorem Kp.trans {B : Nat} {a b c : World} (h : Kp B a b) (g : Kp B b c) : Kp B a c := ⟨h.b.trans g.b, h.k.trans g.k⟩
theorem Kp.up {B : Nat} {a b c : World} (h : Kp B a b) (g : Below b.heap.size b c) (hB : B ≤ b.heap.size) : Kp B a c := by
  refine ⟨h.b.trans (g.mono hB), fun k o hk hb ho => ?_⟩
  have h1 := h.k k o hk hb ho
  have hlt : k < b.heap.size := by
    rcases Nat.lt_or_ge k b.heap.size with h' | h'
    · exact h'
    · rw [Array.getElem?_eq_none h'] at h1; cases h1
  rw [g.block k hlt]; exact h1
theorem Kp.refl (B : Nat) (w : World) : Kp B w w := ⟨Below.refl _ _, Lib.OthersKept.refl _ _ _⟩
theorem bda_below {B : Nat} {p : Value} {bs : List Value} {w w' : World} (h : Lib.BuilderAtF 56 5 B B p bs w) (hb : Below w.heap.size w w') : Lib.BuilderAtF 56 5 B B p bs w' := by
  have hlt := h.lt
  obtain ⟨h1, v, h2, h3, h4⟩ := h
  exact ⟨h1, v, by rw [hb.block B hlt]; exact h2, h3.kept (row := none) ⟨hb.os, hb.tape, hb.output, hb.size, fun k hk _ => hb.block k hk⟩ (by cases v.ownBlock <;> simp), h4⟩
theorem Bd.up {B : Nat} {l : List UInt8} {w w' : World} (h : Bd B l w) (hb : Below w.heap.size w w') : Bd B l w' := h.elim (fun x => .inl (bda_below x hb)) (fun x => .inr (bda_below x hb))
theorem Bd.lt {B : Nat} {l : List UInt8} {w : World} (h : Bd B l w) : B < w.heap.size := h.elim (fun x => x.lt) (fun x => x.lt)
/-- A block that is none of bytes. -/
def Hp (w : World) (k : Nat) (cs : Array Value) (t : TypeId) : Prop := w.heap[k]? = some (.cells cs t (0, 0))
theorem Hp.lt {w : World} {k : Nat} {cs : Array Value} {t : TypeId} (h : Hp w k cs t) : k < w.heap.size := by
  rcases Nat.lt_or_ge k w.heap.size with h' | h'
  · exact h'
  · unfold Hp at h; rw [Array.getElem?_eq_none h'] at h; cases h
theorem Hp.kp {B : Nat} {w w' : World} {k : Nat} {cs : Array Value} {t : TypeId} (h : Hp w k cs t) (g : Kp B w w') (hk : k ≠ B) (ht : t ≠ 5) : Hp w' k cs t :=
  g.k k _ h (fun e => hk (Option.some.inj e)) (fun c fz e => by injection e with _ e2 _; exact ht e2)
theorem Hp.up {w w' : World} {k : Nat} {cs : Array Value} {t : TypeId} (h : Hp w k cs t) (g : Below w.heap.size w w') : Hp w' k cs t := by
  unfold Hp; rw [g.block k h.lt]; exact h
theorem Hp.cell {w : World} {k : Nat} {cs : Array Value} {t : TypeId} (h : Hp w k cs t) (j : Nat) (v : Value) (hv : cs[j]? = some v) : w.cell? ⟨k, j, none⟩ = some v := by
  rw [Lib.cell_of_heap h]; exact hv
theorem Hp.new (w : World) (cs : Array Value) (t : TypeId) : Hp (w.alloc (.cells cs t)) w.heap.size cs t := heap_alloc_new w _
/-- Words, one blank between two. -/
def joinL (xs : List (List UInt8)) : List UInt8 := Lib.join xs [32]
set_option maxHeartbeats 1000000 in
/-- A line is put. -/
theorem put_any (B : Nat) (l : List UInt8) (ah : ByteArray) (bk : Nat) (xs : List (List UInt8)) (w : World) (hB : Bd B l w) (hw : Hp w bk (xs.map fun x => Value.string ⟨x.toArray⟩).toArray 9) (hbk : bk ≠ B) (h1 : l.length ≤ 1000000) (h2 : ah.size ≤ 1000) (h3 : (joinL xs).length ≤ 1000) (h4 : xs.length ≤ 100) :
    Calls Tryz.prog 16 #[.string ah, .slice (some ⟨bk, 0, none⟩) xs.length xs.length, .pointer (some ⟨B, 0, none⟩)] w fun e w' => e = .returned (.tuple #[]) ∧ Bd B (l ++ ah.data.toList ++ joinL xs ++ [10]) w' ∧ Kp B w w' := by
  have e0 : ∀ (a : List UInt8) (s : ByteArray), Lib.byteCells a ++ Lib.strCells s = Lib.byteCells (a ++ s.data.toList) := fun a s => by rw [Lib.byteCells_append, Lib.strCells_eq]
  have e1 : ∀ a : List UInt8, Lib.byteCells a ++ [Value.int .u8 10] = Lib.byteCells (a ++ [10]) := fun a => by rw [Lib.byteCells_append]; rfl
  have hs : ah.data.toList.length = ah.size := rfl
  have W1 : Hid (Calls Tryz.prog 17 #[.pointer (some ⟨B, 0, none⟩), .string ah] w fun e w' => e = .returned (.tuple #[.int .i64 ah.size, .nilIface]) ∧ Bd B (l ++ ah.data.toList) w' ∧ Kp B w w') :=
    (Tryz.Builder_WriteString_k B B (Lib.byteCells l) ah w hB (by rw [Lib.byteCells_length]; omega) (Nat.le_of_lt hB.lt)).mono fun e w' h => ⟨h.1, by rw [e0] at h; exact .inr h.2.1, h.2.2.1, h.2.2.2⟩
  have WJ : Hid (∀ W, Hp W bk (xs.map fun x => Value.string ⟨x.toArray⟩).toArray 9 → Calls Tryz.prog 18 #[.slice (some ⟨bk, 0, none⟩) xs.length xs.length, .string ⟨#[32]⟩] W fun e w' => e = .returned (.string ⟨(joinL xs).toArray⟩) ∧ Below W.heap.size W w') := fun W hW => by
    have hm : (xs.map fun x => (⟨x.toArray⟩ : ByteArray)).map (fun b : ByteArray => b.data.toList) = xs := by
      rw [List.map_map]; simp [Function.comp_def]
    have h := Tryz.strings_Join bk 0 xs.length (xs.map fun x => (⟨x.toArray⟩ : ByteArray)) ⟨#[32]⟩ W (fun j x hj => by
      rw [Nat.zero_add]
      refine hW.cell j _ ?_
      rw [List.getElem?_map] at hj
      obtain ⟨y, hy, rfl⟩ := Option.map_eq_some_iff.1 hj
      simp [hy]) hW.lt (by rw [List.length_map]; omega) (by rw [List.length_map]; omega) (by rw [hm]; show (joinL xs).length ≤ _; omega)
    rw [hm, List.length_map] at h
    exact h
  have W2 : Hid (∀ W, Bd B (l ++ ah.data.toList) W → Calls Tryz.prog 17 #[.pointer (some ⟨B, 0, none⟩), .string ⟨(joinL xs).toArray⟩] W fun e w' => e = .returned (.tuple #[.int .i64 (⟨(joinL xs).toArray⟩ : ByteArray).size, .nilIface]) ∧ Bd B (l ++ ah.data.toList ++ joinL xs) w' ∧ Kp B W w') := fun W hW =>
    (Tryz.Builder_WriteString_k B B (Lib.byteCells (l ++ ah.data.toList)) ⟨(joinL xs).toArray⟩ W hW (by rw [Lib.byteCells_length, List.length_append, ba_size]; omega) (Nat.le_of_lt hW.lt)).mono fun e w' h => ⟨h.1, by rw [e0] at h; exact .inr h.2.1, h.2.2.1, h.2.2.2⟩
  have W3 : Hid (∀ W, Bd B (l ++ ah.data.toList ++ joinL xs) W → Calls Tryz.prog 19 #[.pointer (some ⟨B, 0, none⟩), .int .u8 10] W fun e w' => e = .returned .nilIface ∧ Bd B (l ++ ah.data.toList ++ joinL xs ++ [10]) w' ∧ Kp B W w') := fun W hW =>
    (Tryz.Builder_WriteByte_k B B (Lib.byteCells (l ++ ah.data.toList ++ joinL xs)) 10 W hW (by rw [Lib.byteCells_length, List.length_append, List.length_append]; omega) (Nat.le_of_lt hW.lt)).mono fun e w' h => ⟨h.1, by rw [e1] at h; exact .inr h.2.1, h.2.2.1, h.2.2.2⟩
  have HW : Hid (Hp w bk (xs.map fun x => Value.string ⟨x.toArray⟩).toArray 9) := hw
  have HB : Hid (B < w.heap.size) := hB.lt
  generalize l ++ ah.data.toList ++ joinL xs ++ [10] = L3 at *
  generalize l ++ ah.data.toList ++ joinL xs = L2 at *
  generalize l ++ ah.data.toList = L1 at *
  clear hB hw e0 e1 hs
  go_enter Tryz.func16, Tryz.ntmps16
  go_wp2_with (first
    | (go_at_call_of 17 (Value.string ah); refine Calls.mono W1.out ?_; rintro e w1 ⟨rfl, hb, hk⟩; have HS1 : Hid (Bd B L1 w1 ∧ Kp B w w1 ∧ Hp w1 bk (xs.map fun x => Value.string ⟨x.toArray⟩).toArray 9) := ⟨hb, hk, HW.out.kp hk hbk (by decide)⟩; clear hb hk W1)
    | (go_at_call 18; refine Calls.mono (WJ.out _ HS1.out.2.2) ?_; rintro e w2 ⟨rfl, hb⟩; have HS2 : Hid (Bd B L1 w2 ∧ Kp B w w2) := ⟨HS1.out.1.up hb, HS1.out.2.1.up hb (Nat.le_of_lt HS1.out.1.lt)⟩; clear hb WJ HS1)
    | (go_at_call 17; refine Calls.mono (W2.out _ HS2.out.1) ?_; rintro e w3 ⟨rfl, hb, hk⟩; have HS3 : Hid (Bd B L2 w3 ∧ Kp B w w3) := ⟨hb, HS2.out.2.trans hk⟩; clear hb hk W2 HS2)
    | (go_at_call 19; refine Calls.mono (W3.out _ HS3.out.1) ?_; rintro e w4 ⟨rfl, hb, hk⟩; have HS4 : Hid (Bd B L3 w4 ∧ Kp B w w4) := ⟨hb, HS3.out.2.trans hk⟩; clear hb hk W3 HS3))
  go_end0
  exact ⟨rfl, HS4.out.1, HS4.out.2⟩
end Go.Proofs.YthjpddjfckdefaaGreatDoor.Op
