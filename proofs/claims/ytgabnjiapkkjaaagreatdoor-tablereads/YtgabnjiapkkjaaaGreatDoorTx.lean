/- What package table's Text answers, read off the program by the walk: the five lines as bytes. Conditions: the bounds and the names lie in memory as the program lays them. -/
import Derived.Test.YtgabnjiapkkjaaaGreatDoorCk
import Derived.Test.YtgabnjiapkkjaaaGreatDoorShelf
namespace Go.Proofs.YtgabnjiapkkjaaaGreatDoor.Tb
open Go.ChangeShapes Go.WideShapes Go.ChangeAt Go.RowKit

theorem isBuilder_below {T e : TypeId} {B b : Nat} {bs : List Value} {w w' : World} (h : Lib.IsBuilder T e B b bs w) (hb : Below w.heap.size w w') : Lib.IsBuilder T e B b bs w' := by
  have go : ∀ p, Lib.BuilderAt T e B b p bs w → Lib.BuilderAt T e B b p bs w' := fun p h => by
    have hlt := h.lt
    obtain ⟨h1, v, h2, h3, h4⟩ := h
    refine ⟨h1, v, ?_, h3.kept (row := none) ⟨hb.os, hb.tape, hb.output, hb.size, fun k hk _ => hb.block k hk⟩ ?_, h4⟩
    · rw [hb.block b hlt]; exact h2
    · cases v.ownBlock <;> simp
  exact h.imp (go _) (go _)

def digS (n : Int) : ByteArray := ⟨#[UInt8.ofNat (48 + n.toNat)]⟩

theorem itoa_dig (n : Int) (w : World) (h0 : 0 ≤ n) (h9 : n ≤ 9) :
    Calls Tryz.prog 18 #[.int .i64 n] w fun e w' => e = .returned (.string (digS n)) ∧ w' = w := by
  obtain ⟨m, rfl⟩ := Int.eq_ofNat_of_zero_le h0
  refine (Tryz.strconv_Itoa_small m (by omega) w).mono ?_
  rintro e w' ⟨rfl, rfl⟩
  refine ⟨?_, rfl⟩
  rw [Lib.decDigits, dif_pos (by omega)]
  simp [digS]

theorem writeLine_any (B b bk : Nat) (l : List UInt8) (xs : List ByteArray) (w : World) (h : Lib.IsBuilder 49 5 B b (Lib.byteCells l) w) (hB : B ≤ w.heap.size)
    (hcells : ∀ (j : Nat) x, xs[j]? = some x → w.cell? ⟨bk, 0 + j, none⟩ = some (.string x)) (hbk : bk < w.heap.size) (hn : xs.length ≤ 1000)
    (hlen : (Lib.join (xs.map (·.data.toList)) [32]).length ≤ 1000000) (hl : l.length ≤ 1000000) :
    Calls Tryz.prog 17 #[.pointer (some ⟨b, 0, none⟩), .slice (some ⟨bk, 0, none⟩) xs.length xs.length] w fun e w' => e = .returned (.tuple #[]) ∧ Lib.IsBuilder 49 5 B b (Lib.byteCells (l ++ Lib.join (xs.map (·.data.toList)) [32] ++ [10])) w' ∧ Below B w w' := by
  have hj := Tryz.strings_Join bk 0 xs.length xs ⟨#[32]⟩ w hcells hbk (by omega) (Nat.le_refl _) (by simpa using (by omega : (Lib.join (xs.map (·.data.toList)) [32]).length ≤ 140737488355328))
  generalize hJ : Lib.join (xs.map (·.data.toList)) [32] = J at *
  have Hj : Hid (Calls Tryz.prog 29 #[.slice (some ⟨bk, 0, none⟩) xs.length xs.length, .string ⟨#[32]⟩] w fun e w' => e = .returned (.string ⟨J.toArray⟩) ∧ Below w.heap.size w w') := hj
  clear hj hcells hJ
  go_enter Tryz.func17, Tryz.ntmps17
  go_wp2_with (first
    | (go_at_call 29; refine Calls.mono Hj.out ?_; rintro e w1 ⟨rfl, hb1⟩)
    | (go_at_call 28; refine (Tryz.Builder_WriteString B b _ _ _ (isBuilder_below h hb1) (by rw [Lib.byteCells_length]; simp [ByteArray.size]; omega) (Nat.le_trans hB hb1.size)).mono ?_; rintro e w2 ⟨rfl, h2, hb2⟩)
    | (go_at_call 30; refine (Tryz.Builder_WriteByte B b _ _ _ (.inr h2) (by rw [List.length_append, Lib.byteCells_length, Lib.strCells_length]; simp [ByteArray.size]; omega) (Nat.le_trans hB (Nat.le_trans hb1.size hb2.size))).mono ?_; rintro e w3 ⟨rfl, h3, hb3⟩))
  go_end0
  refine ⟨rfl, ?_, (hb1.mono hB).trans (hb2.trans hb3)⟩
  rw [Lib.byteCells_append, Lib.byteCells_append]
  exact .inr h3

def nameL : Nat → List UInt8
  | 0 => [97, 108, 117]
  | 1 => [109, 117, 108]
  | 2 => [109, 101, 109]
  | 3 => [99, 116, 108]
  | _ => [100, 101, 108, 97, 121]
def nameS (k : Nat) : ByteArray := ⟨(nameL k).toArray⟩

/-- The lines' first words, as the program lays them: block 0. -/
structure Names (w : World) : Prop where
  n : ∀ k, k < 5 → w.cell? ⟨0, k, none⟩ = some (.string (nameS k))
  big : 14 ≤ w.heap.size

theorem Names.below {B : Nat} {w w' : World} (h : Names w) (hb : Below B w w') (hB : 14 ≤ B) : Names w' :=
  ⟨fun k hk => by rw [(bcell hb).1 _ _ (by omega)]; exact h.n k hk, Nat.le_trans h.big hb.size⟩

def latS : ByteArray := ⟨#[108, 97, 116]⟩
def busyS : ByteArray := ⟨#[98, 117, 115, 121]⟩
def lineX (t : Tab) (k : Nat) : List ByteArray := [nameS k, digS (t.u k), latS, digS (t.l k), busyS, digS (t.b k)]
def joinL (xs : List ByteArray) : List UInt8 := Lib.join (xs.map (·.data.toList)) [32]
def textK (t : Tab) : Nat → List UInt8
  | 0 => []
  | k + 1 => textK t k ++ joinL (lineX t k) ++ [10]
def textL (t : Tab) : List UInt8 := textK t 4 ++ joinL [nameS 4, digS t.d] ++ [10]
theorem nameL_len (k : Nat) : (nameL k).length ≤ 5 := by unfold nameL; split <;> decide
theorem joinL_len (t : Tab) (k : Nat) : (joinL (lineX t k)).length ≤ 30 := by
  have := nameL_len k
  simp [joinL, lineX, Lib.join, List.intercalate, nameS, digS, latS, busyS]
  omega
theorem textK_len (t : Tab) : ∀ k, (textK t k).length ≤ 31 * k
  | 0 => by simp [textK]
  | k + 1 => by
    have h1 := textK_len t k
    have h2 := joinL_len t k
    simp [textK]; omega

theorem writeLine6 (B b bk : Nat) (l : List UInt8) (x0 x1 x2 x3 x4 x5 : ByteArray) (w : World) (h : Lib.IsBuilder 49 5 B b (Lib.byteCells l) w) (hB : B ≤ w.heap.size)
    (c0 : w.cell? ⟨bk, 0, none⟩ = some (.string x0)) (c1 : w.cell? ⟨bk, 1, none⟩ = some (.string x1)) (c2 : w.cell? ⟨bk, 2, none⟩ = some (.string x2)) (c3 : w.cell? ⟨bk, 3, none⟩ = some (.string x3)) (c4 : w.cell? ⟨bk, 4, none⟩ = some (.string x4)) (c5 : w.cell? ⟨bk, 5, none⟩ = some (.string x5))
    (hbk : bk < w.heap.size) (hlen : (joinL [x0, x1, x2, x3, x4, x5]).length ≤ 1000000) (hl : l.length ≤ 1000000) :
    Calls Tryz.prog 17 #[.pointer (some ⟨b, 0, none⟩), .slice (some ⟨bk, 0, none⟩) 6 6] w fun e w' => e = .returned (.tuple #[]) ∧ Lib.IsBuilder 49 5 B b (Lib.byteCells (l ++ joinL [x0, x1, x2, x3, x4, x5] ++ [10])) w' ∧ Below B w w' :=
  writeLine_any B b bk l [x0, x1, x2, x3, x4, x5] w h hB (fun j x hx => by
    match j, hx with
    | 0, hx => cases hx; exact c0
    | 1, hx => cases hx; exact c1
    | 2, hx => cases hx; exact c2
    | 3, hx => cases hx; exact c3
    | 4, hx => cases hx; exact c4
    | 5, hx => cases hx; exact c5
    | j + 6, hx => cases hx) hbk (by simp) hlen hl

theorem writeLine2 (B b bk : Nat) (l : List UInt8) (x0 x1 : ByteArray) (w : World) (h : Lib.IsBuilder 49 5 B b (Lib.byteCells l) w) (hB : B ≤ w.heap.size)
    (c0 : w.cell? ⟨bk, 0, none⟩ = some (.string x0)) (c1 : w.cell? ⟨bk, 1, none⟩ = some (.string x1))
    (hbk : bk < w.heap.size) (hlen : (joinL [x0, x1]).length ≤ 1000000) (hl : l.length ≤ 1000000) :
    Calls Tryz.prog 17 #[.pointer (some ⟨b, 0, none⟩), .slice (some ⟨bk, 0, none⟩) 2 2] w fun e w' => e = .returned (.tuple #[]) ∧ Lib.IsBuilder 49 5 B b (Lib.byteCells (l ++ joinL [x0, x1] ++ [10])) w' ∧ Below B w w' :=
  writeLine_any B b bk l [x0, x1] w h hB (fun j x hx => by
    match j, hx with
    | 0, hx => cases hx; exact c0
    | 1, hx => cases hx; exact c1
    | j + 2, hx => cases hx) hbk (by simp) hlen hl

theorem text_no (t : Tab) (w : World) (hG : Bnds w) (h : t.ok = false) :
    Calls Tryz.prog 7 #[t.val] w fun e w' => e = .returned (.tuple #[.string ⟨#[]⟩, .int .i64 20]) ∧ Below w.heap.size w w' := by
  have hz := hG.big
  have hG1 : Bnds (w.alloc (.cells t.cells 24)) := hG.below ((Below.refl _ _).alloc (Nat.le_refl _) _) hz
  have hr : ckR t = 20 := by simp [ckR, h]
  have hc := check_any t (w.alloc (.cells t.cells 24)) hG1
  rw [hr] at hc
  unfold Tab.val at *
  have Hc : Hid _ := hc
  clear hc hr
  go_enter Tryz.func7, Tryz.ntmps7
  go_wp2_with (first | (go_at_call 9; refine Calls.mono Hc.out ?_; rintro e w' ⟨rfl, hb⟩))
  go_ret2
  exact ⟨rfl, ((Below.refl _ _).alloc (Nat.le_refl _) _).trans (hb.mono (by simp))⟩

set_option maxHeartbeats 1000000 in
theorem text_yes (t : Tab) (w : World) (hG : Bnds w) (hN : Names w) (h : t.ok = true) :
    Calls Tryz.prog 7 #[t.val] w fun e w' => e = .returned (.tuple #[.string ⟨(textL t).toArray⟩, .int .i64 0]) ∧ Below w.heap.size w w' := by
  have hz := hG.big
  have hA := (Below.refl w.heap.size w).alloc (Nat.le_refl _) (.cells t.cells 24)
  have hG1 : Bnds (w.alloc (.cells t.cells 24)) := hG.below hA hz
  have hN1 : Hid (Names (w.alloc (.cells t.cells 24))) := hN.below hA hz
  have hr : ckR t = 0 := by simp [ckR, h]
  have hc := check_any t (w.alloc (.cells t.cells 24)) hG1
  rw [hr] at hc
  have hp := ok_parts h
  clear h
  unfold Tab.val at *
  have Hc : Hid _ := hc
  have Hp : Hid _ := hp
  clear hc hr hp hG hG1 hN hA
  go_enter Tryz.func7, Tryz.ntmps7
  go_wp2_with (first | (go_at_call 9; refine Calls.mono Hc.out ?_; rintro e w1 ⟨rfl, hb⟩))
  have hT : TabAt w1 w.heap.size t := (tabAt_new w t 24).below hb (by simp)
  have hN2 : Names w1 := hN1.out.below hb (by simp; omega)
  have hb0 : Below w.heap.size w w1 := ((Below.refl _ _).alloc (Nat.le_refl _) _).trans (hb.mono (by simp))
  clear hb Hc hN1
  go_loopw [12] (fun i wr => ∃ k : Nat, k ≤ 4 ∧ i = .int .i64 k ∧ Lib.IsBuilder 49 5 w1.heap.size w1.heap.size (Lib.byteCells (textK t k)) wr ∧ Below w1.heap.size w1 wr) (fun i _ => 4 - (intOf i).toNat)
  case atStart => exact ⟨0, by omega, rfl, Lib.fresh_isBuilder 49 5 w1, (Below.refl _ _).alloc (Nat.le_refl _) _⟩
  case round =>
    rename_i wr
    obtain ⟨k, hk, rfl, hI, hbw⟩ := hrel
    have hTr := hT.below hbw hT.lt
    have hNr := hN2.below hbw hN2.big
    have z1 := hT.lt
    have z2 := hTr.lt
    by_cases hlt : k < 4
    · have hu := hTr.cu k hlt
      have hl := hTr.cl k hlt
      have hbb := hTr.cb k hlt
      have hn := hNr.n k (by omega)
      have i1 : (0 : Int) ≤ (k : Int) := by omega
      have i2 : (k : Int) < 4 := by omega
      have i3 : (k : Int) < 5 := by omega
      have hq := Hp.out.2 k hlt
      obtain ⟨p1, p2⟩ := inB_iff hq.1
      obtain ⟨p3, p4⟩ := inB_iff hq.2.1
      obtain ⟨p5, p6⟩ := inB_iff hq.2.2
      go_wp2
      have hlenK := textK_len t k
      have hlenJ := joinL_len t k
      have hwz : w1.heap.size ≤ wr.heap.size := hbw.size
      go_region_held3 (fun w' => w'.cell? ⟨0, k, none⟩ = some (.string (nameS k)) ∧ w'.cell? ⟨w.heap.size, k, none⟩ = some (.int .i64 (t.u k)) ∧ w'.cell? ⟨w.heap.size, 4 + k, none⟩ = some (.int .i64 (t.l k)) ∧ w'.cell? ⟨w.heap.size, 8 + k, none⟩ = some (.int .i64 (t.b k)))
        (first | go_keep | (refine ⟨?_, ?_, ?_, ?_⟩ <;> (rw [(bcell hb2).1 _ _ (by omega)]; simp [*])))
        (first
         | (go_at_call 18; refine (itoa_dig _ _ (by omega) (by omega)).mono ?_; rintro e w' ⟨rfl, rfl⟩)
         | (go_at_call 17; refine (writeLine6 w1.heap.size w1.heap.size _ (textK t k) (nameS k) (digS (t.u k)) latS (digS (t.l k)) busyS (digS (t.b k)) _ (isBuilder_below hI (by go_grown)) (by simp; omega) (by simp) (by simp) (by simp [latS]) (by simp) (by simp [busyS]) (by simp) (by simp) (Nat.le_trans hlenJ (by omega)) (by omega)).mono ?_; rintro e w2 ⟨rfl, hI2, hb2⟩))
      go_wp2
      go_roundw
      case rel => exact ⟨k + 1, by omega, by go_num, hI2, hbw.trans (Below.trans (by go_grown) hb2)⟩
      case measure => simp [intOf]; omega
    · obtain rfl : k = 4 := by omega
      have hd := hTr.cd
      have hn := hNr.n 4 (by omega)
      obtain ⟨p1, p2⟩ := inB_iff Hp.out.1
      have hlenK := textK_len t 4
      have hwz : w1.heap.size ≤ wr.heap.size := hbw.size
      go_wp2
      go_region_held3 (fun w' => w'.cell? ⟨0, 4, none⟩ = some (.string (nameS 4)) ∧ w'.cell? ⟨w.heap.size, 12, none⟩ = some (.int .i64 t.d))
        (first | go_keep | (refine ⟨?_, ?_⟩ <;> (rw [(bcell hb2).1 _ _ (by omega)]; simp [*])))
        (first
         | (go_at_call 18; refine (itoa_dig _ _ (by omega) (by omega)).mono ?_; rintro e w' ⟨rfl, rfl⟩)
         | (go_at_call 17; refine (writeLine2 w1.heap.size w1.heap.size _ (textK t 4) (nameS 4) (digS t.d) _ (isBuilder_below hI (by go_grown)) (by simp; omega) (by simp) (by simp) (by simp) (by simp [joinL, Lib.join, List.intercalate, nameS, digS, nameL]) (by omega)).mono ?_; rintro e w2 ⟨rfl, hI2, hb2⟩))
      have hw2 : w1.heap.size ≤ w2.heap.size := by have := hb2.size; simp at this; omega
      go_wp2_with (first | (go_at_call 19; refine (Tryz.Builder_String_any w1.heap.size w1.heap.size (textL t) _ hI2 hw2).mono ?_; rintro e w3 ⟨rfl, hb3⟩))
      go_ret2
      exact ⟨rfl, hb0.trans ((hbw.trans (Below.trans (Below.trans (by go_grown) hb2) hb3)).mono hb0.size)⟩

end Go.Proofs.YtgabnjiapkkjaaaGreatDoor.Tb
