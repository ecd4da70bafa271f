/- What show's putEnd puts: a block's end, line by line: read off the program by the walk. Conditions: the block's lists lie in memory; the table of powers lies there as the library lays it. -/
import Derived.Test.YthjpddjfckdefaaGreatDoorSa
import Derived.Deep.RegionWith
namespace Go.Proofs.YthjpddjfckdefaaGreatDoor.Op
open Go.ChangeShapes Go.WideShapes Go.ChangeAt Go.RowKit
set_option maxRecDepth 20000

abbrev sp2 : List UInt8 := [32, 32]
abbrev sp4 : List UInt8 := [32, 32, 32, 32]
abbrev jumpW : List UInt8 := [106, 117, 109, 112]
abbrev branchW : List UInt8 := [98, 114, 97, 110, 99, 104]
abbrev haltW : List UInt8 := [104, 97, 108, 116]
abbrev loopW : List UInt8 := [108, 111, 111, 112]
abbrev blockW : List UInt8 := [98, 108, 111, 99, 107]
/-- A line behind two blanks. -/
def two (xs : List (List UInt8)) : List UInt8 := sp2 ++ joinL xs ++ [10]
/-- A block's end. -/
def endL (x : Bk) : List UInt8 :=
  if x.fin = 0 then two [jumpW, Lib.itoa x.thn]
  else if x.fin = 1 then two [branchW, 114 :: Lib.itoa x.a, Lib.itoa x.thn, Lib.itoa x.els]
  else if x.fin = 2 then two [haltW, 114 :: Lib.itoa x.a]
  else two [loopW, 114 :: Lib.itoa x.a, [123]] ++ linesL sp4 x.body ++ two [[125]] ++ two [jumpW, Lib.itoa x.thn]
theorem join_cons (x y : List UInt8) (r : List (List UInt8)) : joinL (x :: y :: r) = x ++ [32] ++ joinL (y :: r) := by simp [joinL, Lib.join]
/-- A block's end under way. -/
structure Es (w0 w V : World) (B : Nat) (l : List UInt8) (q : Nat) (cs : Array Value) : Prop where
  bd : Bd B l V
  kp : Kp B w V
  hp : Hp V q cs 43
  bl : Below w0.heap.size w0 V
theorem Es.up {w0 w V V' : World} {B : Nat} {l : List UInt8} {q : Nat} {cs : Array Value} (h : Es w0 w V B l q cs) (hb : Below V.heap.size V V') : Es w0 w V' B l q cs :=
  ⟨h.bd.up hb, h.kp.up hb (Nat.le_of_lt h.bd.lt), h.hp.up hb, h.bl.trans (hb.mono h.bl.size)⟩
theorem Es.drew {w0 w V : World} {B : Nat} {l : List UInt8} {q : Nat} {cs : Array Value} (h : Es w0 w V B l q cs) : Es w0 w V.drew B l q cs := h.up (Below.refl _ _).drew
theorem Es.put {w0 w V V' : World} {B : Nat} {l l' : List UInt8} {q : Nat} {cs : Array Value} (h : Es w0 w V B l q cs) (hb : Bd B l' V') (hk : Kp B V V') (hq : q ≠ B) (hB : w0.heap.size ≤ B) : Es w0 w V' B l' q cs :=
  ⟨hb, h.kp.trans hk, h.hp.kp hk hq (by decide), h.bl.trans (hk.b.mono hB)⟩
/-- The line of some words, at a world. -/
abbrev PutC (B : Nat) (xs : List (List UInt8)) : Prop := ∀ (l : List UInt8) (W : World) (bk : Nat), Bd B l W → Hp W bk (xs.map fun x => Value.string ⟨x.toArray⟩).toArray 9 → bk ≠ B → l.length ≤ 1000000 → Calls Tryz.prog 16 #[.string ⟨#[32, 32]⟩, .slice (some ⟨bk, 0, none⟩) xs.length xs.length, .pointer (some ⟨B, 0, none⟩)] W fun e w' => e = .returned (.tuple #[]) ∧ Bd B (l ++ two xs) w' ∧ Kp B W w'
theorem put_two (B : Nat) (xs : List (List UInt8)) (h3 : (joinL xs).length ≤ 1000) (h4 : xs.length ≤ 100) : PutC B xs := fun l W bk hb hp hne hl => by
  have h := put_any B l ⟨#[32, 32]⟩ bk xs W hb hp hne hl (by decide) h3 h4
  rw [show l ++ two xs = l ++ (⟨#[32, 32]⟩ : ByteArray).data.toList ++ joinL xs ++ [10] by simp [two, sp2]]
  exact h
theorem itoa_le (n : Int) (h0 : -9223372036854775808 ≤ n) (h1 : n ≤ 9223372036854775807) : (Lib.itoa n).length ≤ 20 := itoa_len n h0 h1
set_option maxHeartbeats 4000000 in
theorem putEnd_jump (w0 : World) (B : Nat) (l : List UInt8) (x : Bk) (p : Pl) (w : World) (hW : Below w0.heap.size w0 w) (_hB0 : w0.heap.size ≤ B) (hx : x.Ok) (hP : Pow w0) (hB : Bd B l w) (hl : (l ++ endL x).length ≤ 1000000) (hf : x.fin = 0) :
    Calls Tryz.prog 22 #[.func (.func 16) #[] #[.pointer (some ⟨B, 0, none⟩)], .agg #[.slice p.oa x.ops.length p.oc, .int .i8 x.fin, .int .u8 x.a, .slice p.ba x.body.length p.bc, .int .i64 x.thn, .int .i64 x.els]] w fun e w' => e = .returned (.tuple #[]) ∧ Bd B (l ++ endL x) w' ∧ Kp B w w' := by
  rw [show endL x = two [jumpW, Lib.itoa x.thn] by simp [endL, hf]] at hl ⊢
  have ht := itoa_le x.thn hx.t0 hx.t1
  have HD : Hid (∀ W, Below w0.heap.size w0 W → Calls Tryz.prog 20 #[.int .i64 x.thn] W fun e w' => e = .returned (.string ⟨(Lib.itoa x.thn).toArray⟩) ∧ Below W.heap.size W w') := fun W h => showDigits_any x.thn W (hP.bl h) hx.t0 hx.t1
  have HPut : Hid (PutC B [jumpW, Lib.itoa x.thn]) := put_two B _ (by rw [join_cons, join_one]; simp; omega) (by simp)
  have hlt := hB.lt
  have hb0 : Below w.heap.size w (w.alloc (.cells #[.slice p.oa x.ops.length p.oc, .int .i8 x.fin, .int .u8 x.a, .slice p.ba x.body.length p.bc, .int .i64 x.thn, .int .i64 x.els] 43)) := (Below.refl _ _).alloc (Nat.le_refl _) _
  have HS : Hid (Es w0 w (w.alloc (.cells #[.slice p.oa x.ops.length p.oc, .int .i8 x.fin, .int .u8 x.a, .slice p.ba x.body.length p.bc, .int .i64 x.thn, .int .i64 x.els] 43)) B l w.heap.size #[.slice p.oa x.ops.length p.oc, .int .i8 x.fin, .int .u8 x.a, .slice p.ba x.body.length p.bc, .int .i64 x.thn, .int .i64 x.els]) := ⟨hB.up hb0, (Kp.refl _ _).up hb0 (Nat.le_of_lt hlt), Hp.new _ _ _, hW.trans (hb0.mono hW.size)⟩
  have HL : Hid (l.length ≤ 1000000) := by show _ ≤ _; rw [List.length_append] at hl; omega
  clear hW hP hB hl hb0 hx
  rw [hf] at HS ⊢
  generalize Lib.itoa x.thn = tt at *
  generalize x.thn = t at *
  generalize x.els = el at *
  generalize x.a = a at *
  go_enter Tryz.func22, Tryz.ntmps22
  go_wp2_with (first
    | (go_at_call 20; refine Calls.mono (HD.out _ HS.out.bl) ?_; rintro e w1 ⟨rfl, hb⟩; have HS1 : Hid _ := HS.out.up hb; have HN : Hid (w1.heap.size ≠ B) := (by have := HS1.out.bd.lt; show _ ≠ _; omega); clear hb HS)
    | (go_at_call 16; refine Calls.mono (HPut.out l _ w1.heap.size (HS1.out.bd.up ((Below.refl _ _).alloc (Nat.le_refl _) _)) (Hp.new w1 _ 9) HN.out HL.out) ?_; rintro e w2 ⟨rfl, hb, hk⟩; have HS2 : Hid (Bd B (l ++ two [jumpW, tt]) w2 ∧ Kp B w w2) := ⟨hb, (HS1.out.kp.up ((Below.refl _ _).alloc (Nat.le_refl _) _) (Nat.le_of_lt HS1.out.bd.lt)).trans hk⟩; clear hb hk))
  go_end0
  exact ⟨rfl, HS2.out.1, HS2.out.2⟩
set_option maxHeartbeats 4000000 in
theorem putEnd_halt (w0 : World) (B : Nat) (l : List UInt8) (x : Bk) (p : Pl) (w : World) (hW : Below w0.heap.size w0 w) (_hB0 : w0.heap.size ≤ B) (hx : x.Ok) (hP : Pow w0) (hB : Bd B l w) (hl : (l ++ endL x).length ≤ 1000000) (hf : x.fin = 2) :
    Calls Tryz.prog 22 #[.func (.func 16) #[] #[.pointer (some ⟨B, 0, none⟩)], .agg #[.slice p.oa x.ops.length p.oc, .int .i8 x.fin, .int .u8 x.a, .slice p.ba x.body.length p.bc, .int .i64 x.thn, .int .i64 x.els]] w fun e w' => e = .returned (.tuple #[]) ∧ Bd B (l ++ endL x) w' ∧ Kp B w w' := by
  rw [show endL x = two [haltW, 114 :: Lib.itoa x.a] by simp [endL, hf]] at hl ⊢
  have hra := itoa_le x.a (by have := hx.a0; omega) (by have := hx.a1; omega)
  have HR : Hid (∀ W, Below w0.heap.size w0 W → Calls Tryz.prog 36 #[.int .u8 x.a] W fun e w' => e = .returned (.string ⟨(114 :: Lib.itoa x.a).toArray⟩) ∧ Below W.heap.size W w') := fun W h => showRegister_any x.a W (hP.bl h) hx.a0 hx.a1
  have HPut : Hid (PutC B [haltW, 114 :: Lib.itoa x.a]) := put_two B _ (by rw [join_cons, join_one]; simp; omega) (by simp)
  have hlt := hB.lt
  have hb0 : Below w.heap.size w (w.alloc (.cells #[.slice p.oa x.ops.length p.oc, .int .i8 x.fin, .int .u8 x.a, .slice p.ba x.body.length p.bc, .int .i64 x.thn, .int .i64 x.els] 43)) := (Below.refl _ _).alloc (Nat.le_refl _) _
  have HS : Hid (Es w0 w (w.alloc (.cells #[.slice p.oa x.ops.length p.oc, .int .i8 x.fin, .int .u8 x.a, .slice p.ba x.body.length p.bc, .int .i64 x.thn, .int .i64 x.els] 43)) B l w.heap.size #[.slice p.oa x.ops.length p.oc, .int .i8 x.fin, .int .u8 x.a, .slice p.ba x.body.length p.bc, .int .i64 x.thn, .int .i64 x.els]) := ⟨hB.up hb0, (Kp.refl _ _).up hb0 (Nat.le_of_lt hlt), Hp.new _ _ _, hW.trans (hb0.mono hW.size)⟩
  have HL : Hid (l.length ≤ 1000000) := by show _ ≤ _; rw [List.length_append] at hl; omega
  clear hW hP hB hl hb0 hx
  rw [hf] at HS ⊢
  generalize Lib.itoa x.a = tt at *
  generalize x.thn = t at *
  generalize x.els = el at *
  generalize x.a = a at *
  go_enter Tryz.func22, Tryz.ntmps22
  go_wp2_with (first
    | (go_at_call 36; refine Calls.mono (HR.out _ HS.out.bl) ?_; rintro e w1 ⟨rfl, hb⟩; have HS1 : Hid _ := HS.out.up hb; have HN : Hid (w1.heap.size ≠ B) := (by have := HS1.out.bd.lt; show _ ≠ _; omega); clear hb HS)
    | (go_at_call 16; refine Calls.mono (HPut.out l _ w1.heap.size (HS1.out.bd.up ((Below.refl _ _).alloc (Nat.le_refl _) _)) (Hp.new w1 _ 9) HN.out HL.out) ?_; rintro e w2 ⟨rfl, hb, hk⟩; have HS2 : Hid (Bd B (l ++ two [haltW, 114 :: tt]) w2 ∧ Kp B w w2) := ⟨hb, (HS1.out.kp.up ((Below.refl _ _).alloc (Nat.le_refl _) _) (Nat.le_of_lt HS1.out.bd.lt)).trans hk⟩; clear hb hk))
  go_end0
  exact ⟨rfl, HS2.out.1, HS2.out.2⟩
end Go.Proofs.YthjpddjfckdefaaGreatDoor.Op
