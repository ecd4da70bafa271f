/- What show's putEnd puts of a loop: read off the program by the walk. Conditions: the block's lists lie in memory; the table of powers lies there as the library lays it. -/
import Derived.Test.YthjpddjfckdefaaGreatDoorSe
namespace Go.Proofs.YthjpddjfckdefaaGreatDoor.Op
open Go.ChangeShapes Go.WideShapes Go.ChangeAt Go.RowKit
set_option maxRecDepth 20000

set_option maxHeartbeats 4000000 in
theorem putEnd_loop (w0 : World) (B : Nat) (l : List UInt8) (x : Bk) (p : Pl) (w : World) (hW : Below w0.heap.size w0 w) (hB0 : w0.heap.size ≤ B) (hx : x.Ok) (hP : Pow w0) (hB : Bd B l w) (hl : (l ++ endL x).length ≤ 1000000) (hf : x.fin = 3) (hO : OpsAt w0 p.ba x.body) (hok : ∀ o ∈ x.body, okO o = true) :
    Calls Tryz.prog 22 #[.func (.func 16) #[] #[.pointer (some ⟨B, 0, none⟩)], .agg #[.slice p.oa x.ops.length p.oc, .int .i8 x.fin, .int .u8 x.a, .slice p.ba x.body.length p.bc, .int .i64 x.thn, .int .i64 x.els]] w fun e w' => e = .returned (.tuple #[]) ∧ Bd B (l ++ endL x) w' ∧ Kp B w w' := by
  rw [show endL x = two [loopW, 114 :: Lib.itoa x.a, [123]] ++ linesL sp4 x.body ++ two [[125]] ++ two [jumpW, Lib.itoa x.thn] by simp [endL, hf]] at hl ⊢
  have ht := itoa_le x.thn hx.t0 hx.t1
  have hel := itoa_le x.els hx.e0 hx.e1
  have hra := itoa_le x.a (by have := hx.a0; omega) (by have := hx.a1; omega)
  have HR : Hid (∀ W, Below w0.heap.size w0 W → Calls Tryz.prog 36 #[.int .u8 x.a] W fun e w' => e = .returned (.string ⟨(114 :: Lib.itoa x.a).toArray⟩) ∧ Below W.heap.size W w') := fun W h => showRegister_any x.a W (hP.bl h) hx.a0 hx.a1
  have HD : Hid (∀ W, Below w0.heap.size w0 W → Calls Tryz.prog 20 #[.int .i64 x.thn] W fun e w' => e = .returned (.string ⟨(Lib.itoa x.thn).toArray⟩) ∧ Below W.heap.size W w') := fun W h => showDigits_any x.thn W (hP.bl h) hx.t0 hx.t1
  have hlen := hl
  simp only [List.length_append] at hlen
  have H1 : Hid (PutC B [loopW, 114 :: Lib.itoa x.a, [123]]) := put_two B _ (by rw [join_cons, join_cons, join_one]; simp; omega) (by simp)
  have H2 : Hid (∀ W, Below w0.heap.size w0 W → Bd B (l ++ two [loopW, 114 :: Lib.itoa x.a, [123]]) W → Calls Tryz.prog 21 #[.func (.func 16) #[] #[.pointer (some ⟨B, 0, none⟩)], .string ⟨#[32, 32, 32, 32]⟩, .slice p.ba x.body.length p.bc] W fun e w' => e = .returned (.tuple #[]) ∧ Bd B (l ++ two [loopW, 114 :: Lib.itoa x.a, [123]] ++ linesL sp4 x.body) w' ∧ Kp B W w') := fun W hb hB => putOps_any w0 B _ ⟨#[32, 32, 32, 32]⟩ p.ba p.bc x.body W hb hB0 hO hP hok hB (by simp only [List.length_append]; show _ + (linesL sp4 x.body).length ≤ _; omega) (by decide)
  have H3 : Hid (PutC B [[125]]) := put_two B _ (by rw [join_one]; simp) (by simp)
  have H4 : Hid (PutC B [jumpW, Lib.itoa x.thn]) := put_two B _ (by rw [join_cons, join_one]; simp; omega) (by simp)
  have hlt := hB.lt
  have hb0 : Below w.heap.size w (w.alloc (.cells #[.slice p.oa x.ops.length p.oc, .int .i8 x.fin, .int .u8 x.a, .slice p.ba x.body.length p.bc, .int .i64 x.thn, .int .i64 x.els] 43)) := (Below.refl _ _).alloc (Nat.le_refl _) _
  have HS : Hid (Es w0 w (w.alloc (.cells #[.slice p.oa x.ops.length p.oc, .int .i8 x.fin, .int .u8 x.a, .slice p.ba x.body.length p.bc, .int .i64 x.thn, .int .i64 x.els] 43)) B l w.heap.size #[.slice p.oa x.ops.length p.oc, .int .i8 x.fin, .int .u8 x.a, .slice p.ba x.body.length p.bc, .int .i64 x.thn, .int .i64 x.els]) := ⟨hB.up hb0, (Kp.refl _ _).up hb0 (Nat.le_of_lt hlt), Hp.new _ _ _, hW.trans (hb0.mono hW.size)⟩
  have HL : Hid (l.length ≤ 1000000) := by show _ ≤ _; rw [List.length_append] at hl; omega
  have hq : w.heap.size ≠ B := by omega
  have HL1 : Hid ((l ++ two [loopW, 114 :: Lib.itoa x.a, [123]] ++ linesL sp4 x.body).length ≤ 1000000) := by show _ ≤ _; simp only [List.length_append]; omega
  have HL2 : Hid ((l ++ two [loopW, 114 :: Lib.itoa x.a, [123]] ++ linesL sp4 x.body ++ two [[125]]).length ≤ 1000000) := by show _ ≤ _; simp only [List.length_append]; omega
  rw [← List.append_assoc, ← List.append_assoc, ← List.append_assoc]
  clear hW hP hB hl hb0 hx ht hel hra hO hok hlen
  rw [hf] at HS ⊢
  generalize linesL sp4 x.body = e2 at *
  generalize Lib.itoa x.a = ta at *
  generalize Lib.itoa x.thn = tt at *
  generalize x.thn = t at *
  generalize x.els = el at *
  generalize x.a = a at *
  go_enter Tryz.func22, Tryz.ntmps22
  go_wp2_with (first
    | (go_at_call 36; refine Calls.mono (HR.out _ HS.out.bl) ?_; rintro e w1 ⟨rfl, hb⟩; have HS1 : Hid _ := HS.out.up hb; have HN1 : Hid (w1.heap.size ≠ B) := (by have := HS1.out.bd.lt; show _ ≠ _; omega); clear hb HS; have HS1a : Hid _ := HS1.out.up ((Below.refl _ _).alloc (Nat.le_refl _) (.cells #[.string ⟨#[108, 111, 111, 112]⟩, .string ⟨(114 :: ta).toArray⟩, .string ⟨#[123]⟩] 9)))
    | (go_at_call_of 16 (Value.slice (some ⟨w1.heap.size, 0, none⟩) 3 3); refine Calls.mono (H1.out l _ w1.heap.size HS1a.out.bd (Hp.new w1 _ 9) HN1.out HL.out) ?_; rintro e w2 ⟨rfl, hb, hk⟩; have HS2 : Hid (Es w0 w w2 B (l ++ two [loopW, 114 :: ta, [123]]) w.heap.size _) := HS1a.out.put hb hk hq hB0; clear hb hk HS1a HS1; have c3 := HS2.out.hp.cell 3 _ rfl)
    | (go_at_call 21; refine Calls.mono (H2.out _ HS2.out.bl HS2.out.bd) ?_; rintro e w3 ⟨rfl, hb, hk⟩; have HS3 : Hid (Es w0 w w3 B (l ++ two [loopW, 114 :: ta, [123]] ++ e2) w.heap.size _) := HS2.out.put hb hk hq hB0; clear hb hk HS2 c3; have HN3 : Hid (w3.heap.size ≠ B) := (by have := HS3.out.bd.lt; show _ ≠ _; omega); have HS3a : Hid _ := HS3.out.up ((Below.refl _ _).alloc (Nat.le_refl _) (.cells #[.string ⟨#[125]⟩] 9)))
    | (go_at_call_of 16 (Value.slice (some ⟨w3.heap.size, 0, none⟩) 1 1); refine Calls.mono (H3.out _ _ w3.heap.size HS3a.out.bd (Hp.new w3 _ 9) HN3.out HL1.out) ?_; rintro e w4 ⟨rfl, hb, hk⟩; have HS4 : Hid (Es w0 w w4 B (l ++ two [loopW, 114 :: ta, [123]] ++ e2 ++ two [[125]]) w.heap.size _) := HS3a.out.put hb hk hq hB0; clear hb hk HS3a HS3; have c4 := HS4.out.hp.cell 4 _ rfl)
    | (go_at_call 20; refine Calls.mono (HD.out _ HS4.out.bl) ?_; rintro e w5 ⟨rfl, hb⟩; have HS5 : Hid _ := HS4.out.up hb; have HN5 : Hid (w5.heap.size ≠ B) := (by have := HS5.out.bd.lt; show _ ≠ _; omega); clear hb HS4 c4; have HS5a : Hid _ := HS5.out.up ((Below.refl _ _).alloc (Nat.le_refl _) (.cells #[.string ⟨#[106, 117, 109, 112]⟩, .string ⟨tt.toArray⟩] 9)))
    | (go_at_call_of 16 (Value.slice (some ⟨w5.heap.size, 0, none⟩) 2 2); refine Calls.mono (H4.out _ _ w5.heap.size HS5a.out.bd (Hp.new w5 _ 9) HN5.out HL2.out) ?_; rintro e w6 ⟨rfl, hb, hk⟩; have HS6 : Hid (Es w0 w w6 B (l ++ two [loopW, 114 :: ta, [123]] ++ e2 ++ two [[125]] ++ two [jumpW, tt]) w.heap.size _) := HS5a.out.put hb hk hq hB0; clear hb hk HS5a HS5))
  go_end0
  exact ⟨rfl, HS6.out.bd, HS6.out.kp⟩
end Go.Proofs.YthjpddjfckdefaaGreatDoor.Op
