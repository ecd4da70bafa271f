/- What show's putEnd puts of a branch: read off the program by the walk. Conditions: the table of powers lies in memory as the library lays it. -/
import Derived.Test.YthjpddjfckdefaaGreatDoorSe
namespace Go.Proofs.YthjpddjfckdefaaGreatDoor.Op
open Go.ChangeShapes Go.WideShapes Go.ChangeAt Go.RowKit
set_option maxRecDepth 20000

set_option maxHeartbeats 4000000 in
theorem putEnd_branch (w0 : World) (B : Nat) (l : List UInt8) (x : Bk) (p : Pl) (w : World) (hW : Below w0.heap.size w0 w) (_hB0 : w0.heap.size ≤ B) (hx : x.Ok) (hP : Pow w0) (hB : Bd B l w) (hl : (l ++ endL x).length ≤ 1000000) (hf : x.fin = 1) :
    Calls Tryz.prog 22 #[.func (.func 16) #[] #[.pointer (some ⟨B, 0, none⟩)], .agg #[.slice p.oa x.ops.length p.oc, .int .i8 x.fin, .int .u8 x.a, .slice p.ba x.body.length p.bc, .int .i64 x.thn, .int .i64 x.els]] w fun e w' => e = .returned (.tuple #[]) ∧ Bd B (l ++ endL x) w' ∧ Kp B w w' := by
  rw [show endL x = two [branchW, 114 :: Lib.itoa x.a, Lib.itoa x.thn, Lib.itoa x.els] by simp [endL, hf]] at hl ⊢
  have ht := itoa_le x.thn hx.t0 hx.t1
  have hel := itoa_le x.els hx.e0 hx.e1
  have hra := itoa_le x.a (by have := hx.a0; omega) (by have := hx.a1; omega)
  have HR : Hid (∀ W, Below w0.heap.size w0 W → Calls Tryz.prog 36 #[.int .u8 x.a] W fun e w' => e = .returned (.string ⟨(114 :: Lib.itoa x.a).toArray⟩) ∧ Below W.heap.size W w') := fun W h => showRegister_any x.a W (hP.bl h) hx.a0 hx.a1
  have HD : Hid (∀ W, Below w0.heap.size w0 W → Calls Tryz.prog 20 #[.int .i64 x.thn] W fun e w' => e = .returned (.string ⟨(Lib.itoa x.thn).toArray⟩) ∧ Below W.heap.size W w') := fun W h => showDigits_any x.thn W (hP.bl h) hx.t0 hx.t1
  have HE : Hid (∀ W, Below w0.heap.size w0 W → Calls Tryz.prog 20 #[.int .i64 x.els] W fun e w' => e = .returned (.string ⟨(Lib.itoa x.els).toArray⟩) ∧ Below W.heap.size W w') := fun W h => showDigits_any x.els W (hP.bl h) hx.e0 hx.e1
  have HPut : Hid (PutC B [branchW, 114 :: Lib.itoa x.a, Lib.itoa x.thn, Lib.itoa x.els]) := put_two B _ (by rw [join_cons, join_cons, join_cons, join_one]; simp; omega) (by simp)
  have hlt := hB.lt
  have hb0 : Below w.heap.size w (w.alloc (.cells #[.slice p.oa x.ops.length p.oc, .int .i8 x.fin, .int .u8 x.a, .slice p.ba x.body.length p.bc, .int .i64 x.thn, .int .i64 x.els] 43)) := (Below.refl _ _).alloc (Nat.le_refl _) _
  have HS : Hid (Es w0 w (w.alloc (.cells #[.slice p.oa x.ops.length p.oc, .int .i8 x.fin, .int .u8 x.a, .slice p.ba x.body.length p.bc, .int .i64 x.thn, .int .i64 x.els] 43)) B l w.heap.size #[.slice p.oa x.ops.length p.oc, .int .i8 x.fin, .int .u8 x.a, .slice p.ba x.body.length p.bc, .int .i64 x.thn, .int .i64 x.els]) := ⟨hB.up hb0, (Kp.refl _ _).up hb0 (Nat.le_of_lt hlt), Hp.new _ _ _, hW.trans (hb0.mono hW.size)⟩
  have HL : Hid (l.length ≤ 1000000) := by show _ ≤ _; rw [List.length_append] at hl; omega
  clear hW hP hB hl hb0 hx ht hel hra
  rw [hf] at HS ⊢
  generalize Lib.itoa x.a = ta at *
  generalize Lib.itoa x.thn = tt at *
  generalize Lib.itoa x.els = te at *
  generalize x.thn = t at *
  generalize x.els = el at *
  generalize x.a = a at *
  have c2 := HS.out.hp.cell 2 _ rfl
  have c4 := HS.out.hp.cell 4 _ rfl
  have c5 := HS.out.hp.cell 5 _ rfl
  go_enter Tryz.func22, Tryz.ntmps22
  go_wp2
  generalize hV : w.alloc (.cells #[.slice p.oa x.ops.length p.oc, .int .i8 1, .int .u8 a, .slice p.ba x.body.length p.bc, .int .i64 t, .int .i64 el] 43) = V at *
  clear hV
  go_region_with (first
    | (go_at_call 36; refine Calls.mono (HR.out _ ?_) ?_; (first | exact HS.out.bl | exact HS.out.drew.bl); rintro e u1 ⟨rfl, hb⟩; have HT : Hid (Es w0 w u1 B l w.heap.size #[.slice p.oa x.ops.length p.oc, .int .i8 1, .int .u8 a, .slice p.ba x.body.length p.bc, .int .i64 t, .int .i64 el]) := (by first | exact HS.out.up hb | exact HS.out.drew.up hb); clear HS hb c2 c4 c5; have HS : Hid _ := HT.out; clear HT; have c2 := HS.out.hp.cell 2 _ rfl; have c4 := HS.out.hp.cell 4 _ rfl; have c5 := HS.out.hp.cell 5 _ rfl)
    | (go_at_call_of 20 (Value.int .i64 t); refine Calls.mono (HD.out _ ?_) ?_; (first | exact HS.out.bl | exact HS.out.drew.bl); rintro e u1 ⟨rfl, hb⟩; have HT : Hid (Es w0 w u1 B l w.heap.size #[.slice p.oa x.ops.length p.oc, .int .i8 1, .int .u8 a, .slice p.ba x.body.length p.bc, .int .i64 t, .int .i64 el]) := (by first | exact HS.out.up hb | exact HS.out.drew.up hb); clear HS hb c2 c4 c5; have HS : Hid _ := HT.out; clear HT; have c2 := HS.out.hp.cell 2 _ rfl; have c4 := HS.out.hp.cell 4 _ rfl; have c5 := HS.out.hp.cell 5 _ rfl)
    | (go_at_call_of 20 (Value.int .i64 el); refine Calls.mono (HE.out _ ?_) ?_; (first | exact HS.out.bl | exact HS.out.drew.bl); rintro e u1 ⟨rfl, hb⟩; have HT : Hid (Es w0 w u1 B l w.heap.size #[.slice p.oa x.ops.length p.oc, .int .i8 1, .int .u8 a, .slice p.ba x.body.length p.bc, .int .i64 t, .int .i64 el]) := (by first | exact HS.out.up hb | exact HS.out.drew.up hb); clear HS hb c2 c4 c5; have HS : Hid _ := HT.out; clear HT; have c2 := HS.out.hp.cell 2 _ rfl; have c4 := HS.out.hp.cell 4 _ rfl; have c5 := HS.out.hp.cell 5 _ rfl)
    | (go_at_call 16; refine Calls.mono (HPut.out l _ u1.heap.size (HS.out.bd.up ((Below.refl _ _).alloc (Nat.le_refl _) _)) (Hp.new u1 _ 9) (by have := HS.out.bd.lt; omega) HL.out) ?_; rintro e w2 ⟨rfl, hb, hk⟩; have HS2 : Hid (Bd B (l ++ two [branchW, 114 :: ta, tt, te]) w2 ∧ Kp B w w2) := ⟨hb, (HS.out.kp.up ((Below.refl _ _).alloc (Nat.le_refl _) _) (Nat.le_of_lt HS.out.bd.lt)).trans hk⟩; clear hb hk))
  all_goals go_wp2
  all_goals go_end0
  all_goals exact ⟨rfl, HS2.out.1, HS2.out.2⟩
end Go.Proofs.YthjpddjfckdefaaGreatDoor.Op
