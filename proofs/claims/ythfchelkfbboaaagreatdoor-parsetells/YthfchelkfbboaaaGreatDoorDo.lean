/- The document's reader: what op answers of a line: read off the program by the walk. Conditions: the reader and the line lie in memory. -/
import Derived.Test.YthfchelkfbboaaaGreatDoorDb
namespace Go.Proofs.YthfchelkfbboaaaGreatDoor.Pr
open Go.ChangeShapes Go.WideShapes Go.ChangeAt Go.RowKit
open _root_.Go.Proofs.YthfchelkfbboaaaGreatDoor.Op
set_option maxRecDepth 20000

/-- An operation's line under way: the boxes of the line, of the row, of the operation. -/
structure Oy (w V : World) (r : Nat) (p : Pw) (l : Ln) (lv : Value) (nx m rb ob : Nat) (fl : Option Wd') (row cs : Array Value) : Prop where
  d : Dr V r lv nx m fl
  lb : At V w.heap.size #[.slice p.1 l.ws.length p.2, .int .i64 (l.en : Int)]
  res : At V (w.heap.size + 1) #[.int .i8 0, .int .u8 0, .int .u8 0, .int .u8 0, .int .i64 0]
  rbx : At V rb row
  obx : At V ob cs
  dw : DW V r p l.ws
  f : Fr (One r) w V
  r1 : r < w.heap.size
  r2 : w.heap.size + 1 < rb
  r3 : rb < ob
theorem Oy.go {w V V' : World} {r : Nat} {p : Pw} {l : Ln} {lv : Value} {nx m rb ob : Nat} {fl fl' : Option Wd'} {row cs : Array Value} (h : Oy w V r p l lv nx m rb ob fl row cs) (hd : Dr V' r lv nx m fl') (hf : Fr (One r) V V') : Oy w V' r p l lv nx m rb ob fl' row cs :=
  have h1 := h.r1
  have h2 := h.r2
  have h3 := h.r3
  ⟨hd, at_fr h.lb hf (by show ¬ _ = _; omega), at_fr h.res hf (by show ¬ _ = _; omega), at_fr h.rbx hf (by show ¬ _ = _; omega), at_fr h.obx hf (by show ¬ _ = _; omega), h.dw.fr hf h.d.lt, h.f.same hf, h1, h2, h3⟩
theorem Oy.set {w V : World} {r : Nat} {p : Pw} {l : Ln} {lv : Value} {nx m rb ob : Nat} {fl : Option Wd'} {row cs : Array Value} (h : Oy w V r p l lv nx m rb ob fl row cs) (j : Nat) (hj : j < cs.size) (v : Value) : Oy w (V.setCell ⟨ob, j, none⟩ v) r p l lv nx m rb ob fl row (cs.setIfInBounds j v) :=
  have h1 := h.r1
  have h2 := h.r2
  have h3 := h.r3
  have hg : Fr (One ob) V (V.setCell ⟨ob, j, none⟩ v) := (Fr.refl (One ob) V).setCell (.inr rfl) _ _
  ⟨h.d.fr hg (by omega), at_fr h.lb hg (by show ¬ _ = _; omega), at_fr h.res hg (by show ¬ _ = _; omega), at_fr h.rbx hg (by show ¬ _ = _; omega), at_set h.obx hj v, ⟨h.dw.len, fun i hi => by
    obtain ⟨b, e, z, k1, k2⟩ := h.dw.is i hi
    have hx : ¬ One ob b := by show ¬ _ = _; omega
    have hr := h.d.lt
    exact ⟨b, e, z, by rw [hg.cell (by omega) hx]; exact k1, by rw [hg.cell (by omega) hx]; exact k2⟩⟩, h.f.new hg (by omega), h1, h2, h3⟩
/-- The words that an operation's row asks for, from the second on. -/
def opAt (d : Int) (k : K) (l : Ln) : R O :=
  (if k.D then regAt l 1 else .ok 0).bind fun x =>
  (if k.A then regAt l (if k.D then 2 else 1) else .ok 0).bind fun y =>
  (if k.B then regAt l ((if k.D then 2 else 1) + (if k.A then 1 else 0)) else .ok 0).bind fun z =>
  (if k.I then numAt l ((if k.D then 2 else 1) + (if k.A then 1 else 0) + (if k.B then 1 else 0)) else .ok 0).bind fun v =>
  (endsR l ((if k.D then 2 else 1) + (if k.A then 1 else 0) + (if k.B then 1 else 0) + (if k.I then 1 else 0))).bind fun _ => .ok ⟨d, x, y, z, v⟩
theorem guard_st {α β : Type} (x : R α) (f : R β) : guardR (stF x) f = x.bind fun _ => f := by cases x <;> rfl
theorem guard_bind {α β : Type} (fl : Option Wd') (x : R α) (f : α → R β) : guardR fl (x.bind f) = (guardR fl x).bind f := by cases fl <;> rfl
theorem bind_assoc {α β γ : Type} (x : R α) (f : α → R β) (g : β → R γ) : (x.bind f).bind g = x.bind fun a => (f a).bind g := by cases x <;> rfl
abbrev DRegC (r i : Nat) (p : Pw) (l : Ln) (lv : Value) (nx m : Nat) : Prop := ∀ (fl : Option Wd') (W : World), Dr W r lv nx m fl → DW W r p l.ws → Calls Tryz.prog 33 #[.pointer (some ⟨r, 0, none⟩), .agg #[.slice p.1 l.ws.length p.2, .int .i64 (l.en : Int)], .int .i64 i] W fun e w' => ∃ v : Int, e = .returned (.int .u8 v) ∧ (∀ v0, guardR fl (regAt l i) = .ok v0 → v = v0) ∧ Dr w' r lv nx m (stF (guardR fl (regAt l i))) ∧ Fr (One r) W w'
abbrev NumC' (r i : Nat) (p : Pw) (l : Ln) (lv : Value) (nx m : Nat) : Prop := ∀ (fl : Option Wd') (W : World), Dr W r lv nx m fl → DW W r p l.ws → Calls Tryz.prog 32 #[.pointer (some ⟨r, 0, none⟩), .agg #[.slice p.1 l.ws.length p.2, .int .i64 (l.en : Int)], .int .i64 i] W fun e w' => ∃ v : Int, e = .returned (.int .i64 v) ∧ (∀ v0, guardR fl (numAt l i) = .ok v0 → v = v0) ∧ Dr w' r lv nx m (stF (guardR fl (numAt l i))) ∧ Fr (One r) W w'
abbrev EndC' (r n : Nat) (p : Pw) (l : Ln) (lv : Value) (nx m : Nat) : Prop := ∀ (fl : Option Wd') (W : World), Dr W r lv nx m fl → DW W r p l.ws → Calls Tryz.prog 30 #[.pointer (some ⟨r, 0, none⟩), .agg #[.slice p.1 l.ws.length p.2, .int .i64 (l.en : Int)], .int .i64 n] W fun e w' => e = .returned (.tuple #[]) ∧ Dr w' r lv nx m (stF (guardR fl (endsR l n))) ∧ Fr (One r) W w'
theorem bind_is {α β : Type} {x : R α} {f : α → R β} {b : β} (h : x.bind f = .ok b) : ∃ a, x = .ok a ∧ f a = .ok b := by
  cases x with
  | ok a => exact ⟨a, rfl, h⟩
  | no e => cases h
def OpPost (r : Nat) (lv : Value) (nx m : Nat) (res : R O) (w : World) (e : Ending) (w' : World) : Prop :=
  ∃ o : O, e = .returned (.agg #[.int .i8 o.op, .int .u8 o.d, .int .u8 o.a, .int .u8 o.b, .int .i64 o.im]) ∧ (∀ o0, res = .ok o0 → o = o0) ∧ Dr w' r lv nx m (stF res) ∧ Fr (One r) w w'
theorem Oy.start {w w1 : World} {r : Nat} {p : Pw} {l : Ln} {lv : Value} {nx m : Nat} {fl : Option Wd'} (h : Dr w r lv nx m fl) (hw : DW w r p l.ws) (hb : Below ((w.alloc (.cells #[.slice p.1 l.ws.length p.2, .int .i64 (l.en : Int)] 45)).alloc (.cells #[.int .i8 0, .int .u8 0, .int .u8 0, .int .u8 0, .int .i64 0] 67)).heap.size ((w.alloc (.cells #[.slice p.1 l.ws.length p.2, .int .i64 (l.en : Int)] 45)).alloc (.cells #[.int .i8 0, .int .u8 0, .int .u8 0, .int .u8 0, .int .i64 0] 67)) w1) (row : Array Value) (d : Int) : Oy w ((w1.alloc (.cells row 146)).alloc (.cells #[.int .i8 d, .int .u8 0, .int .u8 0, .int .u8 0, .int .i64 0] 67)) r p l lv nx m w1.heap.size (w1.heap.size + 1) fl row #[.int .i8 d, .int .u8 0, .int .u8 0, .int .u8 0, .int .i64 0] := by
  obtain ⟨a1, a2, hb0, _, hz⟩ := two_new w _ _ 45 67 hb
  have a3 := At.new (w1.alloc (.cells row 146)) #[.int .i8 d, .int .u8 0, .int .u8 0, .int .u8 0, .int .i64 0] 67
  rw [World.size_alloc] at a3
  have hs := a2.lt
  have hbw : Below w.heap.size w ((w1.alloc (.cells row 146)).alloc (.cells #[.int .i8 d, .int .u8 0, .int .u8 0, .int .u8 0, .int .i64 0] 67)) := (hb0.alloc hb0.size _).alloc (by have := hb0.size; simp; omega) _
  exact ⟨h.below hbw, (a1.alloc _).alloc _, (a2.alloc _).alloc _, (At.new w1 row 146).alloc _, a3, hw.up hbw h.lt, Fr.of hbw, h.lt, by omega, by omega⟩

theorem opst_s9 (fl : Option Wd') (d : Int) (nm : List UInt8) (cls : Int) (nn : Bool) (l : Ln) : stF (guardR (stF (guardR (stF (guardR fl (regAt l 1))) (numAt l 2))) (endsR l 3)) = stF (guardR fl (opAt d ⟨nm, cls, true, false, false, nn, true⟩ l)) := by
  simp only [opAt, Bool.false_eq_true, if_true, if_false]
  cases fl with
  | some f => rfl
  | none =>
    simp only [guardR]
    cases regAt l 1 <;> cases numAt l 2 <;> simp [stF, R.bind] <;> (cases endsR l 3 <;> rfl)
theorem opv_s9 (fl : Option Wd') (d : Int) (nm : List UInt8) (cls : Int) (nn : Bool) (l : Ln) (z0 z1 : Int) (h0 : ∀ v0, guardR fl (regAt l 1) = .ok v0 → z0 = v0) (h1 : ∀ v0, guardR (stF (guardR fl (regAt l 1))) (numAt l 2) = .ok v0 → z1 = v0) : ∀ o0, guardR fl (opAt d ⟨nm, cls, true, false, false, nn, true⟩ l) = .ok o0 → (⟨d, z0, 0, 0, z1⟩ : O) = o0 := by
  intro o0 ho
  simp only [opAt, Bool.false_eq_true, if_true, if_false] at ho
  cases fl with
  | some f => cases ho
  | none =>
    simp only [guardR] at ho h0 h1
    try simp only [R.bind_ok] at ho
    obtain ⟨a0, e0, ho⟩ := bind_is ho
    try simp only [R.bind_ok] at ho
    obtain ⟨a1, e1, ho⟩ := bind_is ho
    try simp only [R.bind_ok] at ho
    obtain ⟨_, _, ho⟩ := bind_is ho
    cases ho
    skip
    have := h0 _ e0
    subst this
    rw [e0] at h1
    have := h1 _ e1
    subst this
    rfl

set_option maxHeartbeats 4000000 in
theorem dop_s9 (r : Nat) (p : Pw) (l : Ln) (lv : Value) (nx m : Nat) (fl : Option Wd') (d : Int) (nm : List UInt8) (cls : Int) (nn : Bool) (w : World) (h : Dr w r lv nx m fl) (hw : DW w r p l.ws) (hsh : ShortW l)
    (hO : ∀ W, Calls Tryz.prog 71 #[.int .i8 d] W fun e w' => e = .returned (.tuple #[.agg #[.string ⟨nm.toArray⟩, .int .i64 cls, .bool true, .bool false, .bool false, .bool nn, .bool true], .bool true]) ∧ Below W.heap.size W w') :
    Calls Tryz.prog 51 #[.pointer (some ⟨r, 0, none⟩), .agg #[.slice p.1 l.ws.length p.2, .int .i64 (l.en : Int)], .int .i8 d] w (OpPost r lv nx m (guardR fl (opAt d ⟨nm, cls, true, false, false, nn, true⟩ l)) w) := by
  have HO : Hid _ := hO ((w.alloc (.cells #[.slice p.1 l.ws.length p.2, .int .i64 (l.en : Int)] 45)).alloc (.cells #[.int .i8 0, .int .u8 0, .int .u8 0, .int .u8 0, .int .i64 0] 67))
  have HS : Hid (∀ w1 row, Below ((w.alloc (.cells #[.slice p.1 l.ws.length p.2, .int .i64 (l.en : Int)] 45)).alloc (.cells #[.int .i8 0, .int .u8 0, .int .u8 0, .int .u8 0, .int .i64 0] 67)).heap.size ((w.alloc (.cells #[.slice p.1 l.ws.length p.2, .int .i64 (l.en : Int)] 45)).alloc (.cells #[.int .i8 0, .int .u8 0, .int .u8 0, .int .u8 0, .int .i64 0] 67)) w1 → Oy w ((w1.alloc (.cells row 146)).alloc (.cells #[.int .i8 d, .int .u8 0, .int .u8 0, .int .u8 0, .int .i64 0] 67)) r p l lv nx m w1.heap.size (w1.heap.size + 1) fl row #[.int .i8 d, .int .u8 0, .int .u8 0, .int .u8 0, .int .i64 0]) := fun w1 row hb => Oy.start h hw hb row d
  have HD : Hid (DRegC r 1 p l lv nx m) := fun fl W h1 h2 => dreg_any r 1 p l lv nx m fl W h1 h2 hsh
  have HI : Hid (NumC' r 2 p l lv nx m) := fun fl W h1 h2 => dnum_any r 2 p l lv nx m fl W h1 h2 hsh
  have HEn : Hid (EndC' r 3 p l lv nx m) := fun fl W h1 h2 => dend_any r 3 p l lv nx m fl W h1 h2
  have HP1 : Hid _ := opst_s9 fl d nm cls nn l
  have HP2 : Hid (∀ z0 z1, _) := opv_s9 fl d nm cls nn l
  have hr := h.lt
  clear h hw hsh hO
  generalize guardR fl (opAt d ⟨nm, cls, true, false, false, nn, true⟩ l) = RES at *
  go_enter Tryz.func51, Tryz.ntmps51
  go_wp2_with (first
    | (go_at_call 71; refine Calls.mono HO.out ?_; rintro e w1 ⟨rfl, hb⟩; have HY0 : Hid (Oy w ((w1.alloc (.cells #[.string ⟨nm.toArray⟩, .int .i64 cls, .bool true, .bool false, .bool false, .bool nn, .bool true] 146)).alloc (.cells #[.int .i8 d, .int .u8 0, .int .u8 0, .int .u8 0, .int .i64 0] 67)) r p l lv nx m w1.heap.size (w1.heap.size + 1) fl _ #[.int .i8 d, .int .u8 0, .int .u8 0, .int .u8 0, .int .i64 0]) := HS.out w1 _ hb; have q0 := HY0.out.lb.c 0 _ rfl; have q1 := HY0.out.lb.c 1 _ rfl; clear hb HO HS)
    | (go_at_call 33; refine Calls.mono (HD.out _ _ HY0.out.d HY0.out.dw) ?_; rintro e u0 ⟨z0, rfl, hv0, hd, hf⟩; have HZ0 : Hid _ := HY0.out.go hd hf; have HY1 : Hid (Oy w (u0.setCell ⟨w1.heap.size + 1, 1, none⟩ (.int .u8 z0)) r p l lv nx m w1.heap.size (w1.heap.size + 1) (stF (guardR fl (regAt l 1))) _ #[.int .i8 d, .int .u8 z0, .int .u8 0, .int .u8 0, .int .i64 0]) := HZ0.out.set 1 (by simp) _; have HE0 : Hid _ := hv0; clear q0 q1 hd hf hv0 HY0 HD; have q2 := HY1.out.lb.c 0 _ rfl; have q3 := HY1.out.lb.c 1 _ rfl; have ob0 := HZ0.out.obx.c 1 _ rfl; have of0 := HZ0.out.obx.f; have rw0 := HY1.out.rbx; have rA0 := rw0.c 3 _ rfl; have rB0 := rw0.c 4 _ rfl; have rI0 := rw0.c 6 _ rfl; clear rw0 HZ0)
    | (go_at_call 32; refine Calls.mono (HI.out _ _ HY1.out.d HY1.out.dw) ?_; rintro e u1 ⟨z1, rfl, hv1, hd, hf⟩; have HZ1 : Hid _ := HY1.out.go hd hf; have HY2 : Hid (Oy w (u1.setCell ⟨w1.heap.size + 1, 4, none⟩ (.int .i64 z1)) r p l lv nx m w1.heap.size (w1.heap.size + 1) (stF (guardR (stF (guardR fl (regAt l 1))) (numAt l 2))) _ #[.int .i8 d, .int .u8 z0, .int .u8 0, .int .u8 0, .int .i64 z1]) := HZ1.out.set 4 (by simp) _; have HE1 : Hid _ := hv1; clear q2 q3 hd hf hv1 HY1 HI; have q4 := HY2.out.lb.c 0 _ rfl; have q5 := HY2.out.lb.c 1 _ rfl; have ob1 := HZ1.out.obx.c 4 _ rfl; have of1 := HZ1.out.obx.f; have rw1 := HY2.out.rbx; have rA1 := rw1.c 3 _ rfl; have rB1 := rw1.c 4 _ rfl; have rI1 := rw1.c 6 _ rfl; clear rw1 HZ1)
    | (go_at_call 30; refine Calls.mono (HEn.out _ _ HY2.out.d HY2.out.dw) ?_; rintro e uE ⟨rfl, hd, hf⟩; have HX : Hid _ := HY2.out.go hd hf; clear q4 q5 hd hf HY2 HEn; have x0 := HX.out.obx.c 0 _ rfl; have x1 := HX.out.obx.c 1 _ rfl; have x2 := HX.out.obx.c 2 _ rfl; have x3 := HX.out.obx.c 3 _ rfl; have x4 := HX.out.obx.c 4 _ rfl; have y0 := HX.out.res.c 0 _ rfl; have y1 := HX.out.res.c 1 _ rfl; have y2 := HX.out.res.c 2 _ rfl; have y3 := HX.out.res.c 3 _ rfl; have y4 := HX.out.res.c 4 _ rfl; have yf := HX.out.res.f))
  have hx := HX.out
  have kk := (at_set (at_set (at_set (at_set (at_set hx.res (j := 0) (by simp) (.int .i8 d)) (j := 1) (by simp) (.int .u8 z0)) (j := 2) (by simp) (.int .u8 0)) (j := 3) (by simp) (.int .u8 0)) (j := 4) (by simp) (.int .i64 z1))
  have g0 : (((((uE.setCell ⟨w.heap.size + 1, 0, none⟩ (.int .i8 d)).setCell ⟨w.heap.size + 1, 1, none⟩ (.int .u8 z0)).setCell ⟨w.heap.size + 1, 2, none⟩ (.int .u8 0)).setCell ⟨w.heap.size + 1, 3, none⟩ (.int .u8 0)).setCell ⟨w.heap.size + 1, 4, none⟩ (.int .i64 z1)).cell? ⟨w.heap.size + 1, 0, none⟩ = some (.int .i8 d) := kk.c 0 _ rfl
  have g1 : (((((uE.setCell ⟨w.heap.size + 1, 0, none⟩ (.int .i8 d)).setCell ⟨w.heap.size + 1, 1, none⟩ (.int .u8 z0)).setCell ⟨w.heap.size + 1, 2, none⟩ (.int .u8 0)).setCell ⟨w.heap.size + 1, 3, none⟩ (.int .u8 0)).setCell ⟨w.heap.size + 1, 4, none⟩ (.int .i64 z1)).cell? ⟨w.heap.size + 1, 1, none⟩ = some (.int .u8 z0) := kk.c 1 _ rfl
  have g2 : (((((uE.setCell ⟨w.heap.size + 1, 0, none⟩ (.int .i8 d)).setCell ⟨w.heap.size + 1, 1, none⟩ (.int .u8 z0)).setCell ⟨w.heap.size + 1, 2, none⟩ (.int .u8 0)).setCell ⟨w.heap.size + 1, 3, none⟩ (.int .u8 0)).setCell ⟨w.heap.size + 1, 4, none⟩ (.int .i64 z1)).cell? ⟨w.heap.size + 1, 2, none⟩ = some (.int .u8 0) := kk.c 2 _ rfl
  have g3 : (((((uE.setCell ⟨w.heap.size + 1, 0, none⟩ (.int .i8 d)).setCell ⟨w.heap.size + 1, 1, none⟩ (.int .u8 z0)).setCell ⟨w.heap.size + 1, 2, none⟩ (.int .u8 0)).setCell ⟨w.heap.size + 1, 3, none⟩ (.int .u8 0)).setCell ⟨w.heap.size + 1, 4, none⟩ (.int .i64 z1)).cell? ⟨w.heap.size + 1, 3, none⟩ = some (.int .u8 0) := kk.c 3 _ rfl
  have g4 : (((((uE.setCell ⟨w.heap.size + 1, 0, none⟩ (.int .i8 d)).setCell ⟨w.heap.size + 1, 1, none⟩ (.int .u8 z0)).setCell ⟨w.heap.size + 1, 2, none⟩ (.int .u8 0)).setCell ⟨w.heap.size + 1, 3, none⟩ (.int .u8 0)).setCell ⟨w.heap.size + 1, 4, none⟩ (.int .i64 z1)).cell? ⟨w.heap.size + 1, 4, none⟩ = some (.int .i64 z1) := kk.c 4 _ rfl
  have hg : Fr (One (w.heap.size + 1)) uE (((((uE.setCell ⟨w.heap.size + 1, 0, none⟩ (.int .i8 d)).setCell ⟨w.heap.size + 1, 1, none⟩ (.int .u8 z0)).setCell ⟨w.heap.size + 1, 2, none⟩ (.int .u8 0)).setCell ⟨w.heap.size + 1, 3, none⟩ (.int .u8 0)).setCell ⟨w.heap.size + 1, 4, none⟩ (.int .i64 z1)) := ((((((Fr.refl (One (w.heap.size + 1)) uE).setCell (.inr rfl) _ _).setCell (.inr rfl) _ _).setCell (.inr rfl) _ _).setCell (.inr rfl) _ _).setCell (.inr rfl) _ _)
  refine bodyPost_ret (v := .agg #[.int .i8 d, .int .u8 z0, .int .u8 0, .int .u8 0, .int .i64 z1]) (by simp [results, Tryz.results51, go_sem, g0, g1, g2, g3, g4]) rfl ⟨⟨d, z0, 0, 0, z1⟩, rfl, HP2.out z0 z1 HE0.out HE1.out, ?_, hx.f.new hg (by omega)⟩
  rw [← HP1.out]
  exact hx.d.fr hg (by omega)

theorem opst_s7 (fl : Option Wd') (d : Int) (nm : List UInt8) (cls : Int) (nn : Bool) (l : Ln) : stF (guardR (stF (guardR (stF (guardR (stF (guardR fl (regAt l 1))) (regAt l 2))) (regAt l 3))) (endsR l 4)) = stF (guardR fl (opAt d ⟨nm, cls, true, true, true, nn, false⟩ l)) := by
  simp only [opAt, Bool.false_eq_true, if_true, if_false]
  cases fl with
  | some f => rfl
  | none =>
    simp only [guardR]
    cases regAt l 1 <;> cases regAt l 2 <;> cases regAt l 3 <;> simp [stF, R.bind] <;> (cases endsR l 4 <;> rfl)
theorem opv_s7 (fl : Option Wd') (d : Int) (nm : List UInt8) (cls : Int) (nn : Bool) (l : Ln) (z0 z1 z2 : Int) (h0 : ∀ v0, guardR fl (regAt l 1) = .ok v0 → z0 = v0) (h1 : ∀ v0, guardR (stF (guardR fl (regAt l 1))) (regAt l 2) = .ok v0 → z1 = v0) (h2 : ∀ v0, guardR (stF (guardR (stF (guardR fl (regAt l 1))) (regAt l 2))) (regAt l 3) = .ok v0 → z2 = v0) : ∀ o0, guardR fl (opAt d ⟨nm, cls, true, true, true, nn, false⟩ l) = .ok o0 → (⟨d, z0, z1, z2, 0⟩ : O) = o0 := by
  intro o0 ho
  simp only [opAt, Bool.false_eq_true, if_true, if_false] at ho
  cases fl with
  | some f => cases ho
  | none =>
    simp only [guardR] at ho h0 h1 h2
    try simp only [R.bind_ok] at ho
    obtain ⟨a0, e0, ho⟩ := bind_is ho
    try simp only [R.bind_ok] at ho
    obtain ⟨a1, e1, ho⟩ := bind_is ho
    try simp only [R.bind_ok] at ho
    obtain ⟨a2, e2, ho⟩ := bind_is ho
    try simp only [R.bind_ok] at ho
    obtain ⟨_, _, ho⟩ := bind_is ho
    cases ho
    skip
    have := h0 _ e0
    subst this
    rw [e0] at h1
    have := h1 _ e1
    subst this
    rw [e0, e1] at h2
    have := h2 _ e2
    subst this
    rfl

set_option maxHeartbeats 4000000 in
theorem dop_s7 (r : Nat) (p : Pw) (l : Ln) (lv : Value) (nx m : Nat) (fl : Option Wd') (d : Int) (nm : List UInt8) (cls : Int) (nn : Bool) (w : World) (h : Dr w r lv nx m fl) (hw : DW w r p l.ws) (hsh : ShortW l)
    (hO : ∀ W, Calls Tryz.prog 71 #[.int .i8 d] W fun e w' => e = .returned (.tuple #[.agg #[.string ⟨nm.toArray⟩, .int .i64 cls, .bool true, .bool true, .bool true, .bool nn, .bool false], .bool true]) ∧ Below W.heap.size W w') :
    Calls Tryz.prog 51 #[.pointer (some ⟨r, 0, none⟩), .agg #[.slice p.1 l.ws.length p.2, .int .i64 (l.en : Int)], .int .i8 d] w (OpPost r lv nx m (guardR fl (opAt d ⟨nm, cls, true, true, true, nn, false⟩ l)) w) := by
  have HO : Hid _ := hO ((w.alloc (.cells #[.slice p.1 l.ws.length p.2, .int .i64 (l.en : Int)] 45)).alloc (.cells #[.int .i8 0, .int .u8 0, .int .u8 0, .int .u8 0, .int .i64 0] 67))
  have HS : Hid (∀ w1 row, Below ((w.alloc (.cells #[.slice p.1 l.ws.length p.2, .int .i64 (l.en : Int)] 45)).alloc (.cells #[.int .i8 0, .int .u8 0, .int .u8 0, .int .u8 0, .int .i64 0] 67)).heap.size ((w.alloc (.cells #[.slice p.1 l.ws.length p.2, .int .i64 (l.en : Int)] 45)).alloc (.cells #[.int .i8 0, .int .u8 0, .int .u8 0, .int .u8 0, .int .i64 0] 67)) w1 → Oy w ((w1.alloc (.cells row 146)).alloc (.cells #[.int .i8 d, .int .u8 0, .int .u8 0, .int .u8 0, .int .i64 0] 67)) r p l lv nx m w1.heap.size (w1.heap.size + 1) fl row #[.int .i8 d, .int .u8 0, .int .u8 0, .int .u8 0, .int .i64 0]) := fun w1 row hb => Oy.start h hw hb row d
  have HD : Hid (DRegC r 1 p l lv nx m) := fun fl W h1 h2 => dreg_any r 1 p l lv nx m fl W h1 h2 hsh
  have HA : Hid (DRegC r 2 p l lv nx m) := fun fl W h1 h2 => dreg_any r 2 p l lv nx m fl W h1 h2 hsh
  have HB : Hid (DRegC r 3 p l lv nx m) := fun fl W h1 h2 => dreg_any r 3 p l lv nx m fl W h1 h2 hsh
  have HEn : Hid (EndC' r 4 p l lv nx m) := fun fl W h1 h2 => dend_any r 4 p l lv nx m fl W h1 h2
  have HP1 : Hid _ := opst_s7 fl d nm cls nn l
  have HP2 : Hid (∀ z0 z1 z2, _) := opv_s7 fl d nm cls nn l
  have hr := h.lt
  clear h hw hsh hO
  generalize guardR fl (opAt d ⟨nm, cls, true, true, true, nn, false⟩ l) = RES at *
  go_enter Tryz.func51, Tryz.ntmps51
  go_wp2_with (first
    | (go_at_call 71; refine Calls.mono HO.out ?_; rintro e w1 ⟨rfl, hb⟩; have HY0 : Hid (Oy w ((w1.alloc (.cells #[.string ⟨nm.toArray⟩, .int .i64 cls, .bool true, .bool true, .bool true, .bool nn, .bool false] 146)).alloc (.cells #[.int .i8 d, .int .u8 0, .int .u8 0, .int .u8 0, .int .i64 0] 67)) r p l lv nx m w1.heap.size (w1.heap.size + 1) fl _ #[.int .i8 d, .int .u8 0, .int .u8 0, .int .u8 0, .int .i64 0]) := HS.out w1 _ hb; have q0 := HY0.out.lb.c 0 _ rfl; have q1 := HY0.out.lb.c 1 _ rfl; clear hb HO HS)
    | (go_at_call 33; refine Calls.mono (HD.out _ _ HY0.out.d HY0.out.dw) ?_; rintro e u0 ⟨z0, rfl, hv0, hd, hf⟩; have HZ0 : Hid _ := HY0.out.go hd hf; have HY1 : Hid (Oy w (u0.setCell ⟨w1.heap.size + 1, 1, none⟩ (.int .u8 z0)) r p l lv nx m w1.heap.size (w1.heap.size + 1) (stF (guardR fl (regAt l 1))) _ #[.int .i8 d, .int .u8 z0, .int .u8 0, .int .u8 0, .int .i64 0]) := HZ0.out.set 1 (by simp) _; have HE0 : Hid _ := hv0; clear q0 q1 hd hf hv0 HY0 HD; have q2 := HY1.out.lb.c 0 _ rfl; have q3 := HY1.out.lb.c 1 _ rfl; have ob0 := HZ0.out.obx.c 1 _ rfl; have of0 := HZ0.out.obx.f; have rw0 := HY1.out.rbx; have rA0 := rw0.c 3 _ rfl; have rB0 := rw0.c 4 _ rfl; have rI0 := rw0.c 6 _ rfl; clear rw0 HZ0)
    | (go_at_call 33; refine Calls.mono (HA.out _ _ HY1.out.d HY1.out.dw) ?_; rintro e u1 ⟨z1, rfl, hv1, hd, hf⟩; have HZ1 : Hid _ := HY1.out.go hd hf; have HY2 : Hid (Oy w (u1.setCell ⟨w1.heap.size + 1, 2, none⟩ (.int .u8 z1)) r p l lv nx m w1.heap.size (w1.heap.size + 1) (stF (guardR (stF (guardR fl (regAt l 1))) (regAt l 2))) _ #[.int .i8 d, .int .u8 z0, .int .u8 z1, .int .u8 0, .int .i64 0]) := HZ1.out.set 2 (by simp) _; have HE1 : Hid _ := hv1; clear q2 q3 hd hf hv1 HY1 HA; have q4 := HY2.out.lb.c 0 _ rfl; have q5 := HY2.out.lb.c 1 _ rfl; have ob1 := HZ1.out.obx.c 2 _ rfl; have of1 := HZ1.out.obx.f; have rw1 := HY2.out.rbx; have rA1 := rw1.c 3 _ rfl; have rB1 := rw1.c 4 _ rfl; have rI1 := rw1.c 6 _ rfl; clear rw1 HZ1)
    | (go_at_call 33; refine Calls.mono (HB.out _ _ HY2.out.d HY2.out.dw) ?_; rintro e u2 ⟨z2, rfl, hv2, hd, hf⟩; have HZ2 : Hid _ := HY2.out.go hd hf; have HY3 : Hid (Oy w (u2.setCell ⟨w1.heap.size + 1, 3, none⟩ (.int .u8 z2)) r p l lv nx m w1.heap.size (w1.heap.size + 1) (stF (guardR (stF (guardR (stF (guardR fl (regAt l 1))) (regAt l 2))) (regAt l 3))) _ #[.int .i8 d, .int .u8 z0, .int .u8 z1, .int .u8 z2, .int .i64 0]) := HZ2.out.set 3 (by simp) _; have HE2 : Hid _ := hv2; clear q4 q5 hd hf hv2 HY2 HB; have q6 := HY3.out.lb.c 0 _ rfl; have q7 := HY3.out.lb.c 1 _ rfl; have ob2 := HZ2.out.obx.c 3 _ rfl; have of2 := HZ2.out.obx.f; have rw2 := HY3.out.rbx; have rA2 := rw2.c 3 _ rfl; have rB2 := rw2.c 4 _ rfl; have rI2 := rw2.c 6 _ rfl; clear rw2 HZ2)
    | (go_at_call 30; refine Calls.mono (HEn.out _ _ HY3.out.d HY3.out.dw) ?_; rintro e uE ⟨rfl, hd, hf⟩; have HX : Hid _ := HY3.out.go hd hf; clear q6 q7 hd hf HY3 HEn; have x0 := HX.out.obx.c 0 _ rfl; have x1 := HX.out.obx.c 1 _ rfl; have x2 := HX.out.obx.c 2 _ rfl; have x3 := HX.out.obx.c 3 _ rfl; have x4 := HX.out.obx.c 4 _ rfl; have y0 := HX.out.res.c 0 _ rfl; have y1 := HX.out.res.c 1 _ rfl; have y2 := HX.out.res.c 2 _ rfl; have y3 := HX.out.res.c 3 _ rfl; have y4 := HX.out.res.c 4 _ rfl; have yf := HX.out.res.f))
  have hx := HX.out
  have kk := (at_set (at_set (at_set (at_set (at_set hx.res (j := 0) (by simp) (.int .i8 d)) (j := 1) (by simp) (.int .u8 z0)) (j := 2) (by simp) (.int .u8 z1)) (j := 3) (by simp) (.int .u8 z2)) (j := 4) (by simp) (.int .i64 0))
  have g0 : (((((uE.setCell ⟨w.heap.size + 1, 0, none⟩ (.int .i8 d)).setCell ⟨w.heap.size + 1, 1, none⟩ (.int .u8 z0)).setCell ⟨w.heap.size + 1, 2, none⟩ (.int .u8 z1)).setCell ⟨w.heap.size + 1, 3, none⟩ (.int .u8 z2)).setCell ⟨w.heap.size + 1, 4, none⟩ (.int .i64 0)).cell? ⟨w.heap.size + 1, 0, none⟩ = some (.int .i8 d) := kk.c 0 _ rfl
  have g1 : (((((uE.setCell ⟨w.heap.size + 1, 0, none⟩ (.int .i8 d)).setCell ⟨w.heap.size + 1, 1, none⟩ (.int .u8 z0)).setCell ⟨w.heap.size + 1, 2, none⟩ (.int .u8 z1)).setCell ⟨w.heap.size + 1, 3, none⟩ (.int .u8 z2)).setCell ⟨w.heap.size + 1, 4, none⟩ (.int .i64 0)).cell? ⟨w.heap.size + 1, 1, none⟩ = some (.int .u8 z0) := kk.c 1 _ rfl
  have g2 : (((((uE.setCell ⟨w.heap.size + 1, 0, none⟩ (.int .i8 d)).setCell ⟨w.heap.size + 1, 1, none⟩ (.int .u8 z0)).setCell ⟨w.heap.size + 1, 2, none⟩ (.int .u8 z1)).setCell ⟨w.heap.size + 1, 3, none⟩ (.int .u8 z2)).setCell ⟨w.heap.size + 1, 4, none⟩ (.int .i64 0)).cell? ⟨w.heap.size + 1, 2, none⟩ = some (.int .u8 z1) := kk.c 2 _ rfl
  have g3 : (((((uE.setCell ⟨w.heap.size + 1, 0, none⟩ (.int .i8 d)).setCell ⟨w.heap.size + 1, 1, none⟩ (.int .u8 z0)).setCell ⟨w.heap.size + 1, 2, none⟩ (.int .u8 z1)).setCell ⟨w.heap.size + 1, 3, none⟩ (.int .u8 z2)).setCell ⟨w.heap.size + 1, 4, none⟩ (.int .i64 0)).cell? ⟨w.heap.size + 1, 3, none⟩ = some (.int .u8 z2) := kk.c 3 _ rfl
  have g4 : (((((uE.setCell ⟨w.heap.size + 1, 0, none⟩ (.int .i8 d)).setCell ⟨w.heap.size + 1, 1, none⟩ (.int .u8 z0)).setCell ⟨w.heap.size + 1, 2, none⟩ (.int .u8 z1)).setCell ⟨w.heap.size + 1, 3, none⟩ (.int .u8 z2)).setCell ⟨w.heap.size + 1, 4, none⟩ (.int .i64 0)).cell? ⟨w.heap.size + 1, 4, none⟩ = some (.int .i64 0) := kk.c 4 _ rfl
  have hg : Fr (One (w.heap.size + 1)) uE (((((uE.setCell ⟨w.heap.size + 1, 0, none⟩ (.int .i8 d)).setCell ⟨w.heap.size + 1, 1, none⟩ (.int .u8 z0)).setCell ⟨w.heap.size + 1, 2, none⟩ (.int .u8 z1)).setCell ⟨w.heap.size + 1, 3, none⟩ (.int .u8 z2)).setCell ⟨w.heap.size + 1, 4, none⟩ (.int .i64 0)) := ((((((Fr.refl (One (w.heap.size + 1)) uE).setCell (.inr rfl) _ _).setCell (.inr rfl) _ _).setCell (.inr rfl) _ _).setCell (.inr rfl) _ _).setCell (.inr rfl) _ _)
  refine bodyPost_ret (v := .agg #[.int .i8 d, .int .u8 z0, .int .u8 z1, .int .u8 z2, .int .i64 0]) (by simp [results, Tryz.results51, go_sem, g0, g1, g2, g3, g4]) rfl ⟨⟨d, z0, z1, z2, 0⟩, rfl, HP2.out z0 z1 z2 HE0.out HE1.out HE2.out, ?_, hx.f.new hg (by omega)⟩
  rw [← HP1.out]
  exact hx.d.fr hg (by omega)

theorem opst_s3 (fl : Option Wd') (d : Int) (nm : List UInt8) (cls : Int) (nn : Bool) (l : Ln) : stF (guardR (stF (guardR (stF (guardR fl (regAt l 1))) (regAt l 2))) (endsR l 3)) = stF (guardR fl (opAt d ⟨nm, cls, true, true, false, nn, false⟩ l)) := by
  simp only [opAt, Bool.false_eq_true, if_true, if_false]
  cases fl with
  | some f => rfl
  | none =>
    simp only [guardR]
    cases regAt l 1 <;> cases regAt l 2 <;> simp [stF, R.bind] <;> (cases endsR l 3 <;> rfl)
theorem opv_s3 (fl : Option Wd') (d : Int) (nm : List UInt8) (cls : Int) (nn : Bool) (l : Ln) (z0 z1 : Int) (h0 : ∀ v0, guardR fl (regAt l 1) = .ok v0 → z0 = v0) (h1 : ∀ v0, guardR (stF (guardR fl (regAt l 1))) (regAt l 2) = .ok v0 → z1 = v0) : ∀ o0, guardR fl (opAt d ⟨nm, cls, true, true, false, nn, false⟩ l) = .ok o0 → (⟨d, z0, z1, 0, 0⟩ : O) = o0 := by
  intro o0 ho
  simp only [opAt, Bool.false_eq_true, if_true, if_false] at ho
  cases fl with
  | some f => cases ho
  | none =>
    simp only [guardR] at ho h0 h1
    try simp only [R.bind_ok] at ho
    obtain ⟨a0, e0, ho⟩ := bind_is ho
    try simp only [R.bind_ok] at ho
    obtain ⟨a1, e1, ho⟩ := bind_is ho
    try simp only [R.bind_ok] at ho
    obtain ⟨_, _, ho⟩ := bind_is ho
    cases ho
    skip
    have := h0 _ e0
    subst this
    rw [e0] at h1
    have := h1 _ e1
    subst this
    rfl

set_option maxHeartbeats 4000000 in
theorem dop_s3 (r : Nat) (p : Pw) (l : Ln) (lv : Value) (nx m : Nat) (fl : Option Wd') (d : Int) (nm : List UInt8) (cls : Int) (nn : Bool) (w : World) (h : Dr w r lv nx m fl) (hw : DW w r p l.ws) (hsh : ShortW l)
    (hO : ∀ W, Calls Tryz.prog 71 #[.int .i8 d] W fun e w' => e = .returned (.tuple #[.agg #[.string ⟨nm.toArray⟩, .int .i64 cls, .bool true, .bool true, .bool false, .bool nn, .bool false], .bool true]) ∧ Below W.heap.size W w') :
    Calls Tryz.prog 51 #[.pointer (some ⟨r, 0, none⟩), .agg #[.slice p.1 l.ws.length p.2, .int .i64 (l.en : Int)], .int .i8 d] w (OpPost r lv nx m (guardR fl (opAt d ⟨nm, cls, true, true, false, nn, false⟩ l)) w) := by
  have HO : Hid _ := hO ((w.alloc (.cells #[.slice p.1 l.ws.length p.2, .int .i64 (l.en : Int)] 45)).alloc (.cells #[.int .i8 0, .int .u8 0, .int .u8 0, .int .u8 0, .int .i64 0] 67))
  have HS : Hid (∀ w1 row, Below ((w.alloc (.cells #[.slice p.1 l.ws.length p.2, .int .i64 (l.en : Int)] 45)).alloc (.cells #[.int .i8 0, .int .u8 0, .int .u8 0, .int .u8 0, .int .i64 0] 67)).heap.size ((w.alloc (.cells #[.slice p.1 l.ws.length p.2, .int .i64 (l.en : Int)] 45)).alloc (.cells #[.int .i8 0, .int .u8 0, .int .u8 0, .int .u8 0, .int .i64 0] 67)) w1 → Oy w ((w1.alloc (.cells row 146)).alloc (.cells #[.int .i8 d, .int .u8 0, .int .u8 0, .int .u8 0, .int .i64 0] 67)) r p l lv nx m w1.heap.size (w1.heap.size + 1) fl row #[.int .i8 d, .int .u8 0, .int .u8 0, .int .u8 0, .int .i64 0]) := fun w1 row hb => Oy.start h hw hb row d
  have HD : Hid (DRegC r 1 p l lv nx m) := fun fl W h1 h2 => dreg_any r 1 p l lv nx m fl W h1 h2 hsh
  have HA : Hid (DRegC r 2 p l lv nx m) := fun fl W h1 h2 => dreg_any r 2 p l lv nx m fl W h1 h2 hsh
  have HEn : Hid (EndC' r 3 p l lv nx m) := fun fl W h1 h2 => dend_any r 3 p l lv nx m fl W h1 h2
  have HP1 : Hid _ := opst_s3 fl d nm cls nn l
  have HP2 : Hid (∀ z0 z1, _) := opv_s3 fl d nm cls nn l
  have hr := h.lt
  clear h hw hsh hO
  generalize guardR fl (opAt d ⟨nm, cls, true, true, false, nn, false⟩ l) = RES at *
  go_enter Tryz.func51, Tryz.ntmps51
  go_wp2_with (first
    | (go_at_call 71; refine Calls.mono HO.out ?_; rintro e w1 ⟨rfl, hb⟩; have HY0 : Hid (Oy w ((w1.alloc (.cells #[.string ⟨nm.toArray⟩, .int .i64 cls, .bool true, .bool true, .bool false, .bool nn, .bool false] 146)).alloc (.cells #[.int .i8 d, .int .u8 0, .int .u8 0, .int .u8 0, .int .i64 0] 67)) r p l lv nx m w1.heap.size (w1.heap.size + 1) fl _ #[.int .i8 d, .int .u8 0, .int .u8 0, .int .u8 0, .int .i64 0]) := HS.out w1 _ hb; have q0 := HY0.out.lb.c 0 _ rfl; have q1 := HY0.out.lb.c 1 _ rfl; clear hb HO HS)
    | (go_at_call 33; refine Calls.mono (HD.out _ _ HY0.out.d HY0.out.dw) ?_; rintro e u0 ⟨z0, rfl, hv0, hd, hf⟩; have HZ0 : Hid _ := HY0.out.go hd hf; have HY1 : Hid (Oy w (u0.setCell ⟨w1.heap.size + 1, 1, none⟩ (.int .u8 z0)) r p l lv nx m w1.heap.size (w1.heap.size + 1) (stF (guardR fl (regAt l 1))) _ #[.int .i8 d, .int .u8 z0, .int .u8 0, .int .u8 0, .int .i64 0]) := HZ0.out.set 1 (by simp) _; have HE0 : Hid _ := hv0; clear q0 q1 hd hf hv0 HY0 HD; have q2 := HY1.out.lb.c 0 _ rfl; have q3 := HY1.out.lb.c 1 _ rfl; have ob0 := HZ0.out.obx.c 1 _ rfl; have of0 := HZ0.out.obx.f; have rw0 := HY1.out.rbx; have rA0 := rw0.c 3 _ rfl; have rB0 := rw0.c 4 _ rfl; have rI0 := rw0.c 6 _ rfl; clear rw0 HZ0)
    | (go_at_call 33; refine Calls.mono (HA.out _ _ HY1.out.d HY1.out.dw) ?_; rintro e u1 ⟨z1, rfl, hv1, hd, hf⟩; have HZ1 : Hid _ := HY1.out.go hd hf; have HY2 : Hid (Oy w (u1.setCell ⟨w1.heap.size + 1, 2, none⟩ (.int .u8 z1)) r p l lv nx m w1.heap.size (w1.heap.size + 1) (stF (guardR (stF (guardR fl (regAt l 1))) (regAt l 2))) _ #[.int .i8 d, .int .u8 z0, .int .u8 z1, .int .u8 0, .int .i64 0]) := HZ1.out.set 2 (by simp) _; have HE1 : Hid _ := hv1; clear q2 q3 hd hf hv1 HY1 HA; have q4 := HY2.out.lb.c 0 _ rfl; have q5 := HY2.out.lb.c 1 _ rfl; have ob1 := HZ1.out.obx.c 2 _ rfl; have of1 := HZ1.out.obx.f; have rw1 := HY2.out.rbx; have rA1 := rw1.c 3 _ rfl; have rB1 := rw1.c 4 _ rfl; have rI1 := rw1.c 6 _ rfl; clear rw1 HZ1)
    | (go_at_call 30; refine Calls.mono (HEn.out _ _ HY2.out.d HY2.out.dw) ?_; rintro e uE ⟨rfl, hd, hf⟩; have HX : Hid _ := HY2.out.go hd hf; clear q4 q5 hd hf HY2 HEn; have x0 := HX.out.obx.c 0 _ rfl; have x1 := HX.out.obx.c 1 _ rfl; have x2 := HX.out.obx.c 2 _ rfl; have x3 := HX.out.obx.c 3 _ rfl; have x4 := HX.out.obx.c 4 _ rfl; have y0 := HX.out.res.c 0 _ rfl; have y1 := HX.out.res.c 1 _ rfl; have y2 := HX.out.res.c 2 _ rfl; have y3 := HX.out.res.c 3 _ rfl; have y4 := HX.out.res.c 4 _ rfl; have yf := HX.out.res.f))
  have hx := HX.out
  have kk := (at_set (at_set (at_set (at_set (at_set hx.res (j := 0) (by simp) (.int .i8 d)) (j := 1) (by simp) (.int .u8 z0)) (j := 2) (by simp) (.int .u8 z1)) (j := 3) (by simp) (.int .u8 0)) (j := 4) (by simp) (.int .i64 0))
  have g0 : (((((uE.setCell ⟨w.heap.size + 1, 0, none⟩ (.int .i8 d)).setCell ⟨w.heap.size + 1, 1, none⟩ (.int .u8 z0)).setCell ⟨w.heap.size + 1, 2, none⟩ (.int .u8 z1)).setCell ⟨w.heap.size + 1, 3, none⟩ (.int .u8 0)).setCell ⟨w.heap.size + 1, 4, none⟩ (.int .i64 0)).cell? ⟨w.heap.size + 1, 0, none⟩ = some (.int .i8 d) := kk.c 0 _ rfl
  have g1 : (((((uE.setCell ⟨w.heap.size + 1, 0, none⟩ (.int .i8 d)).setCell ⟨w.heap.size + 1, 1, none⟩ (.int .u8 z0)).setCell ⟨w.heap.size + 1, 2, none⟩ (.int .u8 z1)).setCell ⟨w.heap.size + 1, 3, none⟩ (.int .u8 0)).setCell ⟨w.heap.size + 1, 4, none⟩ (.int .i64 0)).cell? ⟨w.heap.size + 1, 1, none⟩ = some (.int .u8 z0) := kk.c 1 _ rfl
  have g2 : (((((uE.setCell ⟨w.heap.size + 1, 0, none⟩ (.int .i8 d)).setCell ⟨w.heap.size + 1, 1, none⟩ (.int .u8 z0)).setCell ⟨w.heap.size + 1, 2, none⟩ (.int .u8 z1)).setCell ⟨w.heap.size + 1, 3, none⟩ (.int .u8 0)).setCell ⟨w.heap.size + 1, 4, none⟩ (.int .i64 0)).cell? ⟨w.heap.size + 1, 2, none⟩ = some (.int .u8 z1) := kk.c 2 _ rfl
  have g3 : (((((uE.setCell ⟨w.heap.size + 1, 0, none⟩ (.int .i8 d)).setCell ⟨w.heap.size + 1, 1, none⟩ (.int .u8 z0)).setCell ⟨w.heap.size + 1, 2, none⟩ (.int .u8 z1)).setCell ⟨w.heap.size + 1, 3, none⟩ (.int .u8 0)).setCell ⟨w.heap.size + 1, 4, none⟩ (.int .i64 0)).cell? ⟨w.heap.size + 1, 3, none⟩ = some (.int .u8 0) := kk.c 3 _ rfl
  have g4 : (((((uE.setCell ⟨w.heap.size + 1, 0, none⟩ (.int .i8 d)).setCell ⟨w.heap.size + 1, 1, none⟩ (.int .u8 z0)).setCell ⟨w.heap.size + 1, 2, none⟩ (.int .u8 z1)).setCell ⟨w.heap.size + 1, 3, none⟩ (.int .u8 0)).setCell ⟨w.heap.size + 1, 4, none⟩ (.int .i64 0)).cell? ⟨w.heap.size + 1, 4, none⟩ = some (.int .i64 0) := kk.c 4 _ rfl
  have hg : Fr (One (w.heap.size + 1)) uE (((((uE.setCell ⟨w.heap.size + 1, 0, none⟩ (.int .i8 d)).setCell ⟨w.heap.size + 1, 1, none⟩ (.int .u8 z0)).setCell ⟨w.heap.size + 1, 2, none⟩ (.int .u8 z1)).setCell ⟨w.heap.size + 1, 3, none⟩ (.int .u8 0)).setCell ⟨w.heap.size + 1, 4, none⟩ (.int .i64 0)) := ((((((Fr.refl (One (w.heap.size + 1)) uE).setCell (.inr rfl) _ _).setCell (.inr rfl) _ _).setCell (.inr rfl) _ _).setCell (.inr rfl) _ _).setCell (.inr rfl) _ _)
  refine bodyPost_ret (v := .agg #[.int .i8 d, .int .u8 z0, .int .u8 z1, .int .u8 0, .int .i64 0]) (by simp [results, Tryz.results51, go_sem, g0, g1, g2, g3, g4]) rfl ⟨⟨d, z0, z1, 0, 0⟩, rfl, HP2.out z0 z1 HE0.out HE1.out, ?_, hx.f.new hg (by omega)⟩
  rw [← HP1.out]
  exact hx.d.fr hg (by omega)

theorem opst_s11 (fl : Option Wd') (d : Int) (nm : List UInt8) (cls : Int) (nn : Bool) (l : Ln) : stF (guardR (stF (guardR (stF (guardR (stF (guardR fl (regAt l 1))) (regAt l 2))) (numAt l 3))) (endsR l 4)) = stF (guardR fl (opAt d ⟨nm, cls, true, true, false, nn, true⟩ l)) := by
  simp only [opAt, Bool.false_eq_true, if_true, if_false]
  cases fl with
  | some f => rfl
  | none =>
    simp only [guardR]
    cases regAt l 1 <;> cases regAt l 2 <;> cases numAt l 3 <;> simp [stF, R.bind] <;> (cases endsR l 4 <;> rfl)
theorem opv_s11 (fl : Option Wd') (d : Int) (nm : List UInt8) (cls : Int) (nn : Bool) (l : Ln) (z0 z1 z2 : Int) (h0 : ∀ v0, guardR fl (regAt l 1) = .ok v0 → z0 = v0) (h1 : ∀ v0, guardR (stF (guardR fl (regAt l 1))) (regAt l 2) = .ok v0 → z1 = v0) (h2 : ∀ v0, guardR (stF (guardR (stF (guardR fl (regAt l 1))) (regAt l 2))) (numAt l 3) = .ok v0 → z2 = v0) : ∀ o0, guardR fl (opAt d ⟨nm, cls, true, true, false, nn, true⟩ l) = .ok o0 → (⟨d, z0, z1, 0, z2⟩ : O) = o0 := by
  intro o0 ho
  simp only [opAt, Bool.false_eq_true, if_true, if_false] at ho
  cases fl with
  | some f => cases ho
  | none =>
    simp only [guardR] at ho h0 h1 h2
    try simp only [R.bind_ok] at ho
    obtain ⟨a0, e0, ho⟩ := bind_is ho
    try simp only [R.bind_ok] at ho
    obtain ⟨a1, e1, ho⟩ := bind_is ho
    try simp only [R.bind_ok] at ho
    obtain ⟨a2, e2, ho⟩ := bind_is ho
    try simp only [R.bind_ok] at ho
    obtain ⟨_, _, ho⟩ := bind_is ho
    cases ho
    skip
    have := h0 _ e0
    subst this
    rw [e0] at h1
    have := h1 _ e1
    subst this
    rw [e0, e1] at h2
    have := h2 _ e2
    subst this
    rfl

set_option maxHeartbeats 4000000 in
theorem dop_s11 (r : Nat) (p : Pw) (l : Ln) (lv : Value) (nx m : Nat) (fl : Option Wd') (d : Int) (nm : List UInt8) (cls : Int) (nn : Bool) (w : World) (h : Dr w r lv nx m fl) (hw : DW w r p l.ws) (hsh : ShortW l)
    (hO : ∀ W, Calls Tryz.prog 71 #[.int .i8 d] W fun e w' => e = .returned (.tuple #[.agg #[.string ⟨nm.toArray⟩, .int .i64 cls, .bool true, .bool true, .bool false, .bool nn, .bool true], .bool true]) ∧ Below W.heap.size W w') :
    Calls Tryz.prog 51 #[.pointer (some ⟨r, 0, none⟩), .agg #[.slice p.1 l.ws.length p.2, .int .i64 (l.en : Int)], .int .i8 d] w (OpPost r lv nx m (guardR fl (opAt d ⟨nm, cls, true, true, false, nn, true⟩ l)) w) := by
  have HO : Hid _ := hO ((w.alloc (.cells #[.slice p.1 l.ws.length p.2, .int .i64 (l.en : Int)] 45)).alloc (.cells #[.int .i8 0, .int .u8 0, .int .u8 0, .int .u8 0, .int .i64 0] 67))
  have HS : Hid (∀ w1 row, Below ((w.alloc (.cells #[.slice p.1 l.ws.length p.2, .int .i64 (l.en : Int)] 45)).alloc (.cells #[.int .i8 0, .int .u8 0, .int .u8 0, .int .u8 0, .int .i64 0] 67)).heap.size ((w.alloc (.cells #[.slice p.1 l.ws.length p.2, .int .i64 (l.en : Int)] 45)).alloc (.cells #[.int .i8 0, .int .u8 0, .int .u8 0, .int .u8 0, .int .i64 0] 67)) w1 → Oy w ((w1.alloc (.cells row 146)).alloc (.cells #[.int .i8 d, .int .u8 0, .int .u8 0, .int .u8 0, .int .i64 0] 67)) r p l lv nx m w1.heap.size (w1.heap.size + 1) fl row #[.int .i8 d, .int .u8 0, .int .u8 0, .int .u8 0, .int .i64 0]) := fun w1 row hb => Oy.start h hw hb row d
  have HD : Hid (DRegC r 1 p l lv nx m) := fun fl W h1 h2 => dreg_any r 1 p l lv nx m fl W h1 h2 hsh
  have HA : Hid (DRegC r 2 p l lv nx m) := fun fl W h1 h2 => dreg_any r 2 p l lv nx m fl W h1 h2 hsh
  have HI : Hid (NumC' r 3 p l lv nx m) := fun fl W h1 h2 => dnum_any r 3 p l lv nx m fl W h1 h2 hsh
  have HEn : Hid (EndC' r 4 p l lv nx m) := fun fl W h1 h2 => dend_any r 4 p l lv nx m fl W h1 h2
  have HP1 : Hid _ := opst_s11 fl d nm cls nn l
  have HP2 : Hid (∀ z0 z1 z2, _) := opv_s11 fl d nm cls nn l
  have hr := h.lt
  clear h hw hsh hO
  generalize guardR fl (opAt d ⟨nm, cls, true, true, false, nn, true⟩ l) = RES at *
  go_enter Tryz.func51, Tryz.ntmps51
  go_wp2_with (first
    | (go_at_call 71; refine Calls.mono HO.out ?_; rintro e w1 ⟨rfl, hb⟩; have HY0 : Hid (Oy w ((w1.alloc (.cells #[.string ⟨nm.toArray⟩, .int .i64 cls, .bool true, .bool true, .bool false, .bool nn, .bool true] 146)).alloc (.cells #[.int .i8 d, .int .u8 0, .int .u8 0, .int .u8 0, .int .i64 0] 67)) r p l lv nx m w1.heap.size (w1.heap.size + 1) fl _ #[.int .i8 d, .int .u8 0, .int .u8 0, .int .u8 0, .int .i64 0]) := HS.out w1 _ hb; have q0 := HY0.out.lb.c 0 _ rfl; have q1 := HY0.out.lb.c 1 _ rfl; clear hb HO HS)
    | (go_at_call 33; refine Calls.mono (HD.out _ _ HY0.out.d HY0.out.dw) ?_; rintro e u0 ⟨z0, rfl, hv0, hd, hf⟩; have HZ0 : Hid _ := HY0.out.go hd hf; have HY1 : Hid (Oy w (u0.setCell ⟨w1.heap.size + 1, 1, none⟩ (.int .u8 z0)) r p l lv nx m w1.heap.size (w1.heap.size + 1) (stF (guardR fl (regAt l 1))) _ #[.int .i8 d, .int .u8 z0, .int .u8 0, .int .u8 0, .int .i64 0]) := HZ0.out.set 1 (by simp) _; have HE0 : Hid _ := hv0; clear q0 q1 hd hf hv0 HY0 HD; have q2 := HY1.out.lb.c 0 _ rfl; have q3 := HY1.out.lb.c 1 _ rfl; have ob0 := HZ0.out.obx.c 1 _ rfl; have of0 := HZ0.out.obx.f; have rw0 := HY1.out.rbx; have rA0 := rw0.c 3 _ rfl; have rB0 := rw0.c 4 _ rfl; have rI0 := rw0.c 6 _ rfl; clear rw0 HZ0)
    | (go_at_call 33; refine Calls.mono (HA.out _ _ HY1.out.d HY1.out.dw) ?_; rintro e u1 ⟨z1, rfl, hv1, hd, hf⟩; have HZ1 : Hid _ := HY1.out.go hd hf; have HY2 : Hid (Oy w (u1.setCell ⟨w1.heap.size + 1, 2, none⟩ (.int .u8 z1)) r p l lv nx m w1.heap.size (w1.heap.size + 1) (stF (guardR (stF (guardR fl (regAt l 1))) (regAt l 2))) _ #[.int .i8 d, .int .u8 z0, .int .u8 z1, .int .u8 0, .int .i64 0]) := HZ1.out.set 2 (by simp) _; have HE1 : Hid _ := hv1; clear q2 q3 hd hf hv1 HY1 HA; have q4 := HY2.out.lb.c 0 _ rfl; have q5 := HY2.out.lb.c 1 _ rfl; have ob1 := HZ1.out.obx.c 2 _ rfl; have of1 := HZ1.out.obx.f; have rw1 := HY2.out.rbx; have rA1 := rw1.c 3 _ rfl; have rB1 := rw1.c 4 _ rfl; have rI1 := rw1.c 6 _ rfl; clear rw1 HZ1)
    | (go_at_call 32; refine Calls.mono (HI.out _ _ HY2.out.d HY2.out.dw) ?_; rintro e u2 ⟨z2, rfl, hv2, hd, hf⟩; have HZ2 : Hid _ := HY2.out.go hd hf; have HY3 : Hid (Oy w (u2.setCell ⟨w1.heap.size + 1, 4, none⟩ (.int .i64 z2)) r p l lv nx m w1.heap.size (w1.heap.size + 1) (stF (guardR (stF (guardR (stF (guardR fl (regAt l 1))) (regAt l 2))) (numAt l 3))) _ #[.int .i8 d, .int .u8 z0, .int .u8 z1, .int .u8 0, .int .i64 z2]) := HZ2.out.set 4 (by simp) _; have HE2 : Hid _ := hv2; clear q4 q5 hd hf hv2 HY2 HI; have q6 := HY3.out.lb.c 0 _ rfl; have q7 := HY3.out.lb.c 1 _ rfl; have ob2 := HZ2.out.obx.c 4 _ rfl; have of2 := HZ2.out.obx.f; have rw2 := HY3.out.rbx; have rA2 := rw2.c 3 _ rfl; have rB2 := rw2.c 4 _ rfl; have rI2 := rw2.c 6 _ rfl; clear rw2 HZ2)
    | (go_at_call 30; refine Calls.mono (HEn.out _ _ HY3.out.d HY3.out.dw) ?_; rintro e uE ⟨rfl, hd, hf⟩; have HX : Hid _ := HY3.out.go hd hf; clear q6 q7 hd hf HY3 HEn; have x0 := HX.out.obx.c 0 _ rfl; have x1 := HX.out.obx.c 1 _ rfl; have x2 := HX.out.obx.c 2 _ rfl; have x3 := HX.out.obx.c 3 _ rfl; have x4 := HX.out.obx.c 4 _ rfl; have y0 := HX.out.res.c 0 _ rfl; have y1 := HX.out.res.c 1 _ rfl; have y2 := HX.out.res.c 2 _ rfl; have y3 := HX.out.res.c 3 _ rfl; have y4 := HX.out.res.c 4 _ rfl; have yf := HX.out.res.f))
  have hx := HX.out
  have kk := (at_set (at_set (at_set (at_set (at_set hx.res (j := 0) (by simp) (.int .i8 d)) (j := 1) (by simp) (.int .u8 z0)) (j := 2) (by simp) (.int .u8 z1)) (j := 3) (by simp) (.int .u8 0)) (j := 4) (by simp) (.int .i64 z2))
  have g0 : (((((uE.setCell ⟨w.heap.size + 1, 0, none⟩ (.int .i8 d)).setCell ⟨w.heap.size + 1, 1, none⟩ (.int .u8 z0)).setCell ⟨w.heap.size + 1, 2, none⟩ (.int .u8 z1)).setCell ⟨w.heap.size + 1, 3, none⟩ (.int .u8 0)).setCell ⟨w.heap.size + 1, 4, none⟩ (.int .i64 z2)).cell? ⟨w.heap.size + 1, 0, none⟩ = some (.int .i8 d) := kk.c 0 _ rfl
  have g1 : (((((uE.setCell ⟨w.heap.size + 1, 0, none⟩ (.int .i8 d)).setCell ⟨w.heap.size + 1, 1, none⟩ (.int .u8 z0)).setCell ⟨w.heap.size + 1, 2, none⟩ (.int .u8 z1)).setCell ⟨w.heap.size + 1, 3, none⟩ (.int .u8 0)).setCell ⟨w.heap.size + 1, 4, none⟩ (.int .i64 z2)).cell? ⟨w.heap.size + 1, 1, none⟩ = some (.int .u8 z0) := kk.c 1 _ rfl
  have g2 : (((((uE.setCell ⟨w.heap.size + 1, 0, none⟩ (.int .i8 d)).setCell ⟨w.heap.size + 1, 1, none⟩ (.int .u8 z0)).setCell ⟨w.heap.size + 1, 2, none⟩ (.int .u8 z1)).setCell ⟨w.heap.size + 1, 3, none⟩ (.int .u8 0)).setCell ⟨w.heap.size + 1, 4, none⟩ (.int .i64 z2)).cell? ⟨w.heap.size + 1, 2, none⟩ = some (.int .u8 z1) := kk.c 2 _ rfl
  have g3 : (((((uE.setCell ⟨w.heap.size + 1, 0, none⟩ (.int .i8 d)).setCell ⟨w.heap.size + 1, 1, none⟩ (.int .u8 z0)).setCell ⟨w.heap.size + 1, 2, none⟩ (.int .u8 z1)).setCell ⟨w.heap.size + 1, 3, none⟩ (.int .u8 0)).setCell ⟨w.heap.size + 1, 4, none⟩ (.int .i64 z2)).cell? ⟨w.heap.size + 1, 3, none⟩ = some (.int .u8 0) := kk.c 3 _ rfl
  have g4 : (((((uE.setCell ⟨w.heap.size + 1, 0, none⟩ (.int .i8 d)).setCell ⟨w.heap.size + 1, 1, none⟩ (.int .u8 z0)).setCell ⟨w.heap.size + 1, 2, none⟩ (.int .u8 z1)).setCell ⟨w.heap.size + 1, 3, none⟩ (.int .u8 0)).setCell ⟨w.heap.size + 1, 4, none⟩ (.int .i64 z2)).cell? ⟨w.heap.size + 1, 4, none⟩ = some (.int .i64 z2) := kk.c 4 _ rfl
  have hg : Fr (One (w.heap.size + 1)) uE (((((uE.setCell ⟨w.heap.size + 1, 0, none⟩ (.int .i8 d)).setCell ⟨w.heap.size + 1, 1, none⟩ (.int .u8 z0)).setCell ⟨w.heap.size + 1, 2, none⟩ (.int .u8 z1)).setCell ⟨w.heap.size + 1, 3, none⟩ (.int .u8 0)).setCell ⟨w.heap.size + 1, 4, none⟩ (.int .i64 z2)) := ((((((Fr.refl (One (w.heap.size + 1)) uE).setCell (.inr rfl) _ _).setCell (.inr rfl) _ _).setCell (.inr rfl) _ _).setCell (.inr rfl) _ _).setCell (.inr rfl) _ _)
  refine bodyPost_ret (v := .agg #[.int .i8 d, .int .u8 z0, .int .u8 z1, .int .u8 0, .int .i64 z2]) (by simp [results, Tryz.results51, go_sem, g0, g1, g2, g3, g4]) rfl ⟨⟨d, z0, z1, 0, z2⟩, rfl, HP2.out z0 z1 z2 HE0.out HE1.out HE2.out, ?_, hx.f.new hg (by omega)⟩
  rw [← HP1.out]
  exact hx.d.fr hg (by omega)

theorem opst_s14 (fl : Option Wd') (d : Int) (nm : List UInt8) (cls : Int) (nn : Bool) (l : Ln) : stF (guardR (stF (guardR (stF (guardR (stF (guardR fl (regAt l 1))) (regAt l 2))) (numAt l 3))) (endsR l 4)) = stF (guardR fl (opAt d ⟨nm, cls, false, true, true, nn, true⟩ l)) := by
  simp only [opAt, Bool.false_eq_true, if_true, if_false]
  cases fl with
  | some f => rfl
  | none =>
    simp only [guardR]
    cases regAt l 1 <;> cases regAt l 2 <;> cases numAt l 3 <;> simp [stF, R.bind] <;> (cases endsR l 4 <;> rfl)
theorem opv_s14 (fl : Option Wd') (d : Int) (nm : List UInt8) (cls : Int) (nn : Bool) (l : Ln) (z0 z1 z2 : Int) (h0 : ∀ v0, guardR fl (regAt l 1) = .ok v0 → z0 = v0) (h1 : ∀ v0, guardR (stF (guardR fl (regAt l 1))) (regAt l 2) = .ok v0 → z1 = v0) (h2 : ∀ v0, guardR (stF (guardR (stF (guardR fl (regAt l 1))) (regAt l 2))) (numAt l 3) = .ok v0 → z2 = v0) : ∀ o0, guardR fl (opAt d ⟨nm, cls, false, true, true, nn, true⟩ l) = .ok o0 → (⟨d, 0, z0, z1, z2⟩ : O) = o0 := by
  intro o0 ho
  simp only [opAt, Bool.false_eq_true, if_true, if_false] at ho
  cases fl with
  | some f => cases ho
  | none =>
    simp only [guardR] at ho h0 h1 h2
    try simp only [R.bind_ok] at ho
    obtain ⟨a0, e0, ho⟩ := bind_is ho
    try simp only [R.bind_ok] at ho
    obtain ⟨a1, e1, ho⟩ := bind_is ho
    try simp only [R.bind_ok] at ho
    obtain ⟨a2, e2, ho⟩ := bind_is ho
    try simp only [R.bind_ok] at ho
    obtain ⟨_, _, ho⟩ := bind_is ho
    cases ho
    skip
    have := h0 _ e0
    subst this
    rw [e0] at h1
    have := h1 _ e1
    subst this
    rw [e0, e1] at h2
    have := h2 _ e2
    subst this
    rfl

set_option maxHeartbeats 4000000 in
theorem dop_s14 (r : Nat) (p : Pw) (l : Ln) (lv : Value) (nx m : Nat) (fl : Option Wd') (d : Int) (nm : List UInt8) (cls : Int) (nn : Bool) (w : World) (h : Dr w r lv nx m fl) (hw : DW w r p l.ws) (hsh : ShortW l)
    (hO : ∀ W, Calls Tryz.prog 71 #[.int .i8 d] W fun e w' => e = .returned (.tuple #[.agg #[.string ⟨nm.toArray⟩, .int .i64 cls, .bool false, .bool true, .bool true, .bool nn, .bool true], .bool true]) ∧ Below W.heap.size W w') :
    Calls Tryz.prog 51 #[.pointer (some ⟨r, 0, none⟩), .agg #[.slice p.1 l.ws.length p.2, .int .i64 (l.en : Int)], .int .i8 d] w (OpPost r lv nx m (guardR fl (opAt d ⟨nm, cls, false, true, true, nn, true⟩ l)) w) := by
  have HO : Hid _ := hO ((w.alloc (.cells #[.slice p.1 l.ws.length p.2, .int .i64 (l.en : Int)] 45)).alloc (.cells #[.int .i8 0, .int .u8 0, .int .u8 0, .int .u8 0, .int .i64 0] 67))
  have HS : Hid (∀ w1 row, Below ((w.alloc (.cells #[.slice p.1 l.ws.length p.2, .int .i64 (l.en : Int)] 45)).alloc (.cells #[.int .i8 0, .int .u8 0, .int .u8 0, .int .u8 0, .int .i64 0] 67)).heap.size ((w.alloc (.cells #[.slice p.1 l.ws.length p.2, .int .i64 (l.en : Int)] 45)).alloc (.cells #[.int .i8 0, .int .u8 0, .int .u8 0, .int .u8 0, .int .i64 0] 67)) w1 → Oy w ((w1.alloc (.cells row 146)).alloc (.cells #[.int .i8 d, .int .u8 0, .int .u8 0, .int .u8 0, .int .i64 0] 67)) r p l lv nx m w1.heap.size (w1.heap.size + 1) fl row #[.int .i8 d, .int .u8 0, .int .u8 0, .int .u8 0, .int .i64 0]) := fun w1 row hb => Oy.start h hw hb row d
  have HA : Hid (DRegC r 1 p l lv nx m) := fun fl W h1 h2 => dreg_any r 1 p l lv nx m fl W h1 h2 hsh
  have HB : Hid (DRegC r 2 p l lv nx m) := fun fl W h1 h2 => dreg_any r 2 p l lv nx m fl W h1 h2 hsh
  have HI : Hid (NumC' r 3 p l lv nx m) := fun fl W h1 h2 => dnum_any r 3 p l lv nx m fl W h1 h2 hsh
  have HEn : Hid (EndC' r 4 p l lv nx m) := fun fl W h1 h2 => dend_any r 4 p l lv nx m fl W h1 h2
  have HP1 : Hid _ := opst_s14 fl d nm cls nn l
  have HP2 : Hid (∀ z0 z1 z2, _) := opv_s14 fl d nm cls nn l
  have hr := h.lt
  clear h hw hsh hO
  generalize guardR fl (opAt d ⟨nm, cls, false, true, true, nn, true⟩ l) = RES at *
  go_enter Tryz.func51, Tryz.ntmps51
  go_wp2_with (first
    | (go_at_call 71; refine Calls.mono HO.out ?_; rintro e w1 ⟨rfl, hb⟩; have HY0 : Hid (Oy w ((w1.alloc (.cells #[.string ⟨nm.toArray⟩, .int .i64 cls, .bool false, .bool true, .bool true, .bool nn, .bool true] 146)).alloc (.cells #[.int .i8 d, .int .u8 0, .int .u8 0, .int .u8 0, .int .i64 0] 67)) r p l lv nx m w1.heap.size (w1.heap.size + 1) fl _ #[.int .i8 d, .int .u8 0, .int .u8 0, .int .u8 0, .int .i64 0]) := HS.out w1 _ hb; have q0 := HY0.out.lb.c 0 _ rfl; have q1 := HY0.out.lb.c 1 _ rfl; clear hb HO HS)
    | (go_at_call 33; refine Calls.mono (HA.out _ _ HY0.out.d HY0.out.dw) ?_; rintro e u0 ⟨z0, rfl, hv0, hd, hf⟩; have HZ0 : Hid _ := HY0.out.go hd hf; have HY1 : Hid (Oy w (u0.setCell ⟨w1.heap.size + 1, 2, none⟩ (.int .u8 z0)) r p l lv nx m w1.heap.size (w1.heap.size + 1) (stF (guardR fl (regAt l 1))) _ #[.int .i8 d, .int .u8 0, .int .u8 z0, .int .u8 0, .int .i64 0]) := HZ0.out.set 2 (by simp) _; have HE0 : Hid _ := hv0; clear q0 q1 hd hf hv0 HY0 HA; have q2 := HY1.out.lb.c 0 _ rfl; have q3 := HY1.out.lb.c 1 _ rfl; have ob0 := HZ0.out.obx.c 2 _ rfl; have of0 := HZ0.out.obx.f; have rw0 := HY1.out.rbx; have rA0 := rw0.c 3 _ rfl; have rB0 := rw0.c 4 _ rfl; have rI0 := rw0.c 6 _ rfl; clear rw0 HZ0)
    | (go_at_call 33; refine Calls.mono (HB.out _ _ HY1.out.d HY1.out.dw) ?_; rintro e u1 ⟨z1, rfl, hv1, hd, hf⟩; have HZ1 : Hid _ := HY1.out.go hd hf; have HY2 : Hid (Oy w (u1.setCell ⟨w1.heap.size + 1, 3, none⟩ (.int .u8 z1)) r p l lv nx m w1.heap.size (w1.heap.size + 1) (stF (guardR (stF (guardR fl (regAt l 1))) (regAt l 2))) _ #[.int .i8 d, .int .u8 0, .int .u8 z0, .int .u8 z1, .int .i64 0]) := HZ1.out.set 3 (by simp) _; have HE1 : Hid _ := hv1; clear q2 q3 hd hf hv1 HY1 HB; have q4 := HY2.out.lb.c 0 _ rfl; have q5 := HY2.out.lb.c 1 _ rfl; have ob1 := HZ1.out.obx.c 3 _ rfl; have of1 := HZ1.out.obx.f; have rw1 := HY2.out.rbx; have rA1 := rw1.c 3 _ rfl; have rB1 := rw1.c 4 _ rfl; have rI1 := rw1.c 6 _ rfl; clear rw1 HZ1)
    | (go_at_call 32; refine Calls.mono (HI.out _ _ HY2.out.d HY2.out.dw) ?_; rintro e u2 ⟨z2, rfl, hv2, hd, hf⟩; have HZ2 : Hid _ := HY2.out.go hd hf; have HY3 : Hid (Oy w (u2.setCell ⟨w1.heap.size + 1, 4, none⟩ (.int .i64 z2)) r p l lv nx m w1.heap.size (w1.heap.size + 1) (stF (guardR (stF (guardR (stF (guardR fl (regAt l 1))) (regAt l 2))) (numAt l 3))) _ #[.int .i8 d, .int .u8 0, .int .u8 z0, .int .u8 z1, .int .i64 z2]) := HZ2.out.set 4 (by simp) _; have HE2 : Hid _ := hv2; clear q4 q5 hd hf hv2 HY2 HI; have q6 := HY3.out.lb.c 0 _ rfl; have q7 := HY3.out.lb.c 1 _ rfl; have ob2 := HZ2.out.obx.c 4 _ rfl; have of2 := HZ2.out.obx.f; have rw2 := HY3.out.rbx; have rA2 := rw2.c 3 _ rfl; have rB2 := rw2.c 4 _ rfl; have rI2 := rw2.c 6 _ rfl; clear rw2 HZ2)
    | (go_at_call 30; refine Calls.mono (HEn.out _ _ HY3.out.d HY3.out.dw) ?_; rintro e uE ⟨rfl, hd, hf⟩; have HX : Hid _ := HY3.out.go hd hf; clear q6 q7 hd hf HY3 HEn; have x0 := HX.out.obx.c 0 _ rfl; have x1 := HX.out.obx.c 1 _ rfl; have x2 := HX.out.obx.c 2 _ rfl; have x3 := HX.out.obx.c 3 _ rfl; have x4 := HX.out.obx.c 4 _ rfl; have y0 := HX.out.res.c 0 _ rfl; have y1 := HX.out.res.c 1 _ rfl; have y2 := HX.out.res.c 2 _ rfl; have y3 := HX.out.res.c 3 _ rfl; have y4 := HX.out.res.c 4 _ rfl; have yf := HX.out.res.f))
  have hx := HX.out
  have kk := (at_set (at_set (at_set (at_set (at_set hx.res (j := 0) (by simp) (.int .i8 d)) (j := 1) (by simp) (.int .u8 0)) (j := 2) (by simp) (.int .u8 z0)) (j := 3) (by simp) (.int .u8 z1)) (j := 4) (by simp) (.int .i64 z2))
  have g0 : (((((uE.setCell ⟨w.heap.size + 1, 0, none⟩ (.int .i8 d)).setCell ⟨w.heap.size + 1, 1, none⟩ (.int .u8 0)).setCell ⟨w.heap.size + 1, 2, none⟩ (.int .u8 z0)).setCell ⟨w.heap.size + 1, 3, none⟩ (.int .u8 z1)).setCell ⟨w.heap.size + 1, 4, none⟩ (.int .i64 z2)).cell? ⟨w.heap.size + 1, 0, none⟩ = some (.int .i8 d) := kk.c 0 _ rfl
  have g1 : (((((uE.setCell ⟨w.heap.size + 1, 0, none⟩ (.int .i8 d)).setCell ⟨w.heap.size + 1, 1, none⟩ (.int .u8 0)).setCell ⟨w.heap.size + 1, 2, none⟩ (.int .u8 z0)).setCell ⟨w.heap.size + 1, 3, none⟩ (.int .u8 z1)).setCell ⟨w.heap.size + 1, 4, none⟩ (.int .i64 z2)).cell? ⟨w.heap.size + 1, 1, none⟩ = some (.int .u8 0) := kk.c 1 _ rfl
  have g2 : (((((uE.setCell ⟨w.heap.size + 1, 0, none⟩ (.int .i8 d)).setCell ⟨w.heap.size + 1, 1, none⟩ (.int .u8 0)).setCell ⟨w.heap.size + 1, 2, none⟩ (.int .u8 z0)).setCell ⟨w.heap.size + 1, 3, none⟩ (.int .u8 z1)).setCell ⟨w.heap.size + 1, 4, none⟩ (.int .i64 z2)).cell? ⟨w.heap.size + 1, 2, none⟩ = some (.int .u8 z0) := kk.c 2 _ rfl
  have g3 : (((((uE.setCell ⟨w.heap.size + 1, 0, none⟩ (.int .i8 d)).setCell ⟨w.heap.size + 1, 1, none⟩ (.int .u8 0)).setCell ⟨w.heap.size + 1, 2, none⟩ (.int .u8 z0)).setCell ⟨w.heap.size + 1, 3, none⟩ (.int .u8 z1)).setCell ⟨w.heap.size + 1, 4, none⟩ (.int .i64 z2)).cell? ⟨w.heap.size + 1, 3, none⟩ = some (.int .u8 z1) := kk.c 3 _ rfl
  have g4 : (((((uE.setCell ⟨w.heap.size + 1, 0, none⟩ (.int .i8 d)).setCell ⟨w.heap.size + 1, 1, none⟩ (.int .u8 0)).setCell ⟨w.heap.size + 1, 2, none⟩ (.int .u8 z0)).setCell ⟨w.heap.size + 1, 3, none⟩ (.int .u8 z1)).setCell ⟨w.heap.size + 1, 4, none⟩ (.int .i64 z2)).cell? ⟨w.heap.size + 1, 4, none⟩ = some (.int .i64 z2) := kk.c 4 _ rfl
  have hg : Fr (One (w.heap.size + 1)) uE (((((uE.setCell ⟨w.heap.size + 1, 0, none⟩ (.int .i8 d)).setCell ⟨w.heap.size + 1, 1, none⟩ (.int .u8 0)).setCell ⟨w.heap.size + 1, 2, none⟩ (.int .u8 z0)).setCell ⟨w.heap.size + 1, 3, none⟩ (.int .u8 z1)).setCell ⟨w.heap.size + 1, 4, none⟩ (.int .i64 z2)) := ((((((Fr.refl (One (w.heap.size + 1)) uE).setCell (.inr rfl) _ _).setCell (.inr rfl) _ _).setCell (.inr rfl) _ _).setCell (.inr rfl) _ _).setCell (.inr rfl) _ _)
  refine bodyPost_ret (v := .agg #[.int .i8 d, .int .u8 0, .int .u8 z0, .int .u8 z1, .int .i64 z2]) (by simp [results, Tryz.results51, go_sem, g0, g1, g2, g3, g4]) rfl ⟨⟨d, 0, z0, z1, z2⟩, rfl, HP2.out z0 z1 z2 HE0.out HE1.out HE2.out, ?_, hx.f.new hg (by omega)⟩
  rw [← HP1.out]
  exact hx.d.fr hg (by omega)

theorem opst_s2 (fl : Option Wd') (d : Int) (nm : List UInt8) (cls : Int) (nn : Bool) (l : Ln) : stF (guardR (stF (guardR fl (regAt l 1))) (endsR l 2)) = stF (guardR fl (opAt d ⟨nm, cls, false, true, false, nn, false⟩ l)) := by
  simp only [opAt, Bool.false_eq_true, if_true, if_false]
  cases fl with
  | some f => rfl
  | none =>
    simp only [guardR]
    cases regAt l 1 <;> simp [stF, R.bind] <;> (cases endsR l 2 <;> rfl)
theorem opv_s2 (fl : Option Wd') (d : Int) (nm : List UInt8) (cls : Int) (nn : Bool) (l : Ln) (z0 : Int) (h0 : ∀ v0, guardR fl (regAt l 1) = .ok v0 → z0 = v0) : ∀ o0, guardR fl (opAt d ⟨nm, cls, false, true, false, nn, false⟩ l) = .ok o0 → (⟨d, 0, z0, 0, 0⟩ : O) = o0 := by
  intro o0 ho
  simp only [opAt, Bool.false_eq_true, if_true, if_false] at ho
  cases fl with
  | some f => cases ho
  | none =>
    simp only [guardR] at ho h0
    try simp only [R.bind_ok] at ho
    obtain ⟨a0, e0, ho⟩ := bind_is ho
    try simp only [R.bind_ok] at ho
    obtain ⟨_, _, ho⟩ := bind_is ho
    cases ho
    skip
    have := h0 _ e0
    subst this
    rfl

set_option maxHeartbeats 4000000 in
theorem dop_s2 (r : Nat) (p : Pw) (l : Ln) (lv : Value) (nx m : Nat) (fl : Option Wd') (d : Int) (nm : List UInt8) (cls : Int) (nn : Bool) (w : World) (h : Dr w r lv nx m fl) (hw : DW w r p l.ws) (hsh : ShortW l)
    (hO : ∀ W, Calls Tryz.prog 71 #[.int .i8 d] W fun e w' => e = .returned (.tuple #[.agg #[.string ⟨nm.toArray⟩, .int .i64 cls, .bool false, .bool true, .bool false, .bool nn, .bool false], .bool true]) ∧ Below W.heap.size W w') :
    Calls Tryz.prog 51 #[.pointer (some ⟨r, 0, none⟩), .agg #[.slice p.1 l.ws.length p.2, .int .i64 (l.en : Int)], .int .i8 d] w (OpPost r lv nx m (guardR fl (opAt d ⟨nm, cls, false, true, false, nn, false⟩ l)) w) := by
  have HO : Hid _ := hO ((w.alloc (.cells #[.slice p.1 l.ws.length p.2, .int .i64 (l.en : Int)] 45)).alloc (.cells #[.int .i8 0, .int .u8 0, .int .u8 0, .int .u8 0, .int .i64 0] 67))
  have HS : Hid (∀ w1 row, Below ((w.alloc (.cells #[.slice p.1 l.ws.length p.2, .int .i64 (l.en : Int)] 45)).alloc (.cells #[.int .i8 0, .int .u8 0, .int .u8 0, .int .u8 0, .int .i64 0] 67)).heap.size ((w.alloc (.cells #[.slice p.1 l.ws.length p.2, .int .i64 (l.en : Int)] 45)).alloc (.cells #[.int .i8 0, .int .u8 0, .int .u8 0, .int .u8 0, .int .i64 0] 67)) w1 → Oy w ((w1.alloc (.cells row 146)).alloc (.cells #[.int .i8 d, .int .u8 0, .int .u8 0, .int .u8 0, .int .i64 0] 67)) r p l lv nx m w1.heap.size (w1.heap.size + 1) fl row #[.int .i8 d, .int .u8 0, .int .u8 0, .int .u8 0, .int .i64 0]) := fun w1 row hb => Oy.start h hw hb row d
  have HA : Hid (DRegC r 1 p l lv nx m) := fun fl W h1 h2 => dreg_any r 1 p l lv nx m fl W h1 h2 hsh
  have HEn : Hid (EndC' r 2 p l lv nx m) := fun fl W h1 h2 => dend_any r 2 p l lv nx m fl W h1 h2
  have HP1 : Hid _ := opst_s2 fl d nm cls nn l
  have HP2 : Hid (∀ z0, _) := opv_s2 fl d nm cls nn l
  have hr := h.lt
  clear h hw hsh hO
  generalize guardR fl (opAt d ⟨nm, cls, false, true, false, nn, false⟩ l) = RES at *
  go_enter Tryz.func51, Tryz.ntmps51
  go_wp2_with (first
    | (go_at_call 71; refine Calls.mono HO.out ?_; rintro e w1 ⟨rfl, hb⟩; have HY0 : Hid (Oy w ((w1.alloc (.cells #[.string ⟨nm.toArray⟩, .int .i64 cls, .bool false, .bool true, .bool false, .bool nn, .bool false] 146)).alloc (.cells #[.int .i8 d, .int .u8 0, .int .u8 0, .int .u8 0, .int .i64 0] 67)) r p l lv nx m w1.heap.size (w1.heap.size + 1) fl _ #[.int .i8 d, .int .u8 0, .int .u8 0, .int .u8 0, .int .i64 0]) := HS.out w1 _ hb; have q0 := HY0.out.lb.c 0 _ rfl; have q1 := HY0.out.lb.c 1 _ rfl; clear hb HO HS)
    | (go_at_call 33; refine Calls.mono (HA.out _ _ HY0.out.d HY0.out.dw) ?_; rintro e u0 ⟨z0, rfl, hv0, hd, hf⟩; have HZ0 : Hid _ := HY0.out.go hd hf; have HY1 : Hid (Oy w (u0.setCell ⟨w1.heap.size + 1, 2, none⟩ (.int .u8 z0)) r p l lv nx m w1.heap.size (w1.heap.size + 1) (stF (guardR fl (regAt l 1))) _ #[.int .i8 d, .int .u8 0, .int .u8 z0, .int .u8 0, .int .i64 0]) := HZ0.out.set 2 (by simp) _; have HE0 : Hid _ := hv0; clear q0 q1 hd hf hv0 HY0 HA; have q2 := HY1.out.lb.c 0 _ rfl; have q3 := HY1.out.lb.c 1 _ rfl; have ob0 := HZ0.out.obx.c 2 _ rfl; have of0 := HZ0.out.obx.f; have rw0 := HY1.out.rbx; have rA0 := rw0.c 3 _ rfl; have rB0 := rw0.c 4 _ rfl; have rI0 := rw0.c 6 _ rfl; clear rw0 HZ0)
    | (go_at_call 30; refine Calls.mono (HEn.out _ _ HY1.out.d HY1.out.dw) ?_; rintro e uE ⟨rfl, hd, hf⟩; have HX : Hid _ := HY1.out.go hd hf; clear q2 q3 hd hf HY1 HEn; have x0 := HX.out.obx.c 0 _ rfl; have x1 := HX.out.obx.c 1 _ rfl; have x2 := HX.out.obx.c 2 _ rfl; have x3 := HX.out.obx.c 3 _ rfl; have x4 := HX.out.obx.c 4 _ rfl; have y0 := HX.out.res.c 0 _ rfl; have y1 := HX.out.res.c 1 _ rfl; have y2 := HX.out.res.c 2 _ rfl; have y3 := HX.out.res.c 3 _ rfl; have y4 := HX.out.res.c 4 _ rfl; have yf := HX.out.res.f))
  have hx := HX.out
  have kk := (at_set (at_set (at_set (at_set (at_set hx.res (j := 0) (by simp) (.int .i8 d)) (j := 1) (by simp) (.int .u8 0)) (j := 2) (by simp) (.int .u8 z0)) (j := 3) (by simp) (.int .u8 0)) (j := 4) (by simp) (.int .i64 0))
  have g0 : (((((uE.setCell ⟨w.heap.size + 1, 0, none⟩ (.int .i8 d)).setCell ⟨w.heap.size + 1, 1, none⟩ (.int .u8 0)).setCell ⟨w.heap.size + 1, 2, none⟩ (.int .u8 z0)).setCell ⟨w.heap.size + 1, 3, none⟩ (.int .u8 0)).setCell ⟨w.heap.size + 1, 4, none⟩ (.int .i64 0)).cell? ⟨w.heap.size + 1, 0, none⟩ = some (.int .i8 d) := kk.c 0 _ rfl
  have g1 : (((((uE.setCell ⟨w.heap.size + 1, 0, none⟩ (.int .i8 d)).setCell ⟨w.heap.size + 1, 1, none⟩ (.int .u8 0)).setCell ⟨w.heap.size + 1, 2, none⟩ (.int .u8 z0)).setCell ⟨w.heap.size + 1, 3, none⟩ (.int .u8 0)).setCell ⟨w.heap.size + 1, 4, none⟩ (.int .i64 0)).cell? ⟨w.heap.size + 1, 1, none⟩ = some (.int .u8 0) := kk.c 1 _ rfl
  have g2 : (((((uE.setCell ⟨w.heap.size + 1, 0, none⟩ (.int .i8 d)).setCell ⟨w.heap.size + 1, 1, none⟩ (.int .u8 0)).setCell ⟨w.heap.size + 1, 2, none⟩ (.int .u8 z0)).setCell ⟨w.heap.size + 1, 3, none⟩ (.int .u8 0)).setCell ⟨w.heap.size + 1, 4, none⟩ (.int .i64 0)).cell? ⟨w.heap.size + 1, 2, none⟩ = some (.int .u8 z0) := kk.c 2 _ rfl
  have g3 : (((((uE.setCell ⟨w.heap.size + 1, 0, none⟩ (.int .i8 d)).setCell ⟨w.heap.size + 1, 1, none⟩ (.int .u8 0)).setCell ⟨w.heap.size + 1, 2, none⟩ (.int .u8 z0)).setCell ⟨w.heap.size + 1, 3, none⟩ (.int .u8 0)).setCell ⟨w.heap.size + 1, 4, none⟩ (.int .i64 0)).cell? ⟨w.heap.size + 1, 3, none⟩ = some (.int .u8 0) := kk.c 3 _ rfl
  have g4 : (((((uE.setCell ⟨w.heap.size + 1, 0, none⟩ (.int .i8 d)).setCell ⟨w.heap.size + 1, 1, none⟩ (.int .u8 0)).setCell ⟨w.heap.size + 1, 2, none⟩ (.int .u8 z0)).setCell ⟨w.heap.size + 1, 3, none⟩ (.int .u8 0)).setCell ⟨w.heap.size + 1, 4, none⟩ (.int .i64 0)).cell? ⟨w.heap.size + 1, 4, none⟩ = some (.int .i64 0) := kk.c 4 _ rfl
  have hg : Fr (One (w.heap.size + 1)) uE (((((uE.setCell ⟨w.heap.size + 1, 0, none⟩ (.int .i8 d)).setCell ⟨w.heap.size + 1, 1, none⟩ (.int .u8 0)).setCell ⟨w.heap.size + 1, 2, none⟩ (.int .u8 z0)).setCell ⟨w.heap.size + 1, 3, none⟩ (.int .u8 0)).setCell ⟨w.heap.size + 1, 4, none⟩ (.int .i64 0)) := ((((((Fr.refl (One (w.heap.size + 1)) uE).setCell (.inr rfl) _ _).setCell (.inr rfl) _ _).setCell (.inr rfl) _ _).setCell (.inr rfl) _ _).setCell (.inr rfl) _ _)
  refine bodyPost_ret (v := .agg #[.int .i8 d, .int .u8 0, .int .u8 z0, .int .u8 0, .int .i64 0]) (by simp [results, Tryz.results51, go_sem, g0, g1, g2, g3, g4]) rfl ⟨⟨d, 0, z0, 0, 0⟩, rfl, HP2.out z0 HE0.out, ?_, hx.f.new hg (by omega)⟩
  rw [← HP1.out]
  exact hx.d.fr hg (by omega)

theorem six (d : Nat) (h1 : 1 ≤ d) (h2 : d ≤ 17) (k : K) (hk : kindL[d]? = some k) : (k.D, k.A, k.B, k.I) ∈ [(true, false, false, true), (true, true, true, false), (true, true, false, false), (true, true, false, true), (false, true, true, true), (false, true, false, false)] := by
  have h : ∀ j : Fin 18, 1 ≤ j.1 → (kindL[j.1]?).all (fun k => [(true, false, false, true), (true, true, true, false), (true, true, false, false), (true, true, false, true), (false, true, true, true), (false, true, false, false)].contains (k.D, k.A, k.B, k.I)) = true := by decide +kernel
  have h3 := h ⟨d, by omega⟩ h1
  rw [hk] at h3
  simpa using h3
theorem dop_any (r : Nat) (p : Pw) (l : Ln) (lv : Value) (nx m : Nat) (fl : Option Wd') (d : Nat) (k : K) (w : World) (h : Dr w r lv nx m fl) (hw : DW w r p l.ws) (hsh : ShortW l) (h1 : 1 ≤ d) (h2 : d ≤ 17) (hk : kindL[d]? = some k) :
    Calls Tryz.prog 51 #[.pointer (some ⟨r, 0, none⟩), .agg #[.slice p.1 l.ws.length p.2, .int .i64 (l.en : Int)], .int .i8 (d : Int)] w (OpPost r lv nx m (guardR fl (opAt d k l)) w) := by
  have hs := six d h1 h2 k hk
  have hO : ∀ W, Calls Tryz.prog 71 #[.int .i8 (d : Int)] W fun e w' => e = .returned (.tuple #[.agg #[.string ⟨k.name.toArray⟩, .int .i64 k.cls, .bool k.D, .bool k.A, .bool k.B, .bool k.N, .bool k.I], .bool true]) ∧ Below W.heap.size W w' := fun W => of_yes _ k W (by unfold kOf; rw [if_pos (by omega)]; exact hk)
  clear hk
  obtain ⟨nm, cls, D, A, B, nn, I⟩ := k
  simp only [List.mem_cons, Prod.mk.injEq, List.not_mem_nil, or_false] at hs hO
  rcases hs with ⟨rfl, rfl, rfl, rfl⟩ | ⟨rfl, rfl, rfl, rfl⟩ | ⟨rfl, rfl, rfl, rfl⟩ | ⟨rfl, rfl, rfl, rfl⟩ | ⟨rfl, rfl, rfl, rfl⟩ | ⟨rfl, rfl, rfl, rfl⟩
  · exact dop_s9 r p l lv nx m fl d nm cls nn w h hw hsh hO
  · exact dop_s7 r p l lv nx m fl d nm cls nn w h hw hsh hO
  · exact dop_s3 r p l lv nx m fl d nm cls nn w h hw hsh hO
  · exact dop_s11 r p l lv nx m fl d nm cls nn w h hw hsh hO
  · exact dop_s14 r p l lv nx m fl d nm cls nn w h hw hsh hO
  · exact dop_s2 r p l lv nx m fl d nm cls nn w h hw hsh hO
end Go.Proofs.YthfchelkfbboaaaGreatDoor.Pr
