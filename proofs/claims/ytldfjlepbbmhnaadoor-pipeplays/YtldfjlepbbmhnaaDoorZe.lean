/- The document's machine: an operation is issued (issue), read off the program by the walk. Conditions: the machine lies in memory, the operation is one. -/
import Derived.Test.YtldfjlepbbmhnaaDoorZd
import Derived.Test.YtldfjlepbbmhnaaDoorRf
namespace Go.Proofs.YtldfjlepbbmhnaaDoor.Pp
open Go.ChangeShapes Go.WideShapes Go.ChangeAt Go.RowKit
open _root_.Go.Proofs.YtldfjlepbbmhnaaDoor.Op _root_.Go.Proofs.YtldfjlepbbmhnaaDoor.So _root_.Go.Proofs.YtldfjlepbbmhnaaDoor.Bu
open _root_.Go.Proofs.YtldfjlepbbmhnaaDoor.Tb (Tab TabAt Bnds)
set_option maxRecDepth 20000

/-- What numbers the document's machine holds. -/
structure RM.Ok (R : RM) (L : Nat) : Prop where
  r : ∀ k, I64 (R.r k)
  m : ∀ k, I64 (R.m k)
  a : I64 R.a
  c0 : -(L : Int) ≤ R.c
  c1 : R.c ≤ 9223372036854775807
  f : ∀ y ∈ R.fl, y.t ≤ 200000000000 ∧ 0 ≤ y.n ∧ y.n < 256 ∧ (y.b = false → y.n < 32) ∧ I64 y.x
  u : ∀ y ∈ R.tu, y.1 ≤ 200000000000 ∧ I64 y.2
  lf : R.fl.length ≤ L
  lt : R.tu.length ≤ L
  lp : R.p.length ≤ L
theorem RM.Ok.mono {R : RM} {L L' : Nat} (h : R.Ok L) (hL : L ≤ L') : R.Ok L' := ⟨h.r, h.m, h.a, by have := h.c0; omega, h.c1, h.f, h.u, Nat.le_trans h.lf hL, Nat.le_trans h.lt hL, Nat.le_trans h.lp hL⟩
section
variable {W : World} {t : Tab} {bs : List Bn} {H : Rx} {R : RM}
/-- What comes of an operation. -/
def IrP (W : World) (t : Tab) (bs : List Bn) (H : Rx) (R' : RM) (e : Ending) (w' : World) : Prop := e = .returned (.tuple #[]) ∧ ∃ H', Rch w' t bs H' R' ∧ Rn W H w' H'
theorem rbox_up (h : Rch W t bs H R) (o : O) : Rch (W.alloc (.cells o.cells 55)) t bs H R ∧ Rn W H (W.alloc (.cells o.cells 55)) H ∧ At (W.alloc (.cells o.cells 55)) W.heap.size o.cells ∧ ¬ rown H W.heap.size := by
  have g : Below W.heap.size W (W.alloc (.cells o.cells 55)) := (Below.refl _ _).alloc (Nat.le_refl _) _
  exact ⟨h.up g, Rn.of g, At.new _ _ _, fun ⟨i, hi, e⟩ => absurd (h.blt i hi _ e) (by omega)⟩
set_option maxHeartbeats 4000000 in
theorem rissue_jump (k L : Nat) (o : O) (h : Rch W t bs H R) (hR : R.Ok L) (hL : L ≤ 200000000) (hs : R.s ≤ 100000000000) (hT : ∀ k, k < 4 → 1 ≤ t.l k ∧ t.l k ≤ 8) (hd : 0 ≤ t.d ∧ t.d ≤ 7) (hk : k < 4) (ho : OkM o) (h0 : o.op = 18) : Calls Tryd.prog 52 #[ptr H.mb, .int .i64 (k : Int), o.val] W fun e w' => IrP W t bs H (goesR t R o) e w' := by
  have _hU : True := (fun _ _ _ _ _ _ => trivial) hR hL hs hT hd hk
  have HC : Hid (∀ V, Rch V t bs H R → Calls Tryd.prog 65 #[ptr H.mb, .agg #[.int .i8 o.op, .int .u8 o.d, .int .u8 o.a, .int .u8 o.b, .int .i64 o.im]] V fun e w' => e = .returned (.tuple #[]) ∧ ∃ H', Rch w' t bs H' (goesR t R o) ∧ Rn V H w' H') := fun V hV => rgoes_any o hV hd hs (by have := hR.lt; omega)
  have a0 := ho.ok.a0
  have a1 := ho.regs.2.1
  have b0 := ho.ok.b0
  have b1 := ho.regs.2.2
  have HX : Hid _ := rbox_up h o
  have hb17 : (o.op == 17) = false := by rw [h0]; rfl
  have hb16 : (o.op == 16) = false := by rw [h0]; rfl
  have hb15 : (o.op == 15) = false := by rw [h0]; rfl
  have hb18 : (o.op == 18) = true := by rw [h0]; rfl
  clear h ho h0 hR hs hd hT
  go_enter Tryd.func52, Tryd.ntmps52
  go_upto_region 1 with fail
  generalize (W.alloc (.cells o.cells 55)) = X at *
  have q1 := HX.out.1.c.rs
  have q2 := HX.out.1.rr.c o.a.toNat (by omega)
  have q3 := HX.out.1.rr.c o.b.toNat (by omega)
  have y0 := HX.out.2.2.1.c 0 _ rfl
  have y1 := HX.out.2.2.1.c 1 _ rfl
  have y2 := HX.out.2.2.1.c 2 _ rfl
  have y3 := HX.out.2.2.1.c 3 _ rfl
  have y4 := HX.out.2.2.1.c 4 _ rfl
  have yl := HX.out.2.2.1.lt
  have ql := HX.out.1.c.lt
  have qr := HX.out.1.rr.lt
  go_quiet (fail)
  rename Nat => n1
  go_upto_region 2 with fail
  go_quiet (fail)
  rename Nat => n2
  go_upto_region 15 with fail
  have HY : Hid (Rch (X.drewN (n1 + n2)) t bs H R ∧ Rn W H (X.drewN (n1 + n2)) H ∧ At (X.drewN (n1 + n2)) W.heap.size o.cells) := ⟨HX.out.1.up (drewN_below (Below.refl _ X) _), HX.out.2.1.up (drewN_below (Below.refl _ X) _), HX.out.2.2.1.below (drewN_below (Below.refl _ X) _) HX.out.2.2.1.lt⟩
  generalize X.drewN (n1 + n2) = Y at *
  have x0 := HY.out.2.2.c 0 _ rfl
  have x1 := HY.out.2.2.c 1 _ rfl
  have x2 := HY.out.2.2.c 2 _ rfl
  have x3 := HY.out.2.2.c 3 _ rfl
  have x4 := HY.out.2.2.c 4 _ rfl
  have xl := HY.out.2.2.lt
  go_wp2_with (first | (go_at_call 65; refine Calls.mono (HC.out _ HY.out.1) ?_; rintro e w7 ⟨rfl, H', m7, t7⟩; have HZ : Hid (∃ H', Rch w7 t bs H' (goesR t R o) ∧ Rn W H w7 H') := ⟨H', m7, HY.out.2.1.trans t7⟩; clear m7 t7))
  go_end0
  exact ⟨rfl, HZ.out⟩
set_option maxHeartbeats 4000000 in
theorem rissue_branch_yes (k L : Nat) (o : O) (h : Rch W t bs H R) (hR : R.Ok L) (hL : L ≤ 200000000) (hs : R.s ≤ 100000000000) (hT : ∀ k, k < 4 → 1 ≤ t.l k ∧ t.l k ≤ 8) (hd : 0 ≤ t.d ∧ t.d ≤ 7) (hk : k < 4) (ho : OkM o) (h0 : o.op = 19) (hc : R.r o.a.toNat ≠ 0) : Calls Tryd.prog 52 #[ptr H.mb, .int .i64 (k : Int), o.val] W fun e w' => IrP W t bs H (goesR t R o) e w' := by
  have _hU : True := (fun _ _ _ _ _ _ => trivial) hR hL hs hT hd hk
  have HC : Hid (∀ V, Rch V t bs H R → Calls Tryd.prog 65 #[ptr H.mb, .agg #[.int .i8 o.op, .int .u8 o.d, .int .u8 o.a, .int .u8 o.b, .int .i64 o.im]] V fun e w' => e = .returned (.tuple #[]) ∧ ∃ H', Rch w' t bs H' (goesR t R o) ∧ Rn V H w' H') := fun V hV => rgoes_any o hV hd hs (by have := hR.lt; omega)
  have ht : (R.r o.a.toNat == 0) = false := by simpa using hc
  have a0 := ho.ok.a0
  have a1 := ho.regs.2.1
  have b0 := ho.ok.b0
  have b1 := ho.regs.2.2
  have HX : Hid _ := rbox_up h o
  have hb17 : (o.op == 17) = false := by rw [h0]; rfl
  have hb16 : (o.op == 16) = false := by rw [h0]; rfl
  have hb15 : (o.op == 15) = false := by rw [h0]; rfl
  have hb18 : (o.op == 18) = false := by rw [h0]; rfl
  have hb19 : (o.op == 19) = true := by rw [h0]; rfl
  clear h ho h0 hc hR hs hd hT
  go_enter Tryd.func52, Tryd.ntmps52
  go_upto_region 1 with fail
  generalize (W.alloc (.cells o.cells 55)) = X at *
  have q1 := HX.out.1.c.rs
  have q2 := HX.out.1.rr.c o.a.toNat (by omega)
  have q3 := HX.out.1.rr.c o.b.toNat (by omega)
  have y0 := HX.out.2.2.1.c 0 _ rfl
  have y1 := HX.out.2.2.1.c 1 _ rfl
  have y2 := HX.out.2.2.1.c 2 _ rfl
  have y3 := HX.out.2.2.1.c 3 _ rfl
  have y4 := HX.out.2.2.1.c 4 _ rfl
  have yl := HX.out.2.2.1.lt
  have ql := HX.out.1.c.lt
  have qr := HX.out.1.rr.lt
  go_quiet (fail)
  rename Nat => n1
  go_upto_region 2 with fail
  go_quiet (fail)
  rename Nat => n2
  go_upto_region 17 with fail
  have HY : Hid (Rch (X.drewN (n1 + n2)) t bs H R ∧ Rn W H (X.drewN (n1 + n2)) H ∧ At (X.drewN (n1 + n2)) W.heap.size o.cells) := ⟨HX.out.1.up (drewN_below (Below.refl _ X) _), HX.out.2.1.up (drewN_below (Below.refl _ X) _), HX.out.2.2.1.below (drewN_below (Below.refl _ X) _) HX.out.2.2.1.lt⟩
  generalize X.drewN (n1 + n2) = Y at *
  have x0 := HY.out.2.2.c 0 _ rfl
  have x1 := HY.out.2.2.c 1 _ rfl
  have x2 := HY.out.2.2.c 2 _ rfl
  have x3 := HY.out.2.2.c 3 _ rfl
  have x4 := HY.out.2.2.c 4 _ rfl
  have xl := HY.out.2.2.lt
  go_wp2_with (first | (go_at_call 65; refine Calls.mono (HC.out _ HY.out.1) ?_; rintro e w7 ⟨rfl, H', m7, t7⟩; have HZ : Hid (∃ H', Rch w7 t bs H' (goesR t R o) ∧ Rn W H w7 H') := ⟨H', m7, HY.out.2.1.trans t7⟩; clear m7 t7))
  go_end0
  exact ⟨rfl, HZ.out⟩
set_option maxHeartbeats 4000000 in
theorem rissue_branch_no (k L : Nat) (o : O) (h : Rch W t bs H R) (hR : R.Ok L) (hL : L ≤ 200000000) (hs : R.s ≤ 100000000000) (hT : ∀ k, k < 4 → 1 ≤ t.l k ∧ t.l k ≤ 8) (hd : 0 ≤ t.d ∧ t.d ≤ 7) (hk : k < 4) (ho : OkM o) (h0 : o.op = 19) (hc : ¬ R.r o.a.toNat ≠ 0) : Calls Tryd.prog 52 #[ptr H.mb, .int .i64 (k : Int), o.val] W fun e w' => IrP W t bs H (R) e w' := by
  have _hU : True := (fun _ _ _ _ _ _ => trivial) hR hL hs hT hd hk
  have ht : (R.r o.a.toNat == 0) = true := by simpa using hc
  have a0 := ho.ok.a0
  have a1 := ho.regs.2.1
  have b0 := ho.ok.b0
  have b1 := ho.regs.2.2
  have HX : Hid _ := rbox_up h o
  have hb17 : (o.op == 17) = false := by rw [h0]; rfl
  have hb16 : (o.op == 16) = false := by rw [h0]; rfl
  have hb15 : (o.op == 15) = false := by rw [h0]; rfl
  have hb18 : (o.op == 18) = false := by rw [h0]; rfl
  have hb19 : (o.op == 19) = true := by rw [h0]; rfl
  clear h ho h0 hc hR hs hd hT
  go_enter Tryd.func52, Tryd.ntmps52
  go_upto_region 1 with fail
  generalize (W.alloc (.cells o.cells 55)) = X at *
  have q1 := HX.out.1.c.rs
  have q2 := HX.out.1.rr.c o.a.toNat (by omega)
  have q3 := HX.out.1.rr.c o.b.toNat (by omega)
  have y0 := HX.out.2.2.1.c 0 _ rfl
  have y1 := HX.out.2.2.1.c 1 _ rfl
  have y2 := HX.out.2.2.1.c 2 _ rfl
  have y3 := HX.out.2.2.1.c 3 _ rfl
  have y4 := HX.out.2.2.1.c 4 _ rfl
  have yl := HX.out.2.2.1.lt
  have ql := HX.out.1.c.lt
  have qr := HX.out.1.rr.lt
  go_quiet (fail)
  rename Nat => n1
  go_upto_region 2 with fail
  go_quiet (fail)
  rename Nat => n2
  go_upto_region 17 with fail
  have HY : Hid (Rch (X.drewN (n1 + n2)) t bs H R ∧ Rn W H (X.drewN (n1 + n2)) H ∧ At (X.drewN (n1 + n2)) W.heap.size o.cells) := ⟨HX.out.1.up (drewN_below (Below.refl _ X) _), HX.out.2.1.up (drewN_below (Below.refl _ X) _), HX.out.2.2.1.below (drewN_below (Below.refl _ X) _) HX.out.2.2.1.lt⟩
  generalize X.drewN (n1 + n2) = Y at *
  have x0 := HY.out.2.2.c 0 _ rfl
  have x1 := HY.out.2.2.c 1 _ rfl
  have x2 := HY.out.2.2.c 2 _ rfl
  have x3 := HY.out.2.2.c 3 _ rfl
  have x4 := HY.out.2.2.c 4 _ rfl
  have xl := HY.out.2.2.lt
  go_wp2_with fail
  go_end0
  exact ⟨rfl, H, HY.out.1, HY.out.2.1⟩
set_option maxHeartbeats 4000000 in
theorem rissue_short_yes (k L : Nat) (o : O) (h : Rch W t bs H R) (hR : R.Ok L) (hL : L ≤ 200000000) (hs : R.s ≤ 100000000000) (hT : ∀ k, k < 4 → 1 ≤ t.l k ∧ t.l k ≤ 8) (hd : 0 ≤ t.d ∧ t.d ≤ 7) (hk : k < 4) (ho : OkM o) (h0 : o.op = 22) (hc : R.r o.a.toNat < o.b) : Calls Tryd.prog 52 #[ptr H.mb, .int .i64 (k : Int), o.val] W fun e w' => IrP W t bs H (goesR t R o) e w' := by
  have _hU : True := (fun _ _ _ _ _ _ => trivial) hR hL hs hT hd hk
  have HC : Hid (∀ V, Rch V t bs H R → Calls Tryd.prog 65 #[ptr H.mb, .agg #[.int .i8 o.op, .int .u8 o.d, .int .u8 o.a, .int .u8 o.b, .int .i64 o.im]] V fun e w' => e = .returned (.tuple #[]) ∧ ∃ H', Rch w' t bs H' (goesR t R o) ∧ Rn V H w' H') := fun V hV => rgoes_any o hV hd hs (by have := hR.lt; omega)
  have ht : decide (R.r o.a.toNat < o.b) = true := by simpa using hc
  have hw : IntKind.i64.wrap o.b = o.b := by have := ho.ok.b0; have := ho.regs.2.2; rw [IntKind.wrap_i64]; omega
  have a0 := ho.ok.a0
  have a1 := ho.regs.2.1
  have b0 := ho.ok.b0
  have b1 := ho.regs.2.2
  have HX : Hid _ := rbox_up h o
  have hb17 : (o.op == 17) = false := by rw [h0]; rfl
  have hb16 : (o.op == 16) = false := by rw [h0]; rfl
  have hb15 : (o.op == 15) = false := by rw [h0]; rfl
  have hb18 : (o.op == 18) = false := by rw [h0]; rfl
  have hb19 : (o.op == 19) = false := by rw [h0]; rfl
  have hb22 : (o.op == 22) = true := by rw [h0]; rfl
  clear h ho h0 hc hR hs hd hT
  go_enter Tryd.func52, Tryd.ntmps52
  go_upto_region 1 with fail
  generalize (W.alloc (.cells o.cells 55)) = X at *
  have q1 := HX.out.1.c.rs
  have q2 := HX.out.1.rr.c o.a.toNat (by omega)
  have q3 := HX.out.1.rr.c o.b.toNat (by omega)
  have y0 := HX.out.2.2.1.c 0 _ rfl
  have y1 := HX.out.2.2.1.c 1 _ rfl
  have y2 := HX.out.2.2.1.c 2 _ rfl
  have y3 := HX.out.2.2.1.c 3 _ rfl
  have y4 := HX.out.2.2.1.c 4 _ rfl
  have yl := HX.out.2.2.1.lt
  have ql := HX.out.1.c.lt
  have qr := HX.out.1.rr.lt
  go_quiet (fail)
  rename Nat => n1
  go_upto_region 2 with fail
  go_quiet (fail)
  rename Nat => n2
  go_upto_region 20 with fail
  have HY : Hid (Rch (X.drewN (n1 + n2)) t bs H R ∧ Rn W H (X.drewN (n1 + n2)) H ∧ At (X.drewN (n1 + n2)) W.heap.size o.cells) := ⟨HX.out.1.up (drewN_below (Below.refl _ X) _), HX.out.2.1.up (drewN_below (Below.refl _ X) _), HX.out.2.2.1.below (drewN_below (Below.refl _ X) _) HX.out.2.2.1.lt⟩
  generalize X.drewN (n1 + n2) = Y at *
  have x0 := HY.out.2.2.c 0 _ rfl
  have x1 := HY.out.2.2.c 1 _ rfl
  have x2 := HY.out.2.2.c 2 _ rfl
  have x3 := HY.out.2.2.c 3 _ rfl
  have x4 := HY.out.2.2.c 4 _ rfl
  have xl := HY.out.2.2.lt
  go_wp2_with (first | (go_at_call 65; refine Calls.mono (HC.out _ HY.out.1) ?_; rintro e w7 ⟨rfl, H', m7, t7⟩; have HZ : Hid (∃ H', Rch w7 t bs H' (goesR t R o) ∧ Rn W H w7 H') := ⟨H', m7, HY.out.2.1.trans t7⟩; clear m7 t7))
  go_end0
  exact ⟨rfl, HZ.out⟩
set_option maxHeartbeats 4000000 in
theorem rissue_short_no (k L : Nat) (o : O) (h : Rch W t bs H R) (hR : R.Ok L) (hL : L ≤ 200000000) (hs : R.s ≤ 100000000000) (hT : ∀ k, k < 4 → 1 ≤ t.l k ∧ t.l k ≤ 8) (hd : 0 ≤ t.d ∧ t.d ≤ 7) (hk : k < 4) (ho : OkM o) (h0 : o.op = 22) (hc : ¬ R.r o.a.toNat < o.b) : Calls Tryd.prog 52 #[ptr H.mb, .int .i64 (k : Int), o.val] W fun e w' => IrP W t bs H (R) e w' := by
  have _hU : True := (fun _ _ _ _ _ _ => trivial) hR hL hs hT hd hk
  have ht : decide (R.r o.a.toNat < o.b) = false := by simpa using hc
  have hw : IntKind.i64.wrap o.b = o.b := by have := ho.ok.b0; have := ho.regs.2.2; rw [IntKind.wrap_i64]; omega
  have a0 := ho.ok.a0
  have a1 := ho.regs.2.1
  have b0 := ho.ok.b0
  have b1 := ho.regs.2.2
  have HX : Hid _ := rbox_up h o
  have hb17 : (o.op == 17) = false := by rw [h0]; rfl
  have hb16 : (o.op == 16) = false := by rw [h0]; rfl
  have hb15 : (o.op == 15) = false := by rw [h0]; rfl
  have hb18 : (o.op == 18) = false := by rw [h0]; rfl
  have hb19 : (o.op == 19) = false := by rw [h0]; rfl
  have hb22 : (o.op == 22) = true := by rw [h0]; rfl
  clear h ho h0 hc hR hs hd hT
  go_enter Tryd.func52, Tryd.ntmps52
  go_upto_region 1 with fail
  generalize (W.alloc (.cells o.cells 55)) = X at *
  have q1 := HX.out.1.c.rs
  have q2 := HX.out.1.rr.c o.a.toNat (by omega)
  have q3 := HX.out.1.rr.c o.b.toNat (by omega)
  have y0 := HX.out.2.2.1.c 0 _ rfl
  have y1 := HX.out.2.2.1.c 1 _ rfl
  have y2 := HX.out.2.2.1.c 2 _ rfl
  have y3 := HX.out.2.2.1.c 3 _ rfl
  have y4 := HX.out.2.2.1.c 4 _ rfl
  have yl := HX.out.2.2.1.lt
  have ql := HX.out.1.c.lt
  have qr := HX.out.1.rr.lt
  go_quiet (fail)
  rename Nat => n1
  go_upto_region 2 with fail
  go_quiet (fail)
  rename Nat => n2
  go_upto_region 20 with fail
  have HY : Hid (Rch (X.drewN (n1 + n2)) t bs H R ∧ Rn W H (X.drewN (n1 + n2)) H ∧ At (X.drewN (n1 + n2)) W.heap.size o.cells) := ⟨HX.out.1.up (drewN_below (Below.refl _ X) _), HX.out.2.1.up (drewN_below (Below.refl _ X) _), HX.out.2.2.1.below (drewN_below (Below.refl _ X) _) HX.out.2.2.1.lt⟩
  generalize X.drewN (n1 + n2) = Y at *
  have x0 := HY.out.2.2.c 0 _ rfl
  have x1 := HY.out.2.2.c 1 _ rfl
  have x2 := HY.out.2.2.c 2 _ rfl
  have x3 := HY.out.2.2.c 3 _ rfl
  have x4 := HY.out.2.2.c 4 _ rfl
  have xl := HY.out.2.2.lt
  go_wp2_with fail
  go_end0
  exact ⟨rfl, H, HY.out.1, HY.out.2.1⟩
set_option maxHeartbeats 4000000 in
theorem rissue_count (k L : Nat) (o : O) (h : Rch W t bs H R) (hR : R.Ok L) (hL : L ≤ 200000000) (hs : R.s ≤ 100000000000) (hT : ∀ k, k < 4 → 1 ≤ t.l k ∧ t.l k ≤ 8) (hd : 0 ≤ t.d ∧ t.d ≤ 7) (hk : k < 4) (ho : OkM o) (h0 : o.op = 21) : Calls Tryd.prog 52 #[ptr H.mb, .int .i64 (k : Int), o.val] W fun e w' => IrP W t bs H ({ R with c := lessR (R.r o.a.toNat) o.im }) e w' := by
  have _hU : True := (fun _ _ _ _ _ _ => trivial) hR hL hs hT hd hk
  have HC : Hid (∀ V, Calls Tryd.prog 66 #[.int .i64 (R.r o.a.toNat), .int .i64 o.im] V fun e w' => e = .returned (.int .i64 (lessR (R.r o.a.toNat) o.im)) ∧ w' = V) := fun V => rless_any _ _ V (hR.r _) ⟨ho.ok.i0, ho.ok.i1⟩
  have a0 := ho.ok.a0
  have a1 := ho.regs.2.1
  have b0 := ho.ok.b0
  have b1 := ho.regs.2.2
  have HX : Hid _ := rbox_up h o
  have hb17 : (o.op == 17) = false := by rw [h0]; rfl
  have hb16 : (o.op == 16) = false := by rw [h0]; rfl
  have hb15 : (o.op == 15) = false := by rw [h0]; rfl
  have hb18 : (o.op == 18) = false := by rw [h0]; rfl
  have hb19 : (o.op == 19) = false := by rw [h0]; rfl
  have hb22 : (o.op == 22) = false := by rw [h0]; rfl
  have hb21 : (o.op == 21) = true := by rw [h0]; rfl
  clear h ho h0 hR hs hd hT
  go_enter Tryd.func52, Tryd.ntmps52
  go_upto_region 1 with fail
  generalize (W.alloc (.cells o.cells 55)) = X at *
  have q1 := HX.out.1.c.rs
  have q2 := HX.out.1.rr.c o.a.toNat (by omega)
  have q3 := HX.out.1.rr.c o.b.toNat (by omega)
  have y0 := HX.out.2.2.1.c 0 _ rfl
  have y1 := HX.out.2.2.1.c 1 _ rfl
  have y2 := HX.out.2.2.1.c 2 _ rfl
  have y3 := HX.out.2.2.1.c 3 _ rfl
  have y4 := HX.out.2.2.1.c 4 _ rfl
  have yl := HX.out.2.2.1.lt
  have ql := HX.out.1.c.lt
  have qr := HX.out.1.rr.lt
  go_quiet (fail)
  rename Nat => n1
  go_upto_region 2 with fail
  go_quiet (fail)
  rename Nat => n2
  go_upto_region 23 with fail
  have HY : Hid (Rch (X.drewN (n1 + n2)) t bs H R ∧ Rn W H (X.drewN (n1 + n2)) H ∧ At (X.drewN (n1 + n2)) W.heap.size o.cells) := ⟨HX.out.1.up (drewN_below (Below.refl _ X) _), HX.out.2.1.up (drewN_below (Below.refl _ X) _), HX.out.2.2.1.below (drewN_below (Below.refl _ X) _) HX.out.2.2.1.lt⟩
  generalize X.drewN (n1 + n2) = Y at *
  have x0 := HY.out.2.2.c 0 _ rfl
  have x1 := HY.out.2.2.c 1 _ rfl
  have x2 := HY.out.2.2.c 2 _ rfl
  have x3 := HY.out.2.2.c 3 _ rfl
  have x4 := HY.out.2.2.c 4 _ rfl
  have xl := HY.out.2.2.lt
  have z1 := HY.out.1.c.c
  have z2 := HY.out.1.c.fz
  have z3 := HY.out.1.c.lt
  go_wp2_with (first | (go_at_call 66; refine Calls.mono (HC.out _) ?_; rintro e w7 ⟨rfl, hw7⟩; subst hw7))
  go_end0
  have f1 := HY.out.1.one (HY.out.1.c.setC (lessR (R.r o.a.toNat) o.im)) ((Fr.refl (One H.mb) _).setCell (.inr rfl) _ _) rfl rfl rfl rfl rfl
  exact ⟨rfl, H, f1.1, HY.out.2.1.trans f1.2⟩
set_option maxHeartbeats 4000000 in
theorem rissue_again_yes (k L : Nat) (o : O) (h : Rch W t bs H R) (hR : R.Ok L) (hL : L ≤ 200000000) (hs : R.s ≤ 100000000000) (hT : ∀ k, k < 4 → 1 ≤ t.l k ∧ t.l k ≤ 8) (hd : 0 ≤ t.d ∧ t.d ≤ 7) (hk : k < 4) (ho : OkM o) (h0 : o.op = 23) (hc : 0 < R.c - 1) : Calls Tryd.prog 52 #[ptr H.mb, .int .i64 (k : Int), o.val] W fun e w' => IrP W t bs H (goesR t { R with c := R.c - 1 } o) e w' := by
  have _hU : True := (fun _ _ _ _ _ _ => trivial) hR hL hs hT hd hk
  have HC : Hid (∀ V, Rch V t bs H { R with c := R.c - 1 } → Calls Tryd.prog 65 #[ptr H.mb, .agg #[.int .i8 o.op, .int .u8 o.d, .int .u8 o.a, .int .u8 o.b, .int .i64 o.im]] V fun e w' => e = .returned (.tuple #[]) ∧ ∃ H', Rch w' t bs H' (goesR t { R with c := R.c - 1 } o) ∧ Rn V H w' H') := fun V hV => rgoes_any o hV hd hs (Nat.le_trans hR.lt (by omega))
  obtain ⟨dd, hdd⟩ : ∃ dd, R.c - 1 = dd := ⟨_, rfl⟩
  have ht : decide (0 < R.c - 1) = true := by simpa using hc
  have hw : IntKind.i64.wrap (R.c - 1) = R.c - 1 := by have := hR.c0; have := hR.c1; rw [IntKind.wrap_i64]; omega
  rw [hdd] at ht hw HC ⊢
  rw [hdd] at hc
  have hw : IntKind.i64.wrap (R.c - 1) = dd := by rw [hdd]; exact hw
  clear hdd
  have a0 := ho.ok.a0
  have a1 := ho.regs.2.1
  have b0 := ho.ok.b0
  have b1 := ho.regs.2.2
  have HX : Hid _ := rbox_up h o
  have hb17 : (o.op == 17) = false := by rw [h0]; rfl
  have hb16 : (o.op == 16) = false := by rw [h0]; rfl
  have hb15 : (o.op == 15) = false := by rw [h0]; rfl
  have hb18 : (o.op == 18) = false := by rw [h0]; rfl
  have hb19 : (o.op == 19) = false := by rw [h0]; rfl
  have hb22 : (o.op == 22) = false := by rw [h0]; rfl
  have hb21 : (o.op == 21) = false := by rw [h0]; rfl
  have hb23 : (o.op == 23) = true := by rw [h0]; rfl
  clear h ho h0 hc hR hs hd hT
  go_enter Tryd.func52, Tryd.ntmps52
  go_upto_region 1 with fail
  generalize (W.alloc (.cells o.cells 55)) = X at *
  have q1 := HX.out.1.c.rs
  have q2 := HX.out.1.rr.c o.a.toNat (by omega)
  have q3 := HX.out.1.rr.c o.b.toNat (by omega)
  have y0 := HX.out.2.2.1.c 0 _ rfl
  have y1 := HX.out.2.2.1.c 1 _ rfl
  have y2 := HX.out.2.2.1.c 2 _ rfl
  have y3 := HX.out.2.2.1.c 3 _ rfl
  have y4 := HX.out.2.2.1.c 4 _ rfl
  have yl := HX.out.2.2.1.lt
  have ql := HX.out.1.c.lt
  have qr := HX.out.1.rr.lt
  go_quiet (fail)
  rename Nat => n1
  go_upto_region 2 with fail
  go_quiet (fail)
  rename Nat => n2
  go_upto_region 25 with fail
  have HY : Hid (Rch (X.drewN (n1 + n2)) t bs H R ∧ Rn W H (X.drewN (n1 + n2)) H ∧ At (X.drewN (n1 + n2)) W.heap.size o.cells) := ⟨HX.out.1.up (drewN_below (Below.refl _ X) _), HX.out.2.1.up (drewN_below (Below.refl _ X) _), HX.out.2.2.1.below (drewN_below (Below.refl _ X) _) HX.out.2.2.1.lt⟩
  generalize X.drewN (n1 + n2) = Y at *
  have x0 := HY.out.2.2.c 0 _ rfl
  have x1 := HY.out.2.2.c 1 _ rfl
  have x2 := HY.out.2.2.c 2 _ rfl
  have x3 := HY.out.2.2.c 3 _ rfl
  have x4 := HY.out.2.2.c 4 _ rfl
  have xl := HY.out.2.2.lt
  have z1 := HY.out.1.c.c
  have z2 := HY.out.1.c.fz
  have z3 := HY.out.1.c.lt
  go_upto_region 26 with fail
  have f1 := HY.out.1.one (HY.out.1.c.setC (dd)) ((Fr.refl (One H.mb) _).setCell (.inr rfl) _ _) rfl rfl rfl rfl rfl
  have HU : Hid (Rch (Y.setCell ⟨H.mb, 17, none⟩ (.int .i64 (dd))) t bs H { R with c := dd } ∧ Rn W H (Y.setCell ⟨H.mb, 17, none⟩ (.int .i64 (dd))) H ∧ At (Y.setCell ⟨H.mb, 17, none⟩ (.int .i64 (dd))) W.heap.size o.cells) := ⟨f1.1, HY.out.2.1.trans f1.2, At.frb HY.out.2.2 f1.2.f HX.out.2.2.2⟩
  clear f1 x0 x1 x2 x3 x4 xl z1 z2 z3
  generalize Y.setCell ⟨H.mb, 17, none⟩ (.int .i64 (dd)) = Z at *
  have x0 := HU.out.2.2.c 0 _ rfl
  have x1 := HU.out.2.2.c 1 _ rfl
  have x2 := HU.out.2.2.c 2 _ rfl
  have x3 := HU.out.2.2.c 3 _ rfl
  have x4 := HU.out.2.2.c 4 _ rfl
  have xl := HU.out.2.2.lt
  have z1 : Z.cell? ⟨H.mb, 17, none⟩ = some (.int .i64 (dd)) := HU.out.1.c.c
  have z3 := HU.out.1.c.lt
  go_wp2_with (first | (go_at_call 65; refine Calls.mono (HC.out _ HU.out.1) ?_; rintro e w7 ⟨rfl, H', m7, t7⟩; have HZ : Hid (∃ H', Rch w7 t bs H' (goesR t { R with c := dd } o) ∧ Rn W H w7 H') := ⟨H', m7, HU.out.2.1.trans t7⟩; clear m7 t7))
  go_end0
  exact ⟨rfl, HZ.out⟩
set_option maxHeartbeats 4000000 in
theorem rissue_again_no (k L : Nat) (o : O) (h : Rch W t bs H R) (hR : R.Ok L) (hL : L ≤ 200000000) (hs : R.s ≤ 100000000000) (hT : ∀ k, k < 4 → 1 ≤ t.l k ∧ t.l k ≤ 8) (hd : 0 ≤ t.d ∧ t.d ≤ 7) (hk : k < 4) (ho : OkM o) (h0 : o.op = 23) (hc : ¬ 0 < R.c - 1) : Calls Tryd.prog 52 #[ptr H.mb, .int .i64 (k : Int), o.val] W fun e w' => IrP W t bs H ({ R with c := R.c - 1 }) e w' := by
  have _hU : True := (fun _ _ _ _ _ _ => trivial) hR hL hs hT hd hk
  obtain ⟨dd, hdd⟩ : ∃ dd, R.c - 1 = dd := ⟨_, rfl⟩
  have ht : decide (0 < R.c - 1) = false := by simpa using hc
  have hw : IntKind.i64.wrap (R.c - 1) = R.c - 1 := by have := hR.c0; have := hR.c1; rw [IntKind.wrap_i64]; omega
  rw [hdd] at ht hw ⊢
  rw [hdd] at hc
  have hw : IntKind.i64.wrap (R.c - 1) = dd := by rw [hdd]; exact hw
  clear hdd
  have a0 := ho.ok.a0
  have a1 := ho.regs.2.1
  have b0 := ho.ok.b0
  have b1 := ho.regs.2.2
  have HX : Hid _ := rbox_up h o
  have hb17 : (o.op == 17) = false := by rw [h0]; rfl
  have hb16 : (o.op == 16) = false := by rw [h0]; rfl
  have hb15 : (o.op == 15) = false := by rw [h0]; rfl
  have hb18 : (o.op == 18) = false := by rw [h0]; rfl
  have hb19 : (o.op == 19) = false := by rw [h0]; rfl
  have hb22 : (o.op == 22) = false := by rw [h0]; rfl
  have hb21 : (o.op == 21) = false := by rw [h0]; rfl
  have hb23 : (o.op == 23) = true := by rw [h0]; rfl
  clear h ho h0 hc hR hs hd hT
  go_enter Tryd.func52, Tryd.ntmps52
  go_upto_region 1 with fail
  generalize (W.alloc (.cells o.cells 55)) = X at *
  have q1 := HX.out.1.c.rs
  have q2 := HX.out.1.rr.c o.a.toNat (by omega)
  have q3 := HX.out.1.rr.c o.b.toNat (by omega)
  have y0 := HX.out.2.2.1.c 0 _ rfl
  have y1 := HX.out.2.2.1.c 1 _ rfl
  have y2 := HX.out.2.2.1.c 2 _ rfl
  have y3 := HX.out.2.2.1.c 3 _ rfl
  have y4 := HX.out.2.2.1.c 4 _ rfl
  have yl := HX.out.2.2.1.lt
  have ql := HX.out.1.c.lt
  have qr := HX.out.1.rr.lt
  go_quiet (fail)
  rename Nat => n1
  go_upto_region 2 with fail
  go_quiet (fail)
  rename Nat => n2
  go_upto_region 25 with fail
  have HY : Hid (Rch (X.drewN (n1 + n2)) t bs H R ∧ Rn W H (X.drewN (n1 + n2)) H ∧ At (X.drewN (n1 + n2)) W.heap.size o.cells) := ⟨HX.out.1.up (drewN_below (Below.refl _ X) _), HX.out.2.1.up (drewN_below (Below.refl _ X) _), HX.out.2.2.1.below (drewN_below (Below.refl _ X) _) HX.out.2.2.1.lt⟩
  generalize X.drewN (n1 + n2) = Y at *
  have x0 := HY.out.2.2.c 0 _ rfl
  have x1 := HY.out.2.2.c 1 _ rfl
  have x2 := HY.out.2.2.c 2 _ rfl
  have x3 := HY.out.2.2.c 3 _ rfl
  have x4 := HY.out.2.2.c 4 _ rfl
  have xl := HY.out.2.2.lt
  have z1 := HY.out.1.c.c
  have z2 := HY.out.1.c.fz
  have z3 := HY.out.1.c.lt
  go_upto_region 26 with fail
  have f1 := HY.out.1.one (HY.out.1.c.setC (dd)) ((Fr.refl (One H.mb) _).setCell (.inr rfl) _ _) rfl rfl rfl rfl rfl
  have HU : Hid (Rch (Y.setCell ⟨H.mb, 17, none⟩ (.int .i64 (dd))) t bs H { R with c := dd } ∧ Rn W H (Y.setCell ⟨H.mb, 17, none⟩ (.int .i64 (dd))) H ∧ At (Y.setCell ⟨H.mb, 17, none⟩ (.int .i64 (dd))) W.heap.size o.cells) := ⟨f1.1, HY.out.2.1.trans f1.2, At.frb HY.out.2.2 f1.2.f HX.out.2.2.2⟩
  clear f1 x0 x1 x2 x3 x4 xl z1 z2 z3
  generalize Y.setCell ⟨H.mb, 17, none⟩ (.int .i64 (dd)) = Z at *
  have x0 := HU.out.2.2.c 0 _ rfl
  have x1 := HU.out.2.2.c 1 _ rfl
  have x2 := HU.out.2.2.c 2 _ rfl
  have x3 := HU.out.2.2.c 3 _ rfl
  have x4 := HU.out.2.2.c 4 _ rfl
  have xl := HU.out.2.2.lt
  have z1 : Z.cell? ⟨H.mb, 17, none⟩ = some (.int .i64 (dd)) := HU.out.1.c.c
  have z3 := HU.out.1.c.lt
  go_wp2_with fail
  go_end0
  exact ⟨rfl, H, HU.out.1, HU.out.2.1⟩
set_option maxHeartbeats 4000000 in
theorem rissue_halt (k L : Nat) (o : O) (h : Rch W t bs H R) (hR : R.Ok L) (hL : L ≤ 200000000) (hs : R.s ≤ 100000000000) (hT : ∀ k, k < 4 → 1 ≤ t.l k ∧ t.l k ≤ 8) (hd : 0 ≤ t.d ∧ t.d ≤ 7) (hk : k < 4) (ho : OkM o) (h0 : o.op = 20) : Calls Tryd.prog 52 #[ptr H.mb, .int .i64 (k : Int), o.val] W fun e w' => IrP W t bs H ({ R with en := true, e := 0, v := R.r o.a.toNat }) e w' := by
  have _hU : True := (fun _ _ _ _ _ _ => trivial) hR hL hs hT hd hk
  have HC : Hid (∀ V, Rch V t bs H R → Calls Tryd.prog 51 #[ptr H.mb, .int .i64 0, .int .i64 (R.r o.a.toNat)] V fun e w' => e = .returned (.tuple #[]) ∧ Rch w' t bs H { R with en := true, e := 0, v := R.r o.a.toNat } ∧ Rn V H w' H) := fun V hV => rend_any 0 (R.r o.a.toNat) hV
  have a0 := ho.ok.a0
  have a1 := ho.regs.2.1
  have b0 := ho.ok.b0
  have b1 := ho.regs.2.2
  have HX : Hid _ := rbox_up h o
  have hb17 : (o.op == 17) = false := by rw [h0]; rfl
  have hb16 : (o.op == 16) = false := by rw [h0]; rfl
  have hb15 : (o.op == 15) = false := by rw [h0]; rfl
  have hb18 : (o.op == 18) = false := by rw [h0]; rfl
  have hb19 : (o.op == 19) = false := by rw [h0]; rfl
  have hb22 : (o.op == 22) = false := by rw [h0]; rfl
  have hb21 : (o.op == 21) = false := by rw [h0]; rfl
  have hb23 : (o.op == 23) = false := by rw [h0]; rfl
  have hb20 : (o.op == 20) = true := by rw [h0]; rfl
  clear h ho h0 hR hs hd hT
  go_enter Tryd.func52, Tryd.ntmps52
  go_upto_region 1 with fail
  generalize (W.alloc (.cells o.cells 55)) = X at *
  have q1 := HX.out.1.c.rs
  have q2 := HX.out.1.rr.c o.a.toNat (by omega)
  have q3 := HX.out.1.rr.c o.b.toNat (by omega)
  have y0 := HX.out.2.2.1.c 0 _ rfl
  have y1 := HX.out.2.2.1.c 1 _ rfl
  have y2 := HX.out.2.2.1.c 2 _ rfl
  have y3 := HX.out.2.2.1.c 3 _ rfl
  have y4 := HX.out.2.2.1.c 4 _ rfl
  have yl := HX.out.2.2.1.lt
  have ql := HX.out.1.c.lt
  have qr := HX.out.1.rr.lt
  go_quiet (fail)
  rename Nat => n1
  go_upto_region 2 with fail
  go_quiet (fail)
  rename Nat => n2
  go_upto_region 29 with fail
  have HY : Hid (Rch (X.drewN (n1 + n2)) t bs H R ∧ Rn W H (X.drewN (n1 + n2)) H ∧ At (X.drewN (n1 + n2)) W.heap.size o.cells) := ⟨HX.out.1.up (drewN_below (Below.refl _ X) _), HX.out.2.1.up (drewN_below (Below.refl _ X) _), HX.out.2.2.1.below (drewN_below (Below.refl _ X) _) HX.out.2.2.1.lt⟩
  generalize X.drewN (n1 + n2) = Y at *
  have x0 := HY.out.2.2.c 0 _ rfl
  have x1 := HY.out.2.2.c 1 _ rfl
  have x2 := HY.out.2.2.c 2 _ rfl
  have x3 := HY.out.2.2.c 3 _ rfl
  have x4 := HY.out.2.2.c 4 _ rfl
  have xl := HY.out.2.2.lt
  go_wp2_with (first | (go_at_call 51; refine Calls.mono (HC.out _ HY.out.1) ?_; rintro e w7 ⟨rfl, m7, t7⟩; have HZ : Hid (∃ H', Rch w7 t bs H' ({ R with en := true, e := 0, v := R.r o.a.toNat }) ∧ Rn W H w7 H') := ⟨H, m7, HY.out.2.1.trans t7⟩; clear m7 t7))
  go_end0
  exact ⟨rfl, HZ.out⟩
set_option maxHeartbeats 4000000 in
theorem rissue_const (k L : Nat) (o : O) (h : Rch W t bs H R) (hR : R.Ok L) (hL : L ≤ 200000000) (hs : R.s ≤ 100000000000) (hT : ∀ k, k < 4 → 1 ≤ t.l k ∧ t.l k ≤ 8) (hd : 0 ≤ t.d ∧ t.d ≤ 7) (hk : k < 4) (ho : OkM o) (h0 : o.op = 1) : Calls Tryd.prog 52 #[ptr H.mb, .int .i64 (k : Int), o.val] W fun e w' => IrP W t bs H (landsR t k R false o.d o.im) e w' := by
  have _hU : True := (fun _ _ _ _ _ _ => trivial) hR hL hs hT hd hk
  have HC : Hid (∀ V, Rch V t bs H R → Calls Tryd.prog 64 #[ptr H.mb, .int .i64 (k : Int), .bool false, .int .i64 (o.d), .int .i64 (o.im)] V fun e w' => e = .returned (.tuple #[]) ∧ ∃ H', Rch w' t bs H' (landsR t k R false (o.d) (o.im)) ∧ Rn V H w' H') := fun V hV => rlands_any k false (o.d) (o.im) hV hk (hT k hk) hs (by have := hR.lf; omega)
  have hw : IntKind.i64.wrap o.d = o.d := by have := ho.ok.d0; have := ho.regs.1; rw [IntKind.wrap_i64]; omega
  have a0 := ho.ok.a0
  have a1 := ho.regs.2.1
  have b0 := ho.ok.b0
  have b1 := ho.regs.2.2
  have HX : Hid _ := rbox_up h o
  have hb17 : (o.op == 17) = false := by rw [h0]; rfl
  have hb16 : (o.op == 16) = false := by rw [h0]; rfl
  have hb15 : (o.op == 15) = false := by rw [h0]; rfl
  have hb18 : (o.op == 18) = false := by rw [h0]; rfl
  have hb19 : (o.op == 19) = false := by rw [h0]; rfl
  have hb22 : (o.op == 22) = false := by rw [h0]; rfl
  have hb21 : (o.op == 21) = false := by rw [h0]; rfl
  have hb23 : (o.op == 23) = false := by rw [h0]; rfl
  have hb20 : (o.op == 20) = false := by rw [h0]; rfl
  have hb1 : (o.op == 1) = true := by rw [h0]; rfl
  clear h ho h0 hR hs hd hT
  go_enter Tryd.func52, Tryd.ntmps52
  go_upto_region 1 with fail
  generalize (W.alloc (.cells o.cells 55)) = X at *
  have q1 := HX.out.1.c.rs
  have q2 := HX.out.1.rr.c o.a.toNat (by omega)
  have q3 := HX.out.1.rr.c o.b.toNat (by omega)
  have y0 := HX.out.2.2.1.c 0 _ rfl
  have y1 := HX.out.2.2.1.c 1 _ rfl
  have y2 := HX.out.2.2.1.c 2 _ rfl
  have y3 := HX.out.2.2.1.c 3 _ rfl
  have y4 := HX.out.2.2.1.c 4 _ rfl
  have yl := HX.out.2.2.1.lt
  have ql := HX.out.1.c.lt
  have qr := HX.out.1.rr.lt
  go_quiet (fail)
  rename Nat => n1
  go_upto_region 2 with fail
  go_quiet (fail)
  rename Nat => n2
  go_upto_region 31 with fail
  have HY : Hid (Rch (X.drewN (n1 + n2)) t bs H R ∧ Rn W H (X.drewN (n1 + n2)) H ∧ At (X.drewN (n1 + n2)) W.heap.size o.cells) := ⟨HX.out.1.up (drewN_below (Below.refl _ X) _), HX.out.2.1.up (drewN_below (Below.refl _ X) _), HX.out.2.2.1.below (drewN_below (Below.refl _ X) _) HX.out.2.2.1.lt⟩
  generalize X.drewN (n1 + n2) = Y at *
  have x0 := HY.out.2.2.c 0 _ rfl
  have x1 := HY.out.2.2.c 1 _ rfl
  have x2 := HY.out.2.2.c 2 _ rfl
  have x3 := HY.out.2.2.c 3 _ rfl
  have x4 := HY.out.2.2.c 4 _ rfl
  have xl := HY.out.2.2.lt
  go_wp2_with (first | (go_at_call 64; refine Calls.mono (HC.out _ HY.out.1) ?_; rintro e w7 ⟨rfl, H', m7, t7⟩; have HZ : Hid (∃ H', Rch w7 t bs H' (landsR t k R false o.d o.im) ∧ Rn W H w7 H') := ⟨H', m7, HY.out.2.1.trans t7⟩; clear m7 t7))
  go_end0
  exact ⟨rfl, HZ.out⟩
set_option maxHeartbeats 4000000 in
theorem rissue_store (k L : Nat) (o : O) (h : Rch W t bs H R) (hR : R.Ok L) (hL : L ≤ 200000000) (hs : R.s ≤ 100000000000) (hT : ∀ k, k < 4 → 1 ≤ t.l k ∧ t.l k ≤ 8) (hd : 0 ≤ t.d ∧ t.d ≤ 7) (hk : k < 4) (ho : OkM o) (h0 : o.op = 16) : Calls Tryd.prog 52 #[ptr H.mb, .int .i64 (k : Int), o.val] W fun e w' => IrP W t bs H (landsR t k R true (celR R o) (R.r o.b.toNat)) e w' := by
  have _hU : True := (fun _ _ _ _ _ _ => trivial) hR hL hs hT hd hk
  have hce : celR R o = (R.r o.a.toNat + o.im) % 256 := rfl
  have HC : Hid (∀ V, Rch V t bs H R → Calls Tryd.prog 64 #[ptr H.mb, .int .i64 (k : Int), .bool true, .int .i64 (celR R o), .int .i64 (R.r o.b.toNat)] V fun e w' => e = .returned (.tuple #[]) ∧ ∃ H', Rch w' t bs H' (landsR t k R true (celR R o) (R.r o.b.toNat)) ∧ Rn V H w' H') := fun V hV => rlands_any k true (celR R o) (R.r o.b.toNat) hV hk (hT k hk) hs (by have := hR.lf; omega)
  have w1 : IntKind.u8.wrap (R.r o.a.toNat) = R.r o.a.toNat % 256 := by rw [IntKind.wrap_u8]
  have w2 : IntKind.u8.wrap o.im = o.im % 256 := by rw [IntKind.wrap_u8]
  have w3 : IntKind.u8.wrap (R.r o.a.toNat % 256 + o.im % 256) = celR R o := by rw [IntKind.wrap_u8, hce]; omega
  have w4 : IntKind.i64.wrap (celR R o) = celR R o := by rw [IntKind.wrap_i64, hce]; omega
  clear hce
  have a0 := ho.ok.a0
  have a1 := ho.regs.2.1
  have b0 := ho.ok.b0
  have b1 := ho.regs.2.2
  have HX : Hid _ := rbox_up h o
  have hb17 : (o.op == 17) = false := by rw [h0]; rfl
  have hb16 : (o.op == 16) = true := by rw [h0]; rfl
  clear h ho h0 hR hs hd hT
  go_enter Tryd.func52, Tryd.ntmps52
  go_upto_region 1 with fail
  generalize (W.alloc (.cells o.cells 55)) = X at *
  have q1 := HX.out.1.c.rs
  have q2 := HX.out.1.rr.c o.a.toNat (by omega)
  have q3 := HX.out.1.rr.c o.b.toNat (by omega)
  have y0 := HX.out.2.2.1.c 0 _ rfl
  have y1 := HX.out.2.2.1.c 1 _ rfl
  have y2 := HX.out.2.2.1.c 2 _ rfl
  have y3 := HX.out.2.2.1.c 3 _ rfl
  have y4 := HX.out.2.2.1.c 4 _ rfl
  have yl := HX.out.2.2.1.lt
  have ql := HX.out.1.c.lt
  have qr := HX.out.1.rr.lt
  go_quiet (fail)
  rename Nat => n1
  go_upto_region 2 with fail
  go_quiet (fail)
  rename Nat => n2
  go_upto_region 11 with fail
  have HY : Hid (Rch (X.drewN (n1 + n2)) t bs H R ∧ Rn W H (X.drewN (n1 + n2)) H ∧ At (X.drewN (n1 + n2)) W.heap.size o.cells) := ⟨HX.out.1.up (drewN_below (Below.refl _ X) _), HX.out.2.1.up (drewN_below (Below.refl _ X) _), HX.out.2.2.1.below (drewN_below (Below.refl _ X) _) HX.out.2.2.1.lt⟩
  generalize X.drewN (n1 + n2) = Y at *
  have x0 := HY.out.2.2.c 0 _ rfl
  have x1 := HY.out.2.2.c 1 _ rfl
  have x2 := HY.out.2.2.c 2 _ rfl
  have x3 := HY.out.2.2.c 3 _ rfl
  have x4 := HY.out.2.2.c 4 _ rfl
  have xl := HY.out.2.2.lt
  go_wp2_with (first | (go_at_call 64; refine Calls.mono (HC.out _ HY.out.1) ?_; rintro e w7 ⟨rfl, H', m7, t7⟩; have HZ : Hid (∃ H', Rch w7 t bs H' (landsR t k R true (celR R o) (R.r o.b.toNat)) ∧ Rn W H w7 H') := ⟨H', m7, HY.out.2.1.trans t7⟩; clear m7 t7))
  go_end0
  exact ⟨rfl, HZ.out⟩
set_option maxHeartbeats 4000000 in
theorem rissue_print (k L : Nat) (o : O) (h : Rch W t bs H R) (hR : R.Ok L) (hL : L ≤ 200000000) (hs : R.s ≤ 100000000000) (hT : ∀ k, k < 4 → 1 ≤ t.l k ∧ t.l k ≤ 8) (hd : 0 ≤ t.d ∧ t.d ≤ 7) (hk : k < 4) (ho : OkM o) (h0 : o.op = 17) : Calls Tryd.prog 52 #[ptr H.mb, .int .i64 (k : Int), o.val] W fun e w' => IrP W t bs H ({ R with p := R.p ++ [R.r o.a.toNat] }) e w' := by
  obtain ⟨i0, hi, hi2⟩ := Option.map_eq_some_iff.1 info2b
  simp only [Prod.mk.injEq] at hi2
  have HI : Hid (Tryd.prog.info? 2 = some i0 ∧ i0.zero = some (.int .i64 0) ∧ i0.size = 1 ∧ i0.bytes = 8) := ⟨hi, hi2.1, hi2.2.1, hi2.2.2⟩
  have hpl : R.p.length ≤ 1000000000 := by have := hR.lp; omega
  have _hU : True := (fun _ _ _ _ _ _ => trivial) hR hL hs hT hd hk
  have a0 := ho.ok.a0
  have a1 := ho.regs.2.1
  have b0 := ho.ok.b0
  have b1 := ho.regs.2.2
  have HX : Hid _ := rbox_up h o
  have hb17 : (o.op == 17) = true := by rw [h0]; rfl
  clear h ho h0 hR hs hd hT hi hi2
  go_enter Tryd.func52, Tryd.ntmps52
  go_upto_region 1 with fail
  generalize (W.alloc (.cells o.cells 55)) = X at *
  have q1 := HX.out.1.c.rs
  have q2 := HX.out.1.rr.c o.a.toNat (by omega)
  have q3 := HX.out.1.rr.c o.b.toNat (by omega)
  have y0 := HX.out.2.2.1.c 0 _ rfl
  have y1 := HX.out.2.2.1.c 1 _ rfl
  have y2 := HX.out.2.2.1.c 2 _ rfl
  have y3 := HX.out.2.2.1.c 3 _ rfl
  have y4 := HX.out.2.2.1.c 4 _ rfl
  have yl := HX.out.2.2.1.lt
  have ql := HX.out.1.c.lt
  have qr := HX.out.1.rr.lt
  go_quiet (fail)
  rename Nat => n1
  go_upto_region 2 with fail
  go_quiet (fail)
  rename Nat => n2
  go_upto_region 9 with fail
  have HY : Hid (Rch (X.drewN (n1 + n2)) t bs H R ∧ Rn W H (X.drewN (n1 + n2)) H ∧ At (X.drewN (n1 + n2)) W.heap.size o.cells) := ⟨HX.out.1.up (drewN_below (Below.refl _ X) _), HX.out.2.1.up (drewN_below (Below.refl _ X) _), HX.out.2.2.1.below (drewN_below (Below.refl _ X) _) HX.out.2.2.1.lt⟩
  generalize X.drewN (n1 + n2) = Y at *
  have x0 := HY.out.2.2.c 0 _ rfl
  have x1 := HY.out.2.2.c 1 _ rfl
  have x2 := HY.out.2.2.c 2 _ rfl
  have x3 := HY.out.2.2.c 3 _ rfl
  have x4 := HY.out.2.2.c 4 _ rfl
  have xl := HY.out.2.2.lt
  have p0 := HY.out.1.c.p
  have pl := HY.out.1.c.lt
  have e2 : Y.drew.heap.size = Y.heap.size := rfl
  generalize hxx : R.r o.a.toNat = x at *
  have HXe : Hid (R.r o.a.toNat = x) := hxx
  clear hxx
  obtain ⟨ao, cp, hpv⟩ := row_slice HY.out.1.pp
  have HPV : Hid (H.pv = .slice ao R.p.length cp) := hpv
  rw [hpv] at p0
  clear hpv
  have HO : Hid (Y.ownsRow 0 2 1 (.slice ao R.p.length cp) R.p.length (nums R.p)) := by rw [← HPV.out]; exact HY.out.1.pp
  go_wp2_with (first | (at_builtin; refine wpList_append_lies _ rfl _ _ 26 rfl 0 2 i0 (.int .i64 0) 1 8 Tryd.underlying26 HI.out.1 HI.out.2.1 HI.out.2.2.1 HI.out.2.2.2 rfl (by decide) (.slice ao R.p.length cp) R.p.length (nums R.p) rfl (HO.out.alloc _) ⟨Y.heap.size, 0, none⟩ 1 1 [.int .i64 x] rfl rfl (World.news_of_block (heap_alloc_new Y _)) (by simp [Value.oneCell']) (by decide) (by unfold maxLen; omega) (by omega) (Nat.zero_le _) _ rfl ?_; intro g cap2 w6 hown hgrow hg hlt3; rw [← HPV.out] at hgrow hg; have HU : Hid (RC w6 t bs.length H R ∧ Rch (w6.setCell ⟨H.mb, 24, none⟩ (.slice (some ⟨g, 0, none⟩) (R.p.length + 1) cap2)) t bs { H with pv := .slice (some ⟨g, 0, none⟩) (R.p.length + 1) cap2 } { R with p := R.p ++ [x] } ∧ Rn W H (w6.setCell ⟨H.mb, 24, none⟩ (.slice (some ⟨g, 0, none⟩) (R.p.length + 1) cap2)) { H with pv := .slice (some ⟨g, 0, none⟩) (R.p.length + 1) cap2 }) := (by have hup : Below Y.heap.size Y (Y.alloc (.cells #[.int .i64 x] 2)) := (Below.refl _ Y).alloc (Nat.le_refl _) _; have hh := (HY.out.1.up hup).rowP (v' := .slice (some ⟨g, 0, none⟩) (R.p.length + 1) cap2) (l := R.p ++ [x]) hgrow (by unfold nums at *; rw [List.map_append, List.length_append]; exact hown) (hg.elim (fun e => .inl e.symm) (fun e => .inr (.inl (congrArg some e)))); exact ⟨hh.1, hh.2.1, (HY.out.2.1.up hup).trans hh.2.2⟩); have z0 := HU.out.1.p; have z1 := HU.out.1.fz; have z2 := HU.out.1.lt; clear hown hgrow hg hlt3))
  go_end0
  refine ⟨rfl, _, ?_, HU.out.2.2⟩
  rw [HXe.out]
  exact HU.out.2.1
set_option maxHeartbeats 4000000 in
theorem rissue_load (k L : Nat) (o : O) (h : Rch W t bs H R) (hR : R.Ok L) (hL : L ≤ 200000000) (hs : R.s ≤ 100000000000) (hT : ∀ k, k < 4 → 1 ≤ t.l k ∧ t.l k ≤ 8) (hd : 0 ≤ t.d ∧ t.d ≤ 7) (hk : k < 4) (ho : OkM o) (h0 : o.op = 15) : Calls Tryd.prog 52 #[ptr H.mb, .int .i64 (k : Int), o.val] W fun e w' => IrP W t bs H (landsR t k R false o.d (R.m (celR R o).toNat)) e w' := by
  have _hU : True := (fun _ _ _ _ _ _ => trivial) hR hL hs hT hd hk
  have hce : celR R o = (R.r o.a.toNat + o.im) % 256 := rfl
  have HC : Hid (∀ V, Rch V t bs H R → Calls Tryd.prog 64 #[ptr H.mb, .int .i64 (k : Int), .bool false, .int .i64 (o.d), .int .i64 (R.m (celR R o).toNat)] V fun e w' => e = .returned (.tuple #[]) ∧ ∃ H', Rch w' t bs H' (landsR t k R false (o.d) (R.m (celR R o).toNat)) ∧ Rn V H w' H') := fun V hV => rlands_any k false (o.d) (R.m (celR R o).toNat) hV hk (hT k hk) hs (by have := hR.lf; omega)
  have w1 : IntKind.u8.wrap (R.r o.a.toNat) = R.r o.a.toNat % 256 := by rw [IntKind.wrap_u8]
  have w2 : IntKind.u8.wrap o.im = o.im % 256 := by rw [IntKind.wrap_u8]
  have w3 : IntKind.u8.wrap (R.r o.a.toNat % 256 + o.im % 256) = celR R o := by rw [IntKind.wrap_u8, hce]; omega
  have w4 : IntKind.i64.wrap o.d = o.d := by have := ho.ok.d0; have := ho.regs.1; rw [IntKind.wrap_i64]; omega
  have c0 : 0 ≤ celR R o := by rw [hce]; omega
  have c1 : celR R o < 256 := by rw [hce]; omega
  clear hce
  have a0 := ho.ok.a0
  have a1 := ho.regs.2.1
  have b0 := ho.ok.b0
  have b1 := ho.regs.2.2
  have HX : Hid _ := rbox_up h o
  have hb17 : (o.op == 17) = false := by rw [h0]; rfl
  have hb16 : (o.op == 16) = false := by rw [h0]; rfl
  have hb15 : (o.op == 15) = true := by rw [h0]; rfl
  clear h ho h0 hR hs hd hT
  go_enter Tryd.func52, Tryd.ntmps52
  go_upto_region 1 with fail
  generalize (W.alloc (.cells o.cells 55)) = X at *
  have q1 := HX.out.1.c.rs
  have q2 := HX.out.1.rr.c o.a.toNat (by omega)
  have q3 := HX.out.1.rr.c o.b.toNat (by omega)
  have y0 := HX.out.2.2.1.c 0 _ rfl
  have y1 := HX.out.2.2.1.c 1 _ rfl
  have y2 := HX.out.2.2.1.c 2 _ rfl
  have y3 := HX.out.2.2.1.c 3 _ rfl
  have y4 := HX.out.2.2.1.c 4 _ rfl
  have yl := HX.out.2.2.1.lt
  have ql := HX.out.1.c.lt
  have qr := HX.out.1.rr.lt
  go_quiet (fail)
  rename Nat => n1
  go_upto_region 2 with fail
  go_quiet (fail)
  rename Nat => n2
  go_upto_region 13 with fail
  have HY : Hid (Rch (X.drewN (n1 + n2)) t bs H R ∧ Rn W H (X.drewN (n1 + n2)) H ∧ At (X.drewN (n1 + n2)) W.heap.size o.cells) := ⟨HX.out.1.up (drewN_below (Below.refl _ X) _), HX.out.2.1.up (drewN_below (Below.refl _ X) _), HX.out.2.2.1.below (drewN_below (Below.refl _ X) _) HX.out.2.2.1.lt⟩
  have HB : Hid (¬ rown H W.heap.size) := HX.out.2.2.2
  clear HX q1 q2 q3 y0 y1 y2 y3 y4 yl ql qr
  generalize X.drewN (n1 + n2) = Y at *
  have HS : Hid (∀ V H' R', Rch V t bs H' R' → H'.mb = H.mb → H'.ub = H.ub → R'.m = R.m → V.cell? ⟨H.mb, 15, none⟩ = some (.slice (some ⟨H.ub, 0, none⟩) 256 256) ∧ V.cell? ⟨H.ub, (celR R o).toNat, none⟩ = some (.int .i64 (R.m (celR R o).toNat)) ∧ H.mb < V.heap.size ∧ H.ub < V.heap.size) := fun V H' R' m e1 e2 e3 => ⟨by rw [← e1, ← e2]; exact m.c.ms, by rw [← e2, ← e3]; exact m.mm.c _ (by omega), by rw [← e1]; exact m.c.lt, by rw [← e2]; exact m.mm.lt⟩
  have HD : Hid (Rch Y.drew t bs H R ∧ At Y.drew W.heap.size o.cells) := ⟨HY.out.1.up (Below.refl _ Y).drew, HY.out.2.2.below (Below.refl _ Y).drew HY.out.2.2.lt⟩
  refine wp_region_held_drew (S := fun V => (V.cell? ⟨H.mb, 15, none⟩ = some (.slice (some ⟨H.ub, 0, none⟩) 256 256) ∧ V.cell? ⟨H.ub, (celR R o).toNat, none⟩ = some (.int .i64 (R.m (celR R o).toNat)) ∧ H.mb < V.heap.size ∧ H.ub < V.heap.size) ∧ At V W.heap.size o.cells) (by kernel_rfl) ⟨HS.out _ H R HD.out.1 rfl rfl rfl, HD.out.2⟩ (fun hHeld => ?_)
  refine wpAnyH_take (i := 0) (v := .pointer (some ⟨H.mb, 0, none⟩)) rfl (by kernel_rfl) (by kernel_rfl) (by kernel_rfl) (fun _ _ _ h => h) (Or.inl ⟨by rfl, fun w' hSw => by (go_simp)⟩) hHeld ?_
  simp only [Act.put, List.setIfInBounds_toArray, List.set_cons_zero, List.set_cons_succ, List.getElem_cons_zero, List.getElem_toArray]
  refine wpAnyH_take (i := 1) (v := .int .i64 (k : Int)) rfl (by kernel_rfl) (by kernel_rfl) (by kernel_rfl) (fun _ _ _ h => h) (Or.inl ⟨by rfl, fun w' hSw => by (go_simp)⟩) hHeld ?_
  simp only [Act.put, List.setIfInBounds_toArray, List.set_cons_zero, List.set_cons_succ, List.getElem_cons_zero, List.getElem_cons_succ, List.getElem_toArray]
  refine wpAnyH_take (i := 2) (v := .pointer (some ⟨W.heap.size, 1, none⟩)) rfl (by kernel_rfl) (by kernel_rfl) (by kernel_rfl) (fun _ _ _ h => h) (Or.inl ⟨by rfl, fun w' hSw => by (go_simp)⟩) hHeld ?_
  simp only [Act.put, List.setIfInBounds_toArray, List.set_cons_zero, List.set_cons_succ, List.getElem_cons_zero, List.getElem_cons_succ, List.getElem_toArray]
  refine wpAnyH_take (i := 3) (v := .int .u8 o.d) rfl (by kernel_rfl) (by kernel_rfl) (by kernel_rfl) (fun _ _ _ h => h) (Or.inl ⟨by rfl, fun w' hSw => by (have y := hSw.2.c 1 _ rfl; have yl := hSw.2.lt; go_simp)⟩) hHeld ?_
  simp only [Act.put, List.setIfInBounds_toArray, List.set_cons_zero, List.set_cons_succ, List.getElem_cons_zero, List.getElem_cons_succ, List.getElem_toArray]
  refine wpAnyH_take (i := 4) (v := .int .i64 o.d) rfl (by kernel_rfl) (by kernel_rfl) (by kernel_rfl) (fun _ _ _ h => h) (Or.inl ⟨by rfl, fun w' hSw => by (go_simp)⟩) hHeld ?_
  simp only [Act.put, List.setIfInBounds_toArray, List.set_cons_zero, List.set_cons_succ, List.getElem_cons_zero, List.getElem_cons_succ, List.getElem_toArray]
  refine wpAnyH_take (i := 5) (v := .pointer (some ⟨H.mb, 0, none⟩)) rfl (by kernel_rfl) (by kernel_rfl) (by kernel_rfl) (fun _ _ _ h => h) (Or.inl ⟨by rfl, fun w' hSw => by (go_simp)⟩) hHeld ?_
  simp only [Act.put, List.setIfInBounds_toArray, List.set_cons_zero, List.set_cons_succ, List.getElem_cons_zero, List.getElem_cons_succ, List.getElem_toArray]
  refine wpAnyH_take (i := 6) (v := .pointer (some ⟨H.mb, 0, none⟩)) rfl (by kernel_rfl) (by kernel_rfl) (by kernel_rfl) (fun _ _ _ h => h) (Or.inl ⟨by rfl, fun w' hSw => by (go_simp)⟩) hHeld ?_
  simp only [Act.put, List.setIfInBounds_toArray, List.set_cons_zero, List.set_cons_succ, List.getElem_cons_zero, List.getElem_cons_succ, List.getElem_toArray]
  refine wpAnyH_take (i := 7) (v := .pointer (some ⟨H.mb, 15, none⟩)) rfl (by kernel_rfl) (by kernel_rfl) (by kernel_rfl) (fun _ _ _ h => h) (Or.inl ⟨by rfl, fun w' hSw => by (go_simp)⟩) hHeld ?_
  simp only [Act.put, List.setIfInBounds_toArray, List.set_cons_zero, List.set_cons_succ, List.getElem_cons_zero, List.getElem_cons_succ, List.getElem_toArray]
  refine wpAnyH_take (i := 8) (v := .slice (some ⟨H.ub, 0, none⟩) 256 256) rfl (by kernel_rfl) (by kernel_rfl) (by kernel_rfl) (fun _ _ _ h => h) (Or.inl ⟨by rfl, fun w' hSw => by (have y := hSw.1.1; have yl := hSw.1.2.2.1; go_simp)⟩) hHeld ?_
  simp only [Act.put, List.setIfInBounds_toArray, List.set_cons_zero, List.set_cons_succ, List.getElem_cons_zero, List.getElem_cons_succ, List.getElem_toArray]
  refine wpAnyH_take (i := 9) (v := .int .i64 (R.r o.a.toNat)) rfl (by kernel_rfl) (by kernel_rfl) (by kernel_rfl) (fun _ _ _ h => h) (Or.inl ⟨by rfl, fun w' hSw => by (go_simp)⟩) hHeld ?_
  simp only [Act.put, List.setIfInBounds_toArray, List.set_cons_zero, List.set_cons_succ, List.getElem_cons_zero, List.getElem_cons_succ, List.getElem_toArray]
  refine wpAnyH_take (i := 10) (v := .int .u8 (R.r o.a.toNat % 256)) rfl (by kernel_rfl) (by kernel_rfl) (by kernel_rfl) (fun _ _ _ h => h) (Or.inl ⟨by rfl, fun w' hSw => by (go_simp)⟩) hHeld ?_
  simp only [Act.put, List.setIfInBounds_toArray, List.set_cons_zero, List.set_cons_succ, List.getElem_cons_zero, List.getElem_cons_succ, List.getElem_toArray]
  refine wpAnyH_take (i := 11) (v := .pointer (some ⟨W.heap.size, 4, none⟩)) rfl (by kernel_rfl) (by kernel_rfl) (by kernel_rfl) (fun _ _ _ h => h) (Or.inl ⟨by rfl, fun w' hSw => by (go_simp)⟩) hHeld ?_
  simp only [Act.put, List.setIfInBounds_toArray, List.set_cons_zero, List.set_cons_succ, List.getElem_cons_zero, List.getElem_cons_succ, List.getElem_toArray]
  refine wpAnyH_take (i := 12) (v := .int .i64 o.im) rfl (by kernel_rfl) (by kernel_rfl) (by kernel_rfl) (fun _ _ _ h => h) (Or.inl ⟨by rfl, fun w' hSw => by (have y := hSw.2.c 4 _ rfl; have yl := hSw.2.lt; go_simp)⟩) hHeld ?_
  simp only [Act.put, List.setIfInBounds_toArray, List.set_cons_zero, List.set_cons_succ, List.getElem_cons_zero, List.getElem_cons_succ, List.getElem_toArray]
  refine wpAnyH_take (i := 13) (v := .int .u8 (o.im % 256)) rfl (by kernel_rfl) (by kernel_rfl) (by kernel_rfl) (fun _ _ _ h => h) (Or.inl ⟨by rfl, fun w' hSw => by (go_simp)⟩) hHeld ?_
  simp only [Act.put, List.setIfInBounds_toArray, List.set_cons_zero, List.set_cons_succ, List.getElem_cons_zero, List.getElem_cons_succ, List.getElem_toArray]
  refine wpAnyH_take (i := 14) (v := .int .u8 (celR R o)) rfl (by kernel_rfl) (by kernel_rfl) (by kernel_rfl) (fun _ _ _ h => h) (Or.inl ⟨by rfl, fun w' hSw => by (go_simp)⟩) hHeld ?_
  simp only [Act.put, List.setIfInBounds_toArray, List.set_cons_zero, List.set_cons_succ, List.getElem_cons_zero, List.getElem_cons_succ, List.getElem_toArray]
  refine wpAnyH_take (i := 15) (v := .pointer (some ⟨H.ub, (celR R o).toNat, none⟩)) rfl (by kernel_rfl) (by kernel_rfl) (by kernel_rfl) (fun _ _ _ h => h) (Or.inl ⟨by rfl, fun w' hSw => by (go_simp)⟩) hHeld ?_
  simp only [Act.put, List.setIfInBounds_toArray, List.set_cons_zero, List.set_cons_succ, List.getElem_cons_zero, List.getElem_cons_succ, List.getElem_toArray]
  refine wpAnyH_take (i := 16) (v := .int .i64 (R.m (celR R o).toNat)) rfl (by kernel_rfl) (by kernel_rfl) (by kernel_rfl) (fun _ _ _ h => h) (Or.inl ⟨by rfl, fun w' hSw => by (have y := hSw.1.2.1; have yl := hSw.1.2.2.2; go_simp)⟩) hHeld ?_
  simp only [Act.put, List.setIfInBounds_toArray, List.set_cons_zero, List.set_cons_succ, List.getElem_cons_zero, List.getElem_cons_succ, List.getElem_toArray]
  refine wpAnyH_ready (rs := [17]) (by kernel_rfl) (by simp) ?_
  refine AllReadyH.cons rfl (fun K hK => ?_) AllReadyH.nil
  go_simp
  refine Calls.mono (HC.out _ HD.out.1) ?_
  rintro e w7 ⟨rfl, H', m7, t7⟩
  have HZ : Hid (∃ H', Rch w7 t bs H' (landsR t k R false o.d (R.m (celR R o).toNat)) ∧ Rn W H w7 H') := ⟨H', m7, (HY.out.2.1.up (Below.refl _ Y).drew).trans t7⟩
  refine hK.out _ _ ⟨HS.out _ H' _ m7 t7.q t7.ub rfl, At.frb HD.out.2 t7.f HB.out⟩ (fun hHeld => ?_)
  clear hK K m7 t7
  refine wpAnyH_done (by kernel_rfl) ?_ _
  clear hHeld HS HD HC
  go_wp2_with fail
  go_end0
  exact ⟨rfl, HZ.out⟩
set_option maxHeartbeats 4000000 in
theorem rissue_other (k L : Nat) (o : O) (h : Rch W t bs H R) (hR : R.Ok L) (hL : L ≤ 200000000) (hs : R.s ≤ 100000000000) (hT : ∀ k, k < 4 → 1 ≤ t.l k ∧ t.l k ≤ 8) (hd : 0 ≤ t.d ∧ t.d ≤ 7) (hk : k < 4) (ho : OkM o) (hn : ¬ (o.op = 17 ∨ o.op = 16 ∨ o.op = 15 ∨ o.op = 18 ∨ o.op = 19 ∨ o.op = 22 ∨ o.op = 21 ∨ o.op = 23 ∨ o.op = 20 ∨ o.op = 1)) (he : rkE o.op (R.r o.b.toNat) = 0) : Calls Tryd.prog 52 #[ptr H.mb, .int .i64 (k : Int), o.val] W fun e w' => IrP W t bs H (landsR t k R false o.d (rkV o.op (R.r o.a.toNat) (R.r o.b.toNat))) e w' := by
  have _hU : True := (fun _ _ _ _ _ _ => trivial) hR hL hs hT hd hk
  have HC : Hid (∀ V, Rch V t bs H R → Calls Tryd.prog 64 #[ptr H.mb, .int .i64 (k : Int), .bool false, .int .i64 (o.d), .int .i64 (rkV o.op (R.r o.a.toNat) (R.r o.b.toNat))] V fun e w' => e = .returned (.tuple #[]) ∧ ∃ H', Rch w' t bs H' (landsR t k R false (o.d) (rkV o.op (R.r o.a.toNat) (R.r o.b.toNat))) ∧ Rn V H w' H') := fun V hV => rlands_any k false (o.d) (rkV o.op (R.r o.a.toNat) (R.r o.b.toNat)) hV hk (hT k hk) hs (by have := hR.lf; omega)
  have HK : Hid (∀ V, Calls Tryd.prog 67 #[.int .i8 o.op, .int .i64 (R.r o.a.toNat), .int .i64 (R.r o.b.toNat)] V fun e w' => e = .returned (.tuple #[.int .i64 (rkV o.op (R.r o.a.toNat) (R.r o.b.toNat)), .int .i64 (rkE o.op (R.r o.b.toNat))]) ∧ w' = V) := fun V => rf_any _ _ _ V (hR.r _).1 (hR.r _).2
  have hw : IntKind.i64.wrap o.d = o.d := by have := ho.ok.d0; have := ho.regs.1; rw [IntKind.wrap_i64]; omega
  have a0 := ho.ok.a0
  have a1 := ho.regs.2.1
  have b0 := ho.ok.b0
  have b1 := ho.regs.2.2
  have HX : Hid _ := rbox_up h o
  have hb17 : (o.op == 17) = false := by simp; omega
  have hb16 : (o.op == 16) = false := by simp; omega
  have hb15 : (o.op == 15) = false := by simp; omega
  have hb18 : (o.op == 18) = false := by simp; omega
  have hb19 : (o.op == 19) = false := by simp; omega
  have hb22 : (o.op == 22) = false := by simp; omega
  have hb21 : (o.op == 21) = false := by simp; omega
  have hb23 : (o.op == 23) = false := by simp; omega
  have hb20 : (o.op == 20) = false := by simp; omega
  have hb1 : (o.op == 1) = false := by simp; omega
  clear h ho hn hR hs hd hT
  go_enter Tryd.func52, Tryd.ntmps52
  go_upto_region 1 with fail
  generalize (W.alloc (.cells o.cells 55)) = X at *
  have q1 := HX.out.1.c.rs
  have q2 := HX.out.1.rr.c o.a.toNat (by omega)
  have q3 := HX.out.1.rr.c o.b.toNat (by omega)
  have y0 := HX.out.2.2.1.c 0 _ rfl
  have y1 := HX.out.2.2.1.c 1 _ rfl
  have y2 := HX.out.2.2.1.c 2 _ rfl
  have y3 := HX.out.2.2.1.c 3 _ rfl
  have y4 := HX.out.2.2.1.c 4 _ rfl
  have yl := HX.out.2.2.1.lt
  have ql := HX.out.1.c.lt
  have qr := HX.out.1.rr.lt
  go_quiet (fail)
  rename Nat => n1
  go_upto_region 2 with fail
  go_quiet (fail)
  rename Nat => n2
  go_upto_region 4 with fail
  have HY : Hid (Rch (X.drewN (n1 + n2)) t bs H R ∧ Rn W H (X.drewN (n1 + n2)) H ∧ At (X.drewN (n1 + n2)) W.heap.size o.cells) := ⟨HX.out.1.up (drewN_below (Below.refl _ X) _), HX.out.2.1.up (drewN_below (Below.refl _ X) _), HX.out.2.2.1.below (drewN_below (Below.refl _ X) _) HX.out.2.2.1.lt⟩
  generalize X.drewN (n1 + n2) = Y at *
  have x0 := HY.out.2.2.c 0 _ rfl
  have x1 := HY.out.2.2.c 1 _ rfl
  have x2 := HY.out.2.2.c 2 _ rfl
  have x3 := HY.out.2.2.c 3 _ rfl
  have x4 := HY.out.2.2.c 4 _ rfl
  have xl := HY.out.2.2.lt
  have hte : (rkE o.op (R.r o.b.toNat) == 0) = true := by simpa using he
  rw [he] at HK
  clear he
  go_wp2_with (first | (go_at_call 67; refine Calls.mono (HK.out _) ?_; rintro e w6 ⟨rfl, hw6⟩; subst hw6) | (go_at_call 64; refine Calls.mono (HC.out _ HY.out.1) ?_; rintro e w7 ⟨rfl, H', m7, t7⟩; have HZ : Hid (∃ H', Rch w7 t bs H' (landsR t k R false o.d (rkV o.op (R.r o.a.toNat) (R.r o.b.toNat))) ∧ Rn W H w7 H') := ⟨H', m7, HY.out.2.1.trans t7⟩; clear m7 t7))
  go_end0
  exact ⟨rfl, HZ.out⟩
set_option maxHeartbeats 4000000 in
theorem rissue_trap (k L : Nat) (o : O) (h : Rch W t bs H R) (hR : R.Ok L) (hL : L ≤ 200000000) (hs : R.s ≤ 100000000000) (hT : ∀ k, k < 4 → 1 ≤ t.l k ∧ t.l k ≤ 8) (hd : 0 ≤ t.d ∧ t.d ≤ 7) (hk : k < 4) (ho : OkM o) (hn : ¬ (o.op = 17 ∨ o.op = 16 ∨ o.op = 15 ∨ o.op = 18 ∨ o.op = 19 ∨ o.op = 22 ∨ o.op = 21 ∨ o.op = 23 ∨ o.op = 20 ∨ o.op = 1)) (he : rkE o.op (R.r o.b.toNat) ≠ 0) : Calls Tryd.prog 52 #[ptr H.mb, .int .i64 (k : Int), o.val] W fun e w' => IrP W t bs H ({ R with en := true, e := rkE o.op (R.r o.b.toNat), v := 0 }) e w' := by
  have _hU : True := (fun _ _ _ _ _ _ => trivial) hR hL hs hT hd hk
  have HC : Hid (∀ V, Rch V t bs H R → Calls Tryd.prog 51 #[ptr H.mb, .int .i64 (rkE o.op (R.r o.b.toNat)), .int .i64 0] V fun e w' => e = .returned (.tuple #[]) ∧ Rch w' t bs H { R with en := true, e := rkE o.op (R.r o.b.toNat), v := 0 } ∧ Rn V H w' H) := fun V hV => rend_any (rkE o.op (R.r o.b.toNat)) 0 hV
  have HK : Hid (∀ V, Calls Tryd.prog 67 #[.int .i8 o.op, .int .i64 (R.r o.a.toNat), .int .i64 (R.r o.b.toNat)] V fun e w' => e = .returned (.tuple #[.int .i64 (rkV o.op (R.r o.a.toNat) (R.r o.b.toNat)), .int .i64 (rkE o.op (R.r o.b.toNat))]) ∧ w' = V) := fun V => rf_any _ _ _ V (hR.r _).1 (hR.r _).2
  have hw : IntKind.i64.wrap o.d = o.d := by have := ho.ok.d0; have := ho.regs.1; rw [IntKind.wrap_i64]; omega
  have a0 := ho.ok.a0
  have a1 := ho.regs.2.1
  have b0 := ho.ok.b0
  have b1 := ho.regs.2.2
  have HX : Hid _ := rbox_up h o
  have hb17 : (o.op == 17) = false := by simp; omega
  have hb16 : (o.op == 16) = false := by simp; omega
  have hb15 : (o.op == 15) = false := by simp; omega
  have hb18 : (o.op == 18) = false := by simp; omega
  have hb19 : (o.op == 19) = false := by simp; omega
  have hb22 : (o.op == 22) = false := by simp; omega
  have hb21 : (o.op == 21) = false := by simp; omega
  have hb23 : (o.op == 23) = false := by simp; omega
  have hb20 : (o.op == 20) = false := by simp; omega
  have hb1 : (o.op == 1) = false := by simp; omega
  clear h ho hn hR hs hd hT
  go_enter Tryd.func52, Tryd.ntmps52
  go_upto_region 1 with fail
  generalize (W.alloc (.cells o.cells 55)) = X at *
  have q1 := HX.out.1.c.rs
  have q2 := HX.out.1.rr.c o.a.toNat (by omega)
  have q3 := HX.out.1.rr.c o.b.toNat (by omega)
  have y0 := HX.out.2.2.1.c 0 _ rfl
  have y1 := HX.out.2.2.1.c 1 _ rfl
  have y2 := HX.out.2.2.1.c 2 _ rfl
  have y3 := HX.out.2.2.1.c 3 _ rfl
  have y4 := HX.out.2.2.1.c 4 _ rfl
  have yl := HX.out.2.2.1.lt
  have ql := HX.out.1.c.lt
  have qr := HX.out.1.rr.lt
  go_quiet (fail)
  rename Nat => n1
  go_upto_region 2 with fail
  go_quiet (fail)
  rename Nat => n2
  go_upto_region 4 with fail
  have HY : Hid (Rch (X.drewN (n1 + n2)) t bs H R ∧ Rn W H (X.drewN (n1 + n2)) H ∧ At (X.drewN (n1 + n2)) W.heap.size o.cells) := ⟨HX.out.1.up (drewN_below (Below.refl _ X) _), HX.out.2.1.up (drewN_below (Below.refl _ X) _), HX.out.2.2.1.below (drewN_below (Below.refl _ X) _) HX.out.2.2.1.lt⟩
  generalize X.drewN (n1 + n2) = Y at *
  have x0 := HY.out.2.2.c 0 _ rfl
  have x1 := HY.out.2.2.c 1 _ rfl
  have x2 := HY.out.2.2.c 2 _ rfl
  have x3 := HY.out.2.2.c 3 _ rfl
  have x4 := HY.out.2.2.c 4 _ rfl
  have xl := HY.out.2.2.lt
  have hte : (rkE o.op (R.r o.b.toNat) == 0) = false := by simpa using he
  clear he
  go_wp2_with (first | (go_at_call 67; refine Calls.mono (HK.out _) ?_; rintro e w6 ⟨rfl, hw6⟩; subst hw6) | (go_at_call 51; refine Calls.mono (HC.out _ HY.out.1) ?_; rintro e w7 ⟨rfl, m7, t7⟩; have HZ : Hid (∃ H', Rch w7 t bs H' ({ R with en := true, e := rkE o.op (R.r o.b.toNat), v := 0 }) ∧ Rn W H w7 H') := ⟨H, m7, HY.out.2.1.trans t7⟩; clear m7 t7))
  go_end0
  exact ⟨rfl, HZ.out⟩
theorem rissue_any (k L : Nat) (o : O) (h : Rch W t bs H R) (hR : R.Ok L) (hL : L ≤ 200000000) (hs : R.s ≤ 100000000000) (hT : ∀ k, k < 4 → 1 ≤ t.l k ∧ t.l k ≤ 8) (hd : 0 ≤ t.d ∧ t.d ≤ 7) (hk : k < 4) (ho : OkM o) (h0 : o.op ≠ 0) : Calls Tryd.prog 52 #[ptr H.mb, .int .i64 (k : Int), o.val] W fun e w' => IrP W t bs H (issR t k R o) e w' := by
  unfold issR
  rw [if_neg h0]
  by_cases h17 : o.op = 17
  · rw [if_pos h17]
    exact rissue_print k L o h hR hL hs hT hd hk ho h17
  rw [if_neg h17]
  by_cases h16 : o.op = 16
  · rw [if_pos h16]
    exact rissue_store k L o h hR hL hs hT hd hk ho h16
  rw [if_neg h16]
  by_cases h15 : o.op = 15
  · rw [if_pos h15]
    exact rissue_load k L o h hR hL hs hT hd hk ho h15
  rw [if_neg h15]
  by_cases h18 : o.op = 18
  · rw [if_pos h18]
    exact rissue_jump k L o h hR hL hs hT hd hk ho h18
  rw [if_neg h18]
  by_cases h19 : o.op = 19
  · rw [if_pos h19]
    by_cases hc : R.r o.a.toNat ≠ 0
    · rw [if_pos hc]
      exact rissue_branch_yes k L o h hR hL hs hT hd hk ho h19 hc
    · rw [if_neg hc]
      exact rissue_branch_no k L o h hR hL hs hT hd hk ho h19 hc
  rw [if_neg h19]
  by_cases h22 : o.op = 22
  · rw [if_pos h22]
    by_cases hc : R.r o.a.toNat < o.b
    · rw [if_pos hc]
      exact rissue_short_yes k L o h hR hL hs hT hd hk ho h22 hc
    · rw [if_neg hc]
      exact rissue_short_no k L o h hR hL hs hT hd hk ho h22 hc
  rw [if_neg h22]
  by_cases h21 : o.op = 21
  · rw [if_pos h21]
    exact rissue_count k L o h hR hL hs hT hd hk ho h21
  rw [if_neg h21]
  by_cases h23 : o.op = 23
  · rw [if_pos h23]
    by_cases hc : 0 < R.c - 1
    · rw [if_pos hc]
      exact rissue_again_yes k L o h hR hL hs hT hd hk ho h23 hc
    · rw [if_neg hc]
      exact rissue_again_no k L o h hR hL hs hT hd hk ho h23 hc
  rw [if_neg h23]
  by_cases h20 : o.op = 20
  · rw [if_pos h20]
    exact rissue_halt k L o h hR hL hs hT hd hk ho h20
  rw [if_neg h20]
  by_cases h1 : o.op = 1
  · rw [if_pos h1]
    exact rissue_const k L o h hR hL hs hT hd hk ho h1
  rw [if_neg h1]
  have hn : ¬ (o.op = 17 ∨ o.op = 16 ∨ o.op = 15 ∨ o.op = 18 ∨ o.op = 19 ∨ o.op = 22 ∨ o.op = 21 ∨ o.op = 23 ∨ o.op = 20 ∨ o.op = 1) := by omega
  by_cases he : rkE o.op (R.r o.b.toNat) = 0
  · rw [if_pos he]
    exact rissue_other k L o h hR hL hs hT hd hk ho hn he
  · rw [if_neg he]
    exact rissue_trap k L o h hR hL hs hT hd hk ho hn he
end
end Go.Proofs.YtldfjlepbbmhnaaDoor.Pp
