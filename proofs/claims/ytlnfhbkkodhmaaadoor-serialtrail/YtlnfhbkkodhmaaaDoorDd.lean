/- What a block's end makes of the document's machine (end): read off the program by the walk. Conditions: the machine lies in memory. -/
import Derived.Test.YtlnfhbkkodhmaaaDoorDc
namespace Go.Proofs.YtlnfhbkkodhmaaaDoor.Sm
open Go.ChangeShapes Go.WideShapes Go.ChangeAt Go.RowKit
open _root_.Go.Proofs.YtlnfhbkkodhmaaaDoor.Op _root_.Go.Proofs.YtlnfhbkkodhmaaaDoor.So
set_option maxRecDepth 20000

section
variable {w : World} {q : Nat} {ba : Option Addr} {bl bc : Nat} {po : Option Addr} {pc : Nat} {M : Ma} {L : Tg}
/-- The block's box and the machine, on the way. -/
structure Ew (w W : World) (q : Nat) (cs : Array Value) (f : Nat → Value) : Prop where
  up : Fr (One q) w W
  bx : Op.At W w.heap.size cs
  at_ : DAt W q f
  ne : q < w.heap.size
theorem Ew.drew {W : World} {cs : Array Value} {f : Nat → Value} (h : Ew w W q cs f) (n : Nat) : Ew w (W.drewN n) q cs f := by
  have hb : Below W.heap.size W (W.drewN n) := ⟨rfl, rfl, rfl, Nat.le_refl _, fun _ _ => rfl⟩
  exact ⟨h.up.then hb, h.bx.below hb h.bx.lt, h.at_.up hb, h.ne⟩
theorem Ew.fr {W W' : World} {cs : Array Value} {f g : Nat → Value} (h : Ew w W q cs f) (hF : Fr (One q) W W') (hg : DAt W' q g) : Ew w W' q cs g := by
  have hn : ¬ One q w.heap.size := fun e => by have e : w.heap.size = q := e; have := h.ne; omega
  exact ⟨h.up.same hF, ⟨fun j v e => (hF.cell h.bx.lt hn j).trans (h.bx.c j v e), fun j => (hF.frozen h.bx.lt hn j).trans (h.bx.f j), Nat.lt_of_lt_of_le h.bx.lt hF.size⟩, hg, h.ne⟩
theorem Ew.set {W : World} {cs : Array Value} {f g : Nat → Value} (h : Ew w W q cs f) {k : Nat} (hk : k < 302) {v : Value} (e : updV f k v = g) : Ew w (W.setCell ⟨q, k, none⟩ v) q cs g := h.fr ((Fr.refl (One q) W).setCell (.inr (show One q q from rfl)) _ _) (by rw [← e]; exact h.at_.set hk v)
/-- What end leaves. -/
def EnPost (w : World) (q : Nat) (f : Nat → Value) (e : Ending) (w' : World) : Prop := e = .returned (.tuple #[]) ∧ DAt w' q f ∧ Fr (One q) w w'
theorem ew_start (w : World) {q : Nat} (x : Bk) (p : Pl) (h : DAt w q (dG ba bl bc po pc M L)) : Ew w (((((w.alloc (.cells (x.cells p) 57)).setCell ⟨q, 298, none⟩ (.int .i64 (M.b : Int))).setCell ⟨q, 299, none⟩ (.bool false)).setCell ⟨q, 300, none⟩ (.int .i64 (-1))).setCell ⟨q, 301, none⟩ (.bool false)) q (x.cells p) (dG ba bl bc po pc M ((M.b : Int), false, -1)) := by
  have hb : Below w.heap.size w (w.alloc (.cells (x.cells p) 57)) := (Below.refl _ _).alloc (Nat.le_refl _) _
  have h0 : Ew w (w.alloc (.cells (x.cells p) 57)) q (x.cells p) (dG ba bl bc po pc M L) := ⟨Fr.of hb, Op.At.new w _ 57, h.up hb, h.lt⟩
  have h1 := (((h0.set (k := 298) (by omega) (v := .int .i64 (M.b : Int)) rfl).set (k := 299) (by omega) (v := .bool false) rfl).set (k := 300) (by omega) (v := .int .i64 (-1)) rfl).set (k := 301) (by omega) (v := .bool false) rfl
  rw [show updV (updV (updV (updV (dG ba bl bc po pc M L) 298 (.int .i64 (M.b : Int))) 299 (.bool false)) 300 (.int .i64 (-1))) 301 (.bool false) = dG ba bl bc po pc M ((M.b : Int), false, -1) from up_l ((M.b : Int), false, -1)] at h1
  exact h1
theorem Ew.post {W : World} {cs : Array Value} {f : Nat → Value} (h : Ew w W q cs f) : EnPost w q f (.returned (.tuple #[])) W := ⟨rfl, h.at_, h.up⟩
theorem Ew.halt {W : World} {cs : Array Value} (h : Ew w W q cs (dG ba bl bc po pc M L)) (v : Int) : Ew w (((W.setCell ⟨q, 295, none⟩ (.bool true)).setCell ⟨q, 296, none⟩ (.int .i64 0)).setCell ⟨q, 297, none⟩ (.int .i64 v)) q cs (dG ba bl bc po pc { M with e := 0, v := v } L) := by
  have h1 := ((h.set (k := 295) (by omega) (v := .bool true) rfl).set (k := 296) (by omega) (v := .int .i64 0) rfl).set (k := 297) (by omega) (v := .int .i64 v) rfl
  rw [up_halt] at h1
  exact h1
theorem Ew.rounds {W : World} {cs : Array Value} (h : Ew w W q cs (dG ba bl bc po pc M L)) (n : Int) : Ew w (W.setCell ⟨q, 292, none⟩ (.int .i64 n)) q cs (dG ba bl bc po pc { M with n := n } L) := h.set (by omega) (up_n n)
theorem Ew.body {W : World} {cs : Array Value} (h : Ew w W q cs (dG ba bl bc po pc M L)) : Ew w ((W.setCell ⟨q, 290, none⟩ (.bool true)).setCell ⟨q, 291, none⟩ (.int .i64 0)) q cs (dG ba bl bc po pc { M with y := true, o := 0 } L) := (h.set (by omega) (up_y true)).set (by omega) (up_o 0)
set_option maxHeartbeats 4000000 in
theorem rend_jump (xo xy : List O) (na xt xe : Nat) (p : Pl) (ha : na < 32) (h : DAt w q (dG ba bl bc po pc M L)) :
    Calls Tryd.prog 58 #[ptr q, (Bk.mk xo 0 (na : Int) xy (xt : Int) (xe : Int)).val p] w (EnPost w q (dG ba bl bc po pc { M with b := xt, y := false, o := 0 } ((M.b : Int), false, -1))) := by
  have HS : Hid (Ew w (((((w.alloc (.cells ((Bk.mk xo 0 (na : Int) xy (xt : Int) (xe : Int)).cells p) 57)).setCell ⟨q, 298, none⟩ (.int .i64 (M.b : Int))).setCell ⟨q, 299, none⟩ (.bool false)).setCell ⟨q, 300, none⟩ (.int .i64 (-1))).setCell ⟨q, 301, none⟩ (.bool false)) q ((Bk.mk xo 0 (na : Int) xy (xt : Int) (xe : Int)).cells p) (dG ba bl bc po pc M ((M.b : Int), false, -1))) := ew_start w _ p h
  have a0 := (h.up ((Below.refl _ w).alloc (Nat.le_refl _) (.cells ((Bk.mk xo 0 (na : Int) xy (xt : Int) (xe : Int)).cells p) 57)))
  have b0 := a0.kb
  have b1 := a0.l0
  have b2 := a0.l1
  have b3 := a0.l2
  have b4 := a0.l3
  have b5 := a0.fz 298
  have b6 := a0.fz 299
  have b7 := a0.fz 300
  have b8 := a0.fz 301
  have b9 := a0.lt
  have hne : ¬ q = w.heap.size := by have := h.lt; omega
  have hne' : ¬ w.heap.size = q := fun e => hne e.symm
  have hai : (na : Int) < 32 := by omega
  clear h a0
  go_enter Tryd.func58, Tryd.ntmps58
  go_upto_region 2 with fail
  generalize (((((w.alloc (.cells ((Bk.mk xo 0 (na : Int) xy (xt : Int) (xe : Int)).cells p) 57)).setCell ⟨q, 298, none⟩ (.int .i64 (M.b : Int))).setCell ⟨q, 299, none⟩ (.bool false)).setCell ⟨q, 300, none⟩ (.int .i64 (-1))).setCell ⟨q, 301, none⟩ (.bool false)) = W at *
  clear b0 b1 b2 b3 b4 b5 b6 b7 b8 b9
  have c0 := HS.out.bx.c 0 _ rfl
  have c1 := HS.out.bx.c 1 _ rfl
  have c2 := HS.out.bx.c 2 _ rfl
  have c4 := HS.out.bx.c 4 _ rfl
  have c5 := HS.out.bx.c 5 _ rfl
  have z0 := HS.out.bx.lt
  have z1 := HS.out.at_.lt
  have k1 := HS.out.at_.kr ha
  go_wp2_with (first | (go_at_call 73; refine Calls.mono (rto_any xt HS.out.at_) ?_; rintro e w5 ⟨rfl, h5, g5⟩; have HE : Hid (EnPost w q _ (.returned (.tuple #[])) w5) := ⟨rfl, h5, HS.out.up.same g5⟩; clear h5 g5))
  go_end0
  exact HE.out
set_option maxHeartbeats 4000000 in
theorem rend_then (xo xy : List O) (na xt xe : Nat) (p : Pl) (ha : na < 32) (h : DAt w q (dG ba bl bc po pc M L)) (hr : ¬ M.r na = 0) :
    Calls Tryd.prog 58 #[ptr q, (Bk.mk xo 1 (na : Int) xy (xt : Int) (xe : Int)).val p] w (EnPost w q (dG ba bl bc po pc { M with b := xt, y := false, o := 0 } ((M.b : Int), false, -1))) := by
  have HS : Hid (Ew w (((((w.alloc (.cells ((Bk.mk xo 1 (na : Int) xy (xt : Int) (xe : Int)).cells p) 57)).setCell ⟨q, 298, none⟩ (.int .i64 (M.b : Int))).setCell ⟨q, 299, none⟩ (.bool false)).setCell ⟨q, 300, none⟩ (.int .i64 (-1))).setCell ⟨q, 301, none⟩ (.bool false)) q ((Bk.mk xo 1 (na : Int) xy (xt : Int) (xe : Int)).cells p) (dG ba bl bc po pc M ((M.b : Int), false, -1))) := ew_start w _ p h
  have a0 := (h.up ((Below.refl _ w).alloc (Nat.le_refl _) (.cells ((Bk.mk xo 1 (na : Int) xy (xt : Int) (xe : Int)).cells p) 57)))
  have b0 := a0.kb
  have b1 := a0.l0
  have b2 := a0.l1
  have b3 := a0.l2
  have b4 := a0.l3
  have b5 := a0.fz 298
  have b6 := a0.fz 299
  have b7 := a0.fz 300
  have b8 := a0.fz 301
  have b9 := a0.lt
  have hne : ¬ q = w.heap.size := by have := h.lt; omega
  have hne' : ¬ w.heap.size = q := fun e => hne e.symm
  have hai : (na : Int) < 32 := by omega
  clear h a0
  go_enter Tryd.func58, Tryd.ntmps58
  go_upto_region 2 with fail
  generalize (((((w.alloc (.cells ((Bk.mk xo 1 (na : Int) xy (xt : Int) (xe : Int)).cells p) 57)).setCell ⟨q, 298, none⟩ (.int .i64 (M.b : Int))).setCell ⟨q, 299, none⟩ (.bool false)).setCell ⟨q, 300, none⟩ (.int .i64 (-1))).setCell ⟨q, 301, none⟩ (.bool false)) = W at *
  clear b0 b1 b2 b3 b4 b5 b6 b7 b8 b9
  have c0 := HS.out.bx.c 0 _ rfl
  have c1 := HS.out.bx.c 1 _ rfl
  have c2 := HS.out.bx.c 2 _ rfl
  have c4 := HS.out.bx.c 4 _ rfl
  have c5 := HS.out.bx.c 5 _ rfl
  have z0 := HS.out.bx.lt
  have z1 := HS.out.at_.lt
  have k1 := HS.out.at_.kr ha
  go_wp2_with fail
  go_quiet (fail)
  have HS2 : Hid (Ew w (W.drewN nq) q _ (dG ba bl bc po pc M ((M.b : Int), false, -1))) := HS.out.drew nq
  clear c0 c1 c2 c4 c5 z0 z1 k1
  generalize W.drewN nq = W2 at *
  have c4 := HS2.out.bx.c 4 _ rfl
  have c5 := HS2.out.bx.c 5 _ rfl
  have z0 := HS2.out.bx.lt
  go_wp2_with (first | (go_at_call 73; refine Calls.mono (rto_any xt HS2.out.at_) ?_; rintro e w5 ⟨rfl, h5, g5⟩; have HE : Hid (EnPost w q _ (.returned (.tuple #[])) w5) := ⟨rfl, h5, HS2.out.up.same g5⟩; clear h5 g5))
  go_end0
  exact HE.out
set_option maxHeartbeats 4000000 in
theorem rend_else (xo xy : List O) (na xt xe : Nat) (p : Pl) (ha : na < 32) (h : DAt w q (dG ba bl bc po pc M L)) (hr : M.r na = 0) :
    Calls Tryd.prog 58 #[ptr q, (Bk.mk xo 1 (na : Int) xy (xt : Int) (xe : Int)).val p] w (EnPost w q (dG ba bl bc po pc { M with b := xe, y := false, o := 0 } ((M.b : Int), false, -1))) := by
  have HS : Hid (Ew w (((((w.alloc (.cells ((Bk.mk xo 1 (na : Int) xy (xt : Int) (xe : Int)).cells p) 57)).setCell ⟨q, 298, none⟩ (.int .i64 (M.b : Int))).setCell ⟨q, 299, none⟩ (.bool false)).setCell ⟨q, 300, none⟩ (.int .i64 (-1))).setCell ⟨q, 301, none⟩ (.bool false)) q ((Bk.mk xo 1 (na : Int) xy (xt : Int) (xe : Int)).cells p) (dG ba bl bc po pc M ((M.b : Int), false, -1))) := ew_start w _ p h
  have a0 := (h.up ((Below.refl _ w).alloc (Nat.le_refl _) (.cells ((Bk.mk xo 1 (na : Int) xy (xt : Int) (xe : Int)).cells p) 57)))
  have b0 := a0.kb
  have b1 := a0.l0
  have b2 := a0.l1
  have b3 := a0.l2
  have b4 := a0.l3
  have b5 := a0.fz 298
  have b6 := a0.fz 299
  have b7 := a0.fz 300
  have b8 := a0.fz 301
  have b9 := a0.lt
  have hne : ¬ q = w.heap.size := by have := h.lt; omega
  have hne' : ¬ w.heap.size = q := fun e => hne e.symm
  have hai : (na : Int) < 32 := by omega
  clear h a0
  go_enter Tryd.func58, Tryd.ntmps58
  go_upto_region 2 with fail
  generalize (((((w.alloc (.cells ((Bk.mk xo 1 (na : Int) xy (xt : Int) (xe : Int)).cells p) 57)).setCell ⟨q, 298, none⟩ (.int .i64 (M.b : Int))).setCell ⟨q, 299, none⟩ (.bool false)).setCell ⟨q, 300, none⟩ (.int .i64 (-1))).setCell ⟨q, 301, none⟩ (.bool false)) = W at *
  clear b0 b1 b2 b3 b4 b5 b6 b7 b8 b9
  have c0 := HS.out.bx.c 0 _ rfl
  have c1 := HS.out.bx.c 1 _ rfl
  have c2 := HS.out.bx.c 2 _ rfl
  have c4 := HS.out.bx.c 4 _ rfl
  have c5 := HS.out.bx.c 5 _ rfl
  have z0 := HS.out.bx.lt
  have z1 := HS.out.at_.lt
  have k1 := HS.out.at_.kr ha
  rw [hr] at k1
  go_wp2_with fail
  go_quiet (fail)
  have HS2 : Hid (Ew w (W.drewN nq) q _ (dG ba bl bc po pc M ((M.b : Int), false, -1))) := HS.out.drew nq
  clear c0 c1 c2 c4 c5 z0 z1 k1
  generalize W.drewN nq = W2 at *
  have c4 := HS2.out.bx.c 4 _ rfl
  have c5 := HS2.out.bx.c 5 _ rfl
  have z0 := HS2.out.bx.lt
  go_wp2_with (first | (go_at_call 73; refine Calls.mono (rto_any xe HS2.out.at_) ?_; rintro e w5 ⟨rfl, h5, g5⟩; have HE : Hid (EnPost w q _ (.returned (.tuple #[])) w5) := ⟨rfl, h5, HS2.out.up.same g5⟩; clear h5 g5))
  go_end0
  exact HE.out
set_option maxHeartbeats 4000000 in
theorem rend_halt (xo xy : List O) (na xt xe : Nat) (p : Pl) (ha : na < 32) (h : DAt w q (dG ba bl bc po pc M L)) :
    Calls Tryd.prog 58 #[ptr q, (Bk.mk xo 2 (na : Int) xy (xt : Int) (xe : Int)).val p] w (EnPost w q (dG ba bl bc po pc { M with e := 0, v := M.r na } ((M.b : Int), false, -1))) := by
  have HS : Hid (Ew w (((((w.alloc (.cells ((Bk.mk xo 2 (na : Int) xy (xt : Int) (xe : Int)).cells p) 57)).setCell ⟨q, 298, none⟩ (.int .i64 (M.b : Int))).setCell ⟨q, 299, none⟩ (.bool false)).setCell ⟨q, 300, none⟩ (.int .i64 (-1))).setCell ⟨q, 301, none⟩ (.bool false)) q ((Bk.mk xo 2 (na : Int) xy (xt : Int) (xe : Int)).cells p) (dG ba bl bc po pc M ((M.b : Int), false, -1))) := ew_start w _ p h
  have a0 := (h.up ((Below.refl _ w).alloc (Nat.le_refl _) (.cells ((Bk.mk xo 2 (na : Int) xy (xt : Int) (xe : Int)).cells p) 57)))
  have b0 := a0.kb
  have b1 := a0.l0
  have b2 := a0.l1
  have b3 := a0.l2
  have b4 := a0.l3
  have b5 := a0.fz 298
  have b6 := a0.fz 299
  have b7 := a0.fz 300
  have b8 := a0.fz 301
  have b9 := a0.lt
  have hne : ¬ q = w.heap.size := by have := h.lt; omega
  have hne' : ¬ w.heap.size = q := fun e => hne e.symm
  have hai : (na : Int) < 32 := by omega
  clear h a0
  go_enter Tryd.func58, Tryd.ntmps58
  go_upto_region 2 with fail
  generalize (((((w.alloc (.cells ((Bk.mk xo 2 (na : Int) xy (xt : Int) (xe : Int)).cells p) 57)).setCell ⟨q, 298, none⟩ (.int .i64 (M.b : Int))).setCell ⟨q, 299, none⟩ (.bool false)).setCell ⟨q, 300, none⟩ (.int .i64 (-1))).setCell ⟨q, 301, none⟩ (.bool false)) = W at *
  clear b0 b1 b2 b3 b4 b5 b6 b7 b8 b9
  have c0 := HS.out.bx.c 0 _ rfl
  have c1 := HS.out.bx.c 1 _ rfl
  have c2 := HS.out.bx.c 2 _ rfl
  have c4 := HS.out.bx.c 4 _ rfl
  have c5 := HS.out.bx.c 5 _ rfl
  have z0 := HS.out.bx.lt
  have z1 := HS.out.at_.lt
  have k1 := HS.out.at_.kr ha
  have k5 := HS.out.at_.kv
  have k6 := HS.out.at_.ke
  have k7 := HS.out.at_.ka
  have f5 := HS.out.at_.fz 295
  have f6 := HS.out.at_.fz 296
  have f7 := HS.out.at_.fz 297
  generalize M.r na = rv at *
  go_wp2_with fail
  go_big_region
  all_goals
    go_wp2_with fail
    go_end0
    exact ((HS.out.halt rv).drew 1).post
set_option maxHeartbeats 4000000 in
theorem rend_more (xo xy : List O) (na xt xe : Nat) (p : Pl) (ha : na < 32) (h : DAt w q (dG ba bl bc po pc M L)) (hy : M.y = true) (h0 : 0 < wrap64 (M.n - 1)) :
    Calls Tryd.prog 58 #[ptr q, (Bk.mk xo 3 (na : Int) xy (xt : Int) (xe : Int)).val p] w (EnPost w q (dG ba bl bc po pc { M with n := wrap64 (M.n - 1), y := true, o := 0 } ((M.b : Int), false, -1))) := by
  have HS : Hid (Ew w (((((w.alloc (.cells ((Bk.mk xo 3 (na : Int) xy (xt : Int) (xe : Int)).cells p) 57)).setCell ⟨q, 298, none⟩ (.int .i64 (M.b : Int))).setCell ⟨q, 299, none⟩ (.bool false)).setCell ⟨q, 300, none⟩ (.int .i64 (-1))).setCell ⟨q, 301, none⟩ (.bool false)) q ((Bk.mk xo 3 (na : Int) xy (xt : Int) (xe : Int)).cells p) (dG ba bl bc po pc M ((M.b : Int), false, -1))) := ew_start w _ p h
  have a0 := (h.up ((Below.refl _ w).alloc (Nat.le_refl _) (.cells ((Bk.mk xo 3 (na : Int) xy (xt : Int) (xe : Int)).cells p) 57)))
  have b0 := a0.kb
  have b1 := a0.l0
  have b2 := a0.l1
  have b3 := a0.l2
  have b4 := a0.l3
  have b5 := a0.fz 298
  have b6 := a0.fz 299
  have b7 := a0.fz 300
  have b8 := a0.fz 301
  have b9 := a0.lt
  have hne : ¬ q = w.heap.size := by have := h.lt; omega
  have hne' : ¬ w.heap.size = q := fun e => hne e.symm
  have hai : (na : Int) < 32 := by omega
  clear h a0
  go_enter Tryd.func58, Tryd.ntmps58
  go_upto_region 2 with fail
  generalize (((((w.alloc (.cells ((Bk.mk xo 3 (na : Int) xy (xt : Int) (xe : Int)).cells p) 57)).setCell ⟨q, 298, none⟩ (.int .i64 (M.b : Int))).setCell ⟨q, 299, none⟩ (.bool false)).setCell ⟨q, 300, none⟩ (.int .i64 (-1))).setCell ⟨q, 301, none⟩ (.bool false)) = W at *
  clear b0 b1 b2 b3 b4 b5 b6 b7 b8 b9
  have c0 := HS.out.bx.c 0 _ rfl
  have c1 := HS.out.bx.c 1 _ rfl
  have c2 := HS.out.bx.c 2 _ rfl
  have c4 := HS.out.bx.c 4 _ rfl
  have c5 := HS.out.bx.c 5 _ rfl
  have z0 := HS.out.bx.lt
  have z1 := HS.out.at_.lt
  have k1 := HS.out.at_.kr ha
  have k2 := HS.out.at_.ky
  rw [hy] at k2
  have k3 := HS.out.at_.kn
  have k4 := HS.out.at_.ko
  have f5 := HS.out.at_.fz 290
  have f6 := HS.out.at_.fz 291
  have f7 := HS.out.at_.fz 292
  go_wp2_with fail
  go_end0
  exact ((HS.out.rounds _).body).post
set_option maxHeartbeats 4000000 in
theorem rend_over (xo xy : List O) (na xt xe : Nat) (p : Pl) (ha : na < 32) (h : DAt w q (dG ba bl bc po pc M L)) (hy : M.y = true) (h0 : ¬ 0 < wrap64 (M.n - 1)) :
    Calls Tryd.prog 58 #[ptr q, (Bk.mk xo 3 (na : Int) xy (xt : Int) (xe : Int)).val p] w (EnPost w q (dG ba bl bc po pc { M with n := wrap64 (M.n - 1), b := xt, y := false, o := 0 } ((M.b : Int), false, -1))) := by
  have HS : Hid (Ew w (((((w.alloc (.cells ((Bk.mk xo 3 (na : Int) xy (xt : Int) (xe : Int)).cells p) 57)).setCell ⟨q, 298, none⟩ (.int .i64 (M.b : Int))).setCell ⟨q, 299, none⟩ (.bool false)).setCell ⟨q, 300, none⟩ (.int .i64 (-1))).setCell ⟨q, 301, none⟩ (.bool false)) q ((Bk.mk xo 3 (na : Int) xy (xt : Int) (xe : Int)).cells p) (dG ba bl bc po pc M ((M.b : Int), false, -1))) := ew_start w _ p h
  have a0 := (h.up ((Below.refl _ w).alloc (Nat.le_refl _) (.cells ((Bk.mk xo 3 (na : Int) xy (xt : Int) (xe : Int)).cells p) 57)))
  have b0 := a0.kb
  have b1 := a0.l0
  have b2 := a0.l1
  have b3 := a0.l2
  have b4 := a0.l3
  have b5 := a0.fz 298
  have b6 := a0.fz 299
  have b7 := a0.fz 300
  have b8 := a0.fz 301
  have b9 := a0.lt
  have hne : ¬ q = w.heap.size := by have := h.lt; omega
  have hne' : ¬ w.heap.size = q := fun e => hne e.symm
  have hai : (na : Int) < 32 := by omega
  clear h a0
  go_enter Tryd.func58, Tryd.ntmps58
  go_upto_region 2 with fail
  generalize (((((w.alloc (.cells ((Bk.mk xo 3 (na : Int) xy (xt : Int) (xe : Int)).cells p) 57)).setCell ⟨q, 298, none⟩ (.int .i64 (M.b : Int))).setCell ⟨q, 299, none⟩ (.bool false)).setCell ⟨q, 300, none⟩ (.int .i64 (-1))).setCell ⟨q, 301, none⟩ (.bool false)) = W at *
  clear b0 b1 b2 b3 b4 b5 b6 b7 b8 b9
  have c0 := HS.out.bx.c 0 _ rfl
  have c1 := HS.out.bx.c 1 _ rfl
  have c2 := HS.out.bx.c 2 _ rfl
  have c4 := HS.out.bx.c 4 _ rfl
  have c5 := HS.out.bx.c 5 _ rfl
  have z0 := HS.out.bx.lt
  have z1 := HS.out.at_.lt
  have k1 := HS.out.at_.kr ha
  have k2 := HS.out.at_.ky
  rw [hy] at k2
  have k3 := HS.out.at_.kn
  have k4 := HS.out.at_.ko
  have f5 := HS.out.at_.fz 290
  have f6 := HS.out.at_.fz 291
  have f7 := HS.out.at_.fz 292
  go_wp2_with (first | (go_at_call 73; refine Calls.mono (rto_any xt (HS.out.rounds (wrap64 (M.n - 1))).at_) ?_; rintro e w5 ⟨rfl, h5, g5⟩; have HE : Hid (EnPost w q _ (.returned (.tuple #[])) w5) := ⟨rfl, h5, (HS.out.rounds (wrap64 (M.n - 1))).up.same g5⟩; clear h5 g5))
  go_end0
  exact HE.out
set_option maxHeartbeats 4000000 in
theorem rend_in (xo xy : List O) (na xt xe : Nat) (p : Pl) (ha : na < 32) (h : DAt w q (dG ba bl bc po pc M L)) (hy : M.y = false) (h0 : 0 < M.r na) :
    Calls Tryd.prog 58 #[ptr q, (Bk.mk xo 3 (na : Int) xy (xt : Int) (xe : Int)).val p] w (EnPost w q (dG ba bl bc po pc { M with n := max (M.r na) 0, y := true, o := 0 } ((M.b : Int), false, -1))) := by
  have HS : Hid (Ew w (((((w.alloc (.cells ((Bk.mk xo 3 (na : Int) xy (xt : Int) (xe : Int)).cells p) 57)).setCell ⟨q, 298, none⟩ (.int .i64 (M.b : Int))).setCell ⟨q, 299, none⟩ (.bool false)).setCell ⟨q, 300, none⟩ (.int .i64 (-1))).setCell ⟨q, 301, none⟩ (.bool false)) q ((Bk.mk xo 3 (na : Int) xy (xt : Int) (xe : Int)).cells p) (dG ba bl bc po pc M ((M.b : Int), false, -1))) := ew_start w _ p h
  have a0 := (h.up ((Below.refl _ w).alloc (Nat.le_refl _) (.cells ((Bk.mk xo 3 (na : Int) xy (xt : Int) (xe : Int)).cells p) 57)))
  have b0 := a0.kb
  have b1 := a0.l0
  have b2 := a0.l1
  have b3 := a0.l2
  have b4 := a0.l3
  have b5 := a0.fz 298
  have b6 := a0.fz 299
  have b7 := a0.fz 300
  have b8 := a0.fz 301
  have b9 := a0.lt
  have hne : ¬ q = w.heap.size := by have := h.lt; omega
  have hne' : ¬ w.heap.size = q := fun e => hne e.symm
  have hai : (na : Int) < 32 := by omega
  clear h a0
  go_enter Tryd.func58, Tryd.ntmps58
  go_upto_region 2 with fail
  generalize (((((w.alloc (.cells ((Bk.mk xo 3 (na : Int) xy (xt : Int) (xe : Int)).cells p) 57)).setCell ⟨q, 298, none⟩ (.int .i64 (M.b : Int))).setCell ⟨q, 299, none⟩ (.bool false)).setCell ⟨q, 300, none⟩ (.int .i64 (-1))).setCell ⟨q, 301, none⟩ (.bool false)) = W at *
  clear b0 b1 b2 b3 b4 b5 b6 b7 b8 b9
  have c0 := HS.out.bx.c 0 _ rfl
  have c1 := HS.out.bx.c 1 _ rfl
  have c2 := HS.out.bx.c 2 _ rfl
  have c4 := HS.out.bx.c 4 _ rfl
  have c5 := HS.out.bx.c 5 _ rfl
  have z0 := HS.out.bx.lt
  have z1 := HS.out.at_.lt
  have k1 := HS.out.at_.kr ha
  have k2 := HS.out.at_.ky
  rw [hy] at k2
  have k3 := HS.out.at_.kn
  have k4 := HS.out.at_.ko
  have f5 := HS.out.at_.fz 290
  have f6 := HS.out.at_.fz 291
  have f7 := HS.out.at_.fz 292
  generalize M.r na = rv at *
  have h1 : ¬ rv < 0 := by omega
  go_wp2_with fail
  go_big_region
  all_goals
    go_wp2_with fail
    go_end0
    exact (((HS.out.rounds (max rv 0)).drew 1).body).post
set_option maxHeartbeats 4000000 in
theorem rend_out0 (xo xy : List O) (na xt xe : Nat) (p : Pl) (ha : na < 32) (h : DAt w q (dG ba bl bc po pc M L)) (hy : M.y = false) (h0 : M.r na = 0) :
    Calls Tryd.prog 58 #[ptr q, (Bk.mk xo 3 (na : Int) xy (xt : Int) (xe : Int)).val p] w (EnPost w q (dG ba bl bc po pc { M with n := 0, b := xt, y := false, o := 0 } ((M.b : Int), false, -1))) := by
  have HS : Hid (Ew w (((((w.alloc (.cells ((Bk.mk xo 3 (na : Int) xy (xt : Int) (xe : Int)).cells p) 57)).setCell ⟨q, 298, none⟩ (.int .i64 (M.b : Int))).setCell ⟨q, 299, none⟩ (.bool false)).setCell ⟨q, 300, none⟩ (.int .i64 (-1))).setCell ⟨q, 301, none⟩ (.bool false)) q ((Bk.mk xo 3 (na : Int) xy (xt : Int) (xe : Int)).cells p) (dG ba bl bc po pc M ((M.b : Int), false, -1))) := ew_start w _ p h
  have a0 := (h.up ((Below.refl _ w).alloc (Nat.le_refl _) (.cells ((Bk.mk xo 3 (na : Int) xy (xt : Int) (xe : Int)).cells p) 57)))
  have b0 := a0.kb
  have b1 := a0.l0
  have b2 := a0.l1
  have b3 := a0.l2
  have b4 := a0.l3
  have b5 := a0.fz 298
  have b6 := a0.fz 299
  have b7 := a0.fz 300
  have b8 := a0.fz 301
  have b9 := a0.lt
  have hne : ¬ q = w.heap.size := by have := h.lt; omega
  have hne' : ¬ w.heap.size = q := fun e => hne e.symm
  have hai : (na : Int) < 32 := by omega
  clear h a0
  go_enter Tryd.func58, Tryd.ntmps58
  go_upto_region 2 with fail
  generalize (((((w.alloc (.cells ((Bk.mk xo 3 (na : Int) xy (xt : Int) (xe : Int)).cells p) 57)).setCell ⟨q, 298, none⟩ (.int .i64 (M.b : Int))).setCell ⟨q, 299, none⟩ (.bool false)).setCell ⟨q, 300, none⟩ (.int .i64 (-1))).setCell ⟨q, 301, none⟩ (.bool false)) = W at *
  clear b0 b1 b2 b3 b4 b5 b6 b7 b8 b9
  have c0 := HS.out.bx.c 0 _ rfl
  have c1 := HS.out.bx.c 1 _ rfl
  have c2 := HS.out.bx.c 2 _ rfl
  have c4 := HS.out.bx.c 4 _ rfl
  have c5 := HS.out.bx.c 5 _ rfl
  have z0 := HS.out.bx.lt
  have z1 := HS.out.at_.lt
  have k1 := HS.out.at_.kr ha
  have k2 := HS.out.at_.ky
  rw [hy] at k2
  have k3 := HS.out.at_.kn
  have k4 := HS.out.at_.ko
  have f5 := HS.out.at_.fz 290
  have f6 := HS.out.at_.fz 291
  have f7 := HS.out.at_.fz 292
  rw [h0] at k1
  clear h0
  go_wp2_with fail
  go_big_region
  all_goals
    go_wp2_with (first | (go_at_call 73; refine Calls.mono (rto_any xt ((HS.out.rounds 0).drew 1).at_) ?_; rintro e w5 ⟨rfl, h5, g5⟩; have HE : Hid (EnPost w q _ (.returned (.tuple #[])) w5) := ⟨rfl, h5, ((HS.out.rounds 0).drew 1).up.same g5⟩; clear h5 g5))
    go_end0
    exact HE.out
set_option maxHeartbeats 4000000 in
theorem rend_outn (xo xy : List O) (na xt xe : Nat) (p : Pl) (ha : na < 32) (h : DAt w q (dG ba bl bc po pc M L)) (hy : M.y = false) (h0 : M.r na < 0) :
    Calls Tryd.prog 58 #[ptr q, (Bk.mk xo 3 (na : Int) xy (xt : Int) (xe : Int)).val p] w (EnPost w q (dG ba bl bc po pc { M with n := max (M.r na) 0, b := xt, y := false, o := 0 } ((M.b : Int), false, -1))) := by
  have HS : Hid (Ew w (((((w.alloc (.cells ((Bk.mk xo 3 (na : Int) xy (xt : Int) (xe : Int)).cells p) 57)).setCell ⟨q, 298, none⟩ (.int .i64 (M.b : Int))).setCell ⟨q, 299, none⟩ (.bool false)).setCell ⟨q, 300, none⟩ (.int .i64 (-1))).setCell ⟨q, 301, none⟩ (.bool false)) q ((Bk.mk xo 3 (na : Int) xy (xt : Int) (xe : Int)).cells p) (dG ba bl bc po pc M ((M.b : Int), false, -1))) := ew_start w _ p h
  have a0 := (h.up ((Below.refl _ w).alloc (Nat.le_refl _) (.cells ((Bk.mk xo 3 (na : Int) xy (xt : Int) (xe : Int)).cells p) 57)))
  have b0 := a0.kb
  have b1 := a0.l0
  have b2 := a0.l1
  have b3 := a0.l2
  have b4 := a0.l3
  have b5 := a0.fz 298
  have b6 := a0.fz 299
  have b7 := a0.fz 300
  have b8 := a0.fz 301
  have b9 := a0.lt
  have hne : ¬ q = w.heap.size := by have := h.lt; omega
  have hne' : ¬ w.heap.size = q := fun e => hne e.symm
  have hai : (na : Int) < 32 := by omega
  clear h a0
  go_enter Tryd.func58, Tryd.ntmps58
  go_upto_region 2 with fail
  generalize (((((w.alloc (.cells ((Bk.mk xo 3 (na : Int) xy (xt : Int) (xe : Int)).cells p) 57)).setCell ⟨q, 298, none⟩ (.int .i64 (M.b : Int))).setCell ⟨q, 299, none⟩ (.bool false)).setCell ⟨q, 300, none⟩ (.int .i64 (-1))).setCell ⟨q, 301, none⟩ (.bool false)) = W at *
  clear b0 b1 b2 b3 b4 b5 b6 b7 b8 b9
  have c0 := HS.out.bx.c 0 _ rfl
  have c1 := HS.out.bx.c 1 _ rfl
  have c2 := HS.out.bx.c 2 _ rfl
  have c4 := HS.out.bx.c 4 _ rfl
  have c5 := HS.out.bx.c 5 _ rfl
  have z0 := HS.out.bx.lt
  have z1 := HS.out.at_.lt
  have k1 := HS.out.at_.kr ha
  have k2 := HS.out.at_.ky
  rw [hy] at k2
  have k3 := HS.out.at_.kn
  have k4 := HS.out.at_.ko
  have f5 := HS.out.at_.fz 290
  have f6 := HS.out.at_.fz 291
  have f7 := HS.out.at_.fz 292
  generalize M.r na = rv at *
  go_wp2_with fail
  go_big_region
  all_goals
    go_wp2_with (first | (go_at_call 73; refine Calls.mono (rto_any xt ((HS.out.rounds (max rv 0)).drew 1).at_) ?_; rintro e w5 ⟨rfl, h5, g5⟩; have HE : Hid (EnPost w q _ (.returned (.tuple #[])) w5) := ⟨rfl, h5, ((HS.out.rounds (max rv 0)).drew 1).up.same g5⟩; clear h5 g5))
    go_end0
    exact HE.out
end
/-- What end leaves of the machine. -/
def REn (w : World) (q : Nat) (ps : List Bk) (T : Nat → Prop) (M' : Ma) (L : Tg) (e : Ending) (w' : World) : Prop := e = .returned (.tuple #[]) ∧ ∃ T', DR w' q ps T' M' L ∧ Tn w T w' T'
theorem rend_any {w : World} {q : Nat} {ps : List Bk} {T : Nat → Prop} {M : Ma} {L : Tg} (x : Bk) (p : Pl) (h : DM w q ps T M L) (hx : x ∈ ps) : Calls Tryd.prog 58 #[ptr q, x.val p] w (REn w q ps T (endM x M) ((M.b : Int), false, -1)) := by
  obtain ⟨ba, bc, po, pc, hM, hP, hR, hT⟩ := h.dr.ex
  have one : ∀ {M' : Ma} {e : Ending} {w' : World}, M'.pr = M.pr → EnPost w q (dG ba ps.length bc po pc M' ((M.b : Int), false, -1)) e w' → REn w q ps T M' ((M.b : Int), false, -1) e w' := fun {M' e w'} hpr hp => by
    obtain ⟨rfl, h1, h2⟩ := hp
    exact ⟨rfl, T, dr_one hP hR hT h.dr.tq h.dr.tl h1 h2 hpr⟩
  obtain ⟨xo, f, xa, xy, xt, xe⟩ := x
  have hk := h.ps.2.2 _ hx
  have o1 := hk.fin
  have o2 := hk.a
  have o3 := hk.thn.1
  have o4 := hk.els.1
  simp only at o1 o2 o3 o4
  clear hk hx
  obtain ⟨na, rfl⟩ := Int.eq_ofNat_of_zero_le o2.1
  obtain ⟨nt, rfl⟩ := Int.eq_ofNat_of_zero_le o3
  obtain ⟨ne, rfl⟩ := Int.eq_ofNat_of_zero_le o4
  have ha : na < 32 := by omega
  have tn : ∀ n : Nat, (n : Int).toNat = n := fun n => by omega
  by_cases e0 : f = 0
  · subst e0
    have e : endM ⟨xo, 0, na, xy, nt, ne⟩ M = { M with b := nt, y := false, o := 0 } := by simp [endM, toM]
    rw [e]
    exact (rend_jump xo xy na nt ne p ha hM).mono fun _ _ h => one rfl h
  · by_cases e1 : f = 1
    · subst e1
      by_cases hr : M.r na = 0
      · have e : endM ⟨xo, 1, na, xy, nt, ne⟩ M = { M with b := ne, y := false, o := 0 } := by simp [endM, toM, hr]
        rw [e]
        exact (rend_else xo xy na nt ne p ha hM hr).mono fun _ _ h => one rfl h
      · have e : endM ⟨xo, 1, na, xy, nt, ne⟩ M = { M with b := nt, y := false, o := 0 } := by simp [endM, toM, hr]
        rw [e]
        exact (rend_then xo xy na nt ne p ha hM hr).mono fun _ _ h => one rfl h
    · by_cases e2 : f = 2
      · subst e2
        have e : endM ⟨xo, 2, na, xy, nt, ne⟩ M = { M with e := 0, v := M.r na } := by simp [endM]
        rw [e]
        exact (rend_halt xo xy na nt ne p ha hM).mono fun _ _ h => one rfl h
      · obtain rfl : f = 3 := by omega
        cases hy : M.y
        · have er : rndM (na : Int) M = max (M.r na) 0 := by simp [rndM, hy]
          rcases Int.lt_trichotomy (M.r na) 0 with h0 | h0 | h0
          · have e : endM ⟨xo, 3, na, xy, nt, ne⟩ M = { M with n := max (M.r na) 0, b := nt, y := false, o := 0 } := by
              have h1 : ¬ 0 < max (M.r na) 0 := by omega
              simp only [endM, toM, er, if_neg h1]
              simp
            rw [e]
            exact (rend_outn xo xy na nt ne p ha hM hy h0).mono fun _ _ h => one rfl h
          · have e : endM ⟨xo, 3, na, xy, nt, ne⟩ M = { M with n := 0, b := nt, y := false, o := 0 } := by
              have : rndM (na : Int) M = 0 := by omega
              simp [endM, toM, this]
            rw [e]
            exact (rend_out0 xo xy na nt ne p ha hM hy h0).mono fun _ _ h => one rfl h
          · have e : endM ⟨xo, 3, na, xy, nt, ne⟩ M = { M with n := max (M.r na) 0, y := true, o := 0 } := by
              have h1 : 0 < max (M.r na) 0 := by omega
              simp only [endM, toM, er, if_pos h1]
              simp
            rw [e]
            exact (rend_in xo xy na nt ne p ha hM hy h0).mono fun _ _ h => one rfl h
        · have er : rndM (na : Int) M = wrap64 (M.n - 1) := by simp [rndM, hy]
          by_cases h0 : 0 < wrap64 (M.n - 1)
          · have e : endM ⟨xo, 3, na, xy, nt, ne⟩ M = { M with n := wrap64 (M.n - 1), y := true, o := 0 } := by simp [endM, er, h0]
            rw [e]
            exact (rend_more xo xy na nt ne p ha hM hy h0).mono fun _ _ h => one rfl h
          · have e : endM ⟨xo, 3, na, xy, nt, ne⟩ M = { M with n := wrap64 (M.n - 1), b := nt, y := false, o := 0 } := by simp [endM, toM, er, h0]
            rw [e]
            exact (rend_over xo xy na nt ne p ha hM hy h0).mono fun _ _ h => one rfl h
end Go.Proofs.YtlnfhbkkodhmaaaDoor.Sm
