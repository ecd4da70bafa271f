/- Parts Jc. -/
import Derived.Test.YtpdaknbmcpmhjaaGreatDoorN13
import Derived.Test.YtpdaknbmcpmhjaaGreatDoorN18
import Derived.Test.YtpdaknbmcpmhjaaGreatDoorN19
set_option maxRecDepth 20000
set_option maxHeartbeats 8000000
namespace Go.Proofs.YtpdaknbmcpmhjaaGreatDoor.Dl
open Go.ChangeShapes Go.WideShapes Go.ChangeAt Go.RowKit Go.Great
open YtpdaknbmcpmhjaaGreatDoor.Op YtpdaknbmcpmhjaaGreatDoor.So YtpdaknbmcpmhjaaGreatDoor.Dp YtpdaknbmcpmhjaaGreatDoor.Ls
open YtpdaknbmcpmhjaaGreatDoor.Tb (Tab TabAt Bnds)
theorem lisE_nil (t:Tab):lisE t []=if t.ok=false then 20 else 0:=by
 unfold lisE
 cases t.ok <;> simp
theorem opsAt_none (w:World):OpsAt w none []:=⟨by simp,by simp,fun h=>by simp at h⟩
theorem cyNil_any (t:Tab) (w:World) (hG:Bnds w):Calls Tryz.prog 37 #[.slice none 0 0,t.val] w fun e w'=>(∃ v,e=.returned (.tuple #[v,.int .i64 (lisE t [])]))/\Below w.heap.size w w':=by
 by_cases he:lisE t []=0
 ·refine (cycles_ok none 0 [] t w (opsAt_none w) (by simp) hG he (by unfold hvU;rfl)).mono ?_;rintro e w' ⟨hb,rfl,_,_,hu⟩;exact ⟨⟨_,by rw [he]⟩,hu⟩
 ·refine (cycles_no none 0 [] t w (opsAt_none w) (by simp) hG he).mono ?_;rintro e w' ⟨rfl,hu⟩;exact ⟨⟨_,rfl⟩,hu⟩
def erI (t:Tab) (x:Bk) (n:Nat) (g:Nat->Int):Int:=if t.ok=false then 20 else if t.u 3=0 then 21 else if enB x=false then 50 else if ckB t x.ops n g=false then 160 else 0
structure Rf (w W:World) (t:Tab) (x:Bk) (p:Pl):Prop where
 b:At W w.heap.size (x.cells p)
 t:TabAt W (w.heap.size+1) t
 up:Below w.heap.size w W
theorem Rf.next {w W W':World} {t:Tab} {x:Bk} {p:Pl} (h:Rf w W t x p) (g:Below W.heap.size W W'):Rf w W' t x p:=⟨h.b.below g h.b.lt,h.t.below g h.t.lt,h.up.trans (g.mono h.up.size)⟩
theorem rf_new (w:World) (t:Tab) (x:Bk) (p:Pl):Rf w ((w.alloc (.cells (x.cells p) 36)).alloc (.cells t.cells 27)) t x p:=by
 have h2:=At.new w (x.cells p) 36;have h3:=Tb.tabAt_new (w.alloc (.cells (x.cells p) 36)) t 27;rw [show (w.alloc (.cells (x.cells p) 36)).heap.size=w.heap.size+1 by simp] at h3;exact ⟨h2.alloc _,h3,by go_grown⟩
theorem refusal_any (x:Bk) (p:Pl) (t:Tab) (a:Option Addr) (n cap:Nat) (g:Nat->Int) (w:World) (h:OpsAt w p.oa x.ops) (hcap:x.ops.length<=p.oc) (hg:Nl w a n g) (hnn:n<=9000000000000000000) (hG:Bnds w) :
  Calls Tryz.prog 91 #[x.val p,t.val,.slice a n cap] w fun e w'=>e=.returned (.int .i64 (erI t x n g))/\Below w.heap.size w w':=by
 have HCy:Hid (∀ W,Below w.heap.size w W->Calls Tryz.prog 37 #[.slice none 0 0,.agg #[.int .i64 (t.u 0),.int .i64 (t.u 1),.int .i64 (t.u 2),.int .i64 (t.u 3),.int .i64 (t.l 0),.int .i64 (t.l 1),.int .i64 (t.l 2),.int .i64 (t.l 3),.int .i64 (t.b 0),.int .i64 (t.b 1),.int .i64 (t.b 2),.int .i64 (t.b 3),.int .i64 t.d]] W fun e w'=>(∃ v,e=.returned (.tuple #[v,.int .i64 (lisE t [])]))/\Below W.heap.size W w'):=fun W hb=>cyNil_any t W (hG.below hb hG.big);have HEn:Hid (∀ W,Calls Tryz.prog 162 #[.agg #[.slice p.oa x.ops.length p.oc,.int .i8 x.fin,.int .u8 x.a,.slice p.ba x.body.length p.bc,.int .i64 x.thn,.int .i64 x.els]] W fun e w'=>e=.returned (.bool (enB x))/\Below W.heap.size W w'):=fun W=>endHolds_any x p W;have HCk:Hid (∀ W,Below w.heap.size w W->Calls Tryz.prog 163 #[.slice p.oa x.ops.length p.oc,.agg #[.int .i64 (t.u 0),.int .i64 (t.u 1),.int .i64 (t.u 2),.int .i64 (t.u 3),.int .i64 (t.l 0),.int .i64 (t.l 1),.int .i64 (t.l 2),.int .i64 (t.l 3),.int .i64 (t.b 0),.int .i64 (t.b 1),.int .i64 (t.b 2),.int .i64 (t.b 3),.int .i64 t.d],.slice a n cap] W fun e w'=>e=.returned (.bool (ckB t x.ops n g))/\Below W.heap.size W w'):=fun W hb=>check_any a p.oa n cap p.oc x.ops t g W (hg.up hb) (h.below hb) hcap (hG.below hb hG.big) h.len hnn;have HS:Hid (Rf w ((w.alloc (.cells (x.cells p) 36)).alloc (.cells t.cells 27)) t x p):=rf_new w t x p;rw [lisE_nil] at HCy;obtain ⟨er,her⟩:∃ er,erI t x n g=er:=⟨_,rfl⟩;have HE:Hid (erI t x n g=er):=her;rw [her];clear h hg hG hcap her
 by_cases h1:t.ok=false
 ·rw [if_pos h1] at HCy;have HE2:Hid (20=er):=by rw [<- HE.out];unfold erI;rw [if_pos h1];rfl
  clear HE HEn HCk h1;unfold Tab.val;go_enter Tryz.func91,Tryz.ntmps91;go_upto_region 1 with fail
  generalize (w.alloc (.cells (x.cells p) 36)).alloc (.cells t.cells 27)=W0 at *;have HU:Hid (Below w.heap.size w W0):=HS.out.up;have qu0:=HS.out.t.cu 0 (by decide);have qu1:=HS.out.t.cu 1 (by decide);have qu2:=HS.out.t.cu 2 (by decide);have qu3:=HS.out.t.cu 3 (by decide);have ql0:=HS.out.t.cl 0 (by decide);have ql1:=HS.out.t.cl 1 (by decide);have ql2:=HS.out.t.cl 2 (by decide);have ql3:=HS.out.t.cl 3 (by decide);have qb0:=HS.out.t.cb 0 (by decide);have qb1:=HS.out.t.cb 1 (by decide);have qb2:=HS.out.t.cb 2 (by decide);have qb3:=HS.out.t.cb 3 (by decide);have qd:=HS.out.t.cd;have ql:=HS.out.t.lt;have e0:=HS.out.b.c 0 _ rfl;have e1:=HS.out.b.c 1 _ rfl;have e2:=HS.out.b.c 2 _ rfl;have e3:=HS.out.b.c 3 _ rfl;have e4:=HS.out.b.c 4 _ rfl;have e5:=HS.out.b.c 5 _ rfl;have el:=HS.out.b.lt;go_wp2_with (first
   | (go_at_call 37;refine Calls.mono (HCy.out _ HU.out) ?_;rintro e w1 ⟨⟨v,rfl⟩,hb1⟩;have HX:Hid (Rf w w1 t x p):=HS.out.next hb1;clear hb1 HS HCy qu0 qu1 qu2 qu3 ql0 ql1 ql2 ql3 qb0 qb1 qb2 qb3 qd ql e0 e1 e2 e3 e4 e5 el))
  go_ret
  exact ⟨ret_int HE2.out,HX.out.up⟩
 ·rw [if_neg h1] at HCy
  by_cases h2:t.u 3=0
  ·have HE2:Hid (21=er):=by rw [<- HE.out];unfold erI;rw [if_neg h1,if_pos h2];rfl
   have HU3:Hid (t.u 3=0):=h2;clear HE HEn HCk h1 h2;unfold Tab.val;go_enter Tryz.func91,Tryz.ntmps91;go_upto_region 1 with fail
   generalize (w.alloc (.cells (x.cells p) 36)).alloc (.cells t.cells 27)=W0 at *;have HU:Hid (Below w.heap.size w W0):=HS.out.up;have qu0:=HS.out.t.cu 0 (by decide);have qu1:=HS.out.t.cu 1 (by decide);have qu2:=HS.out.t.cu 2 (by decide);have qu3:=HS.out.t.cu 3 (by decide);have ql0:=HS.out.t.cl 0 (by decide);have ql1:=HS.out.t.cl 1 (by decide);have ql2:=HS.out.t.cl 2 (by decide);have ql3:=HS.out.t.cl 3 (by decide);have qb0:=HS.out.t.cb 0 (by decide);have qb1:=HS.out.t.cb 1 (by decide);have qb2:=HS.out.t.cb 2 (by decide);have qb3:=HS.out.t.cb 3 (by decide);have qd:=HS.out.t.cd;have ql:=HS.out.t.lt;have e0:=HS.out.b.c 0 _ rfl;have e1:=HS.out.b.c 1 _ rfl;have e2:=HS.out.b.c 2 _ rfl;have e3:=HS.out.b.c 3 _ rfl;have e4:=HS.out.b.c 4 _ rfl;have e5:=HS.out.b.c 5 _ rfl;have el:=HS.out.b.lt;go_wp2_with (first
    | (go_at_call 37;refine Calls.mono (HCy.out _ HU.out) ?_;rintro e w1 ⟨⟨v,rfl⟩,hb1⟩;have HX:Hid (Rf w w1 t x p):=HS.out.next hb1;clear hb1 HS HCy qu0 qu1 qu2 qu3 ql0 ql1 ql2 ql3 qb0 qb1 qb2 qb3 qd ql e0 e1 e2 e3 e4 e5 el;have qu:=HX.out.t.cu 3 (by decide);have ql:=HX.out.t.lt;rw [HU3.out] at qu))
   go_ret
   exact ⟨ret_int HE2.out,HX.out.up⟩
  ·have hub:(t.u 3==0)=false:=by simpa using h2
   by_cases h3:enB x=false
   ·have HE2:Hid (50=er):=by rw [<- HE.out];unfold erI;rw [if_neg h1,if_neg h2,if_pos h3];rfl
    rw [h3] at HEn;clear HE HCk h1 h2 h3;unfold Tab.val;go_enter Tryz.func91,Tryz.ntmps91;go_upto_region 1 with fail
    generalize (w.alloc (.cells (x.cells p) 36)).alloc (.cells t.cells 27)=W0 at *;have HU:Hid (Below w.heap.size w W0):=HS.out.up;have qu0:=HS.out.t.cu 0 (by decide);have qu1:=HS.out.t.cu 1 (by decide);have qu2:=HS.out.t.cu 2 (by decide);have qu3:=HS.out.t.cu 3 (by decide);have ql0:=HS.out.t.cl 0 (by decide);have ql1:=HS.out.t.cl 1 (by decide);have ql2:=HS.out.t.cl 2 (by decide);have ql3:=HS.out.t.cl 3 (by decide);have qb0:=HS.out.t.cb 0 (by decide);have qb1:=HS.out.t.cb 1 (by decide);have qb2:=HS.out.t.cb 2 (by decide);have qb3:=HS.out.t.cb 3 (by decide);have qd:=HS.out.t.cd;have ql:=HS.out.t.lt;have e0:=HS.out.b.c 0 _ rfl;have e1:=HS.out.b.c 1 _ rfl;have e2:=HS.out.b.c 2 _ rfl;have e3:=HS.out.b.c 3 _ rfl;have e4:=HS.out.b.c 4 _ rfl;have e5:=HS.out.b.c 5 _ rfl;have el:=HS.out.b.lt;go_wp2_with (first
     | (go_at_call 37;refine Calls.mono (HCy.out _ HU.out) ?_;rintro e w1 ⟨⟨v,rfl⟩,hb1⟩;have HX:Hid (Rf w w1 t x p):=HS.out.next hb1;clear hb1 HS HCy qu0 qu1 qu2 qu3 ql0 ql1 ql2 ql3 qb0 qb1 qb2 qb3 qd ql e0 e1 e2 e3 e4 e5 el;have qu0:=HX.out.t.cu 0 (by decide);have qu1:=HX.out.t.cu 1 (by decide);have qu2:=HX.out.t.cu 2 (by decide);have qu3:=HX.out.t.cu 3 (by decide);have ql0:=HX.out.t.cl 0 (by decide);have ql1:=HX.out.t.cl 1 (by decide);have ql2:=HX.out.t.cl 2 (by decide);have ql3:=HX.out.t.cl 3 (by decide);have qb0:=HX.out.t.cb 0 (by decide);have qb1:=HX.out.t.cb 1 (by decide);have qb2:=HX.out.t.cb 2 (by decide);have qb3:=HX.out.t.cb 3 (by decide);have qd:=HX.out.t.cd;have ql:=HX.out.t.lt;have e0:=HX.out.b.c 0 _ rfl;have e1:=HX.out.b.c 1 _ rfl;have e2:=HX.out.b.c 2 _ rfl;have e3:=HX.out.b.c 3 _ rfl;have e4:=HX.out.b.c 4 _ rfl;have e5:=HX.out.b.c 5 _ rfl;have el:=HX.out.b.lt)
     | (go_at_call 162;refine Calls.mono (HEn.out _) ?_;rintro e w2 ⟨rfl,hb2⟩;have HY:Hid (Rf w w2 t x p):=HX.out.next hb2;clear hb2 HX HEn qu0 qu1 qu2 qu3 ql0 ql1 ql2 ql3 qb0 qb1 qb2 qb3 qd ql e0 e1 e2 e3 e4 e5 el))
    go_ret
    exact ⟨ret_int HE2.out,HY.out.up⟩
   ·rw [show enB x=true by simpa using h3] at HEn
    by_cases h4:ckB t x.ops n g=false
    ·have HE2:Hid (160=er):=by rw [<- HE.out];unfold erI;rw [if_neg h1,if_neg h2,if_neg h3,if_pos h4];rfl
     rw [h4] at HCk;clear HE h1 h2 h3 h4;unfold Tab.val;go_enter Tryz.func91,Tryz.ntmps91;go_upto_region 1 with fail
     generalize (w.alloc (.cells (x.cells p) 36)).alloc (.cells t.cells 27)=W0 at *;have HU:Hid (Below w.heap.size w W0):=HS.out.up;have qu0:=HS.out.t.cu 0 (by decide);have qu1:=HS.out.t.cu 1 (by decide);have qu2:=HS.out.t.cu 2 (by decide);have qu3:=HS.out.t.cu 3 (by decide);have ql0:=HS.out.t.cl 0 (by decide);have ql1:=HS.out.t.cl 1 (by decide);have ql2:=HS.out.t.cl 2 (by decide);have ql3:=HS.out.t.cl 3 (by decide);have qb0:=HS.out.t.cb 0 (by decide);have qb1:=HS.out.t.cb 1 (by decide);have qb2:=HS.out.t.cb 2 (by decide);have qb3:=HS.out.t.cb 3 (by decide);have qd:=HS.out.t.cd;have ql:=HS.out.t.lt;have e0:=HS.out.b.c 0 _ rfl;have e1:=HS.out.b.c 1 _ rfl;have e2:=HS.out.b.c 2 _ rfl;have e3:=HS.out.b.c 3 _ rfl;have e4:=HS.out.b.c 4 _ rfl;have e5:=HS.out.b.c 5 _ rfl;have el:=HS.out.b.lt;go_wp2_with (first
      | (go_at_call 37;refine Calls.mono (HCy.out _ HU.out) ?_;rintro e w1 ⟨⟨v,rfl⟩,hb1⟩;have HX:Hid (Rf w w1 t x p):=HS.out.next hb1;clear hb1 HS HCy qu0 qu1 qu2 qu3 ql0 ql1 ql2 ql3 qb0 qb1 qb2 qb3 qd ql e0 e1 e2 e3 e4 e5 el;have qu0:=HX.out.t.cu 0 (by decide);have qu1:=HX.out.t.cu 1 (by decide);have qu2:=HX.out.t.cu 2 (by decide);have qu3:=HX.out.t.cu 3 (by decide);have ql0:=HX.out.t.cl 0 (by decide);have ql1:=HX.out.t.cl 1 (by decide);have ql2:=HX.out.t.cl 2 (by decide);have ql3:=HX.out.t.cl 3 (by decide);have qb0:=HX.out.t.cb 0 (by decide);have qb1:=HX.out.t.cb 1 (by decide);have qb2:=HX.out.t.cb 2 (by decide);have qb3:=HX.out.t.cb 3 (by decide);have qd:=HX.out.t.cd;have ql:=HX.out.t.lt;have e0:=HX.out.b.c 0 _ rfl;have e1:=HX.out.b.c 1 _ rfl;have e2:=HX.out.b.c 2 _ rfl;have e3:=HX.out.b.c 3 _ rfl;have e4:=HX.out.b.c 4 _ rfl;have e5:=HX.out.b.c 5 _ rfl;have el:=HX.out.b.lt)
      | (go_at_call 162;refine Calls.mono (HEn.out _) ?_;rintro e w2 ⟨rfl,hb2⟩;have HY:Hid (Rf w w2 t x p):=HX.out.next hb2;clear hb2 HX HEn qu0 qu1 qu2 qu3 ql0 ql1 ql2 ql3 qb0 qb1 qb2 qb3 qd ql e0 e1 e2 e3 e4 e5 el;have qu0:=HY.out.t.cu 0 (by decide);have qu1:=HY.out.t.cu 1 (by decide);have qu2:=HY.out.t.cu 2 (by decide);have qu3:=HY.out.t.cu 3 (by decide);have ql0:=HY.out.t.cl 0 (by decide);have ql1:=HY.out.t.cl 1 (by decide);have ql2:=HY.out.t.cl 2 (by decide);have ql3:=HY.out.t.cl 3 (by decide);have qb0:=HY.out.t.cb 0 (by decide);have qb1:=HY.out.t.cb 1 (by decide);have qb2:=HY.out.t.cb 2 (by decide);have qb3:=HY.out.t.cb 3 (by decide);have qd:=HY.out.t.cd;have ql:=HY.out.t.lt;have e0:=HY.out.b.c 0 _ rfl;have e1:=HY.out.b.c 1 _ rfl;have e2:=HY.out.b.c 2 _ rfl;have e3:=HY.out.b.c 3 _ rfl;have e4:=HY.out.b.c 4 _ rfl;have e5:=HY.out.b.c 5 _ rfl;have el:=HY.out.b.lt)
      | (go_at_call 163;refine Calls.mono (HCk.out _ HY.out.up) ?_;rintro e w3 ⟨rfl,hb3⟩;have HZ:Hid (Rf w w3 t x p):=HY.out.next hb3;clear hb3 HY HCk qu0 qu1 qu2 qu3 ql0 ql1 ql2 ql3 qb0 qb1 qb2 qb3 qd ql e0 e1 e2 e3 e4 e5 el))
     go_ret
     exact ⟨ret_int HE2.out,HZ.out.up⟩
    ·have HE2:Hid (0=er):=by rw [<- HE.out];unfold erI;rw [if_neg h1,if_neg h2,if_neg h3,if_neg h4];rfl
     rw [show ckB t x.ops n g=true by simpa using h4] at HCk;clear HE h1 h2 h3 h4;unfold Tab.val;go_enter Tryz.func91,Tryz.ntmps91;go_upto_region 1 with fail
     generalize (w.alloc (.cells (x.cells p) 36)).alloc (.cells t.cells 27)=W0 at *;have HU:Hid (Below w.heap.size w W0):=HS.out.up;have qu0:=HS.out.t.cu 0 (by decide);have qu1:=HS.out.t.cu 1 (by decide);have qu2:=HS.out.t.cu 2 (by decide);have qu3:=HS.out.t.cu 3 (by decide);have ql0:=HS.out.t.cl 0 (by decide);have ql1:=HS.out.t.cl 1 (by decide);have ql2:=HS.out.t.cl 2 (by decide);have ql3:=HS.out.t.cl 3 (by decide);have qb0:=HS.out.t.cb 0 (by decide);have qb1:=HS.out.t.cb 1 (by decide);have qb2:=HS.out.t.cb 2 (by decide);have qb3:=HS.out.t.cb 3 (by decide);have qd:=HS.out.t.cd;have ql:=HS.out.t.lt;have e0:=HS.out.b.c 0 _ rfl;have e1:=HS.out.b.c 1 _ rfl;have e2:=HS.out.b.c 2 _ rfl;have e3:=HS.out.b.c 3 _ rfl;have e4:=HS.out.b.c 4 _ rfl;have e5:=HS.out.b.c 5 _ rfl;have el:=HS.out.b.lt;go_wp2_with (first
      | (go_at_call 37;refine Calls.mono (HCy.out _ HU.out) ?_;rintro e w1 ⟨⟨v,rfl⟩,hb1⟩;have HX:Hid (Rf w w1 t x p):=HS.out.next hb1;clear hb1 HS HCy qu0 qu1 qu2 qu3 ql0 ql1 ql2 ql3 qb0 qb1 qb2 qb3 qd ql e0 e1 e2 e3 e4 e5 el;have qu0:=HX.out.t.cu 0 (by decide);have qu1:=HX.out.t.cu 1 (by decide);have qu2:=HX.out.t.cu 2 (by decide);have qu3:=HX.out.t.cu 3 (by decide);have ql0:=HX.out.t.cl 0 (by decide);have ql1:=HX.out.t.cl 1 (by decide);have ql2:=HX.out.t.cl 2 (by decide);have ql3:=HX.out.t.cl 3 (by decide);have qb0:=HX.out.t.cb 0 (by decide);have qb1:=HX.out.t.cb 1 (by decide);have qb2:=HX.out.t.cb 2 (by decide);have qb3:=HX.out.t.cb 3 (by decide);have qd:=HX.out.t.cd;have ql:=HX.out.t.lt;have e0:=HX.out.b.c 0 _ rfl;have e1:=HX.out.b.c 1 _ rfl;have e2:=HX.out.b.c 2 _ rfl;have e3:=HX.out.b.c 3 _ rfl;have e4:=HX.out.b.c 4 _ rfl;have e5:=HX.out.b.c 5 _ rfl;have el:=HX.out.b.lt)
      | (go_at_call 162;refine Calls.mono (HEn.out _) ?_;rintro e w2 ⟨rfl,hb2⟩;have HY:Hid (Rf w w2 t x p):=HX.out.next hb2;clear hb2 HX HEn qu0 qu1 qu2 qu3 ql0 ql1 ql2 ql3 qb0 qb1 qb2 qb3 qd ql e0 e1 e2 e3 e4 e5 el;have qu0:=HY.out.t.cu 0 (by decide);have qu1:=HY.out.t.cu 1 (by decide);have qu2:=HY.out.t.cu 2 (by decide);have qu3:=HY.out.t.cu 3 (by decide);have ql0:=HY.out.t.cl 0 (by decide);have ql1:=HY.out.t.cl 1 (by decide);have ql2:=HY.out.t.cl 2 (by decide);have ql3:=HY.out.t.cl 3 (by decide);have qb0:=HY.out.t.cb 0 (by decide);have qb1:=HY.out.t.cb 1 (by decide);have qb2:=HY.out.t.cb 2 (by decide);have qb3:=HY.out.t.cb 3 (by decide);have qd:=HY.out.t.cd;have ql:=HY.out.t.lt;have e0:=HY.out.b.c 0 _ rfl;have e1:=HY.out.b.c 1 _ rfl;have e2:=HY.out.b.c 2 _ rfl;have e3:=HY.out.b.c 3 _ rfl;have e4:=HY.out.b.c 4 _ rfl;have e5:=HY.out.b.c 5 _ rfl;have el:=HY.out.b.lt)
      | (go_at_call 163;refine Calls.mono (HCk.out _ HY.out.up) ?_;rintro e w3 ⟨rfl,hb3⟩;have HZ:Hid (Rf w w3 t x p):=HY.out.next hb3;clear hb3 HY HCk qu0 qu1 qu2 qu3 ql0 ql1 ql2 ql3 qb0 qb1 qb2 qb3 qd ql e0 e1 e2 e3 e4 e5 el))
     go_ret
     exact ⟨ret_int HE2.out,HZ.out.up⟩
def atI (t:Tab) (x:Bk) (g:Nat->Int):Int:=
 if x.fin=0 then tuL (leI t) (drI t x.ops g x.ops.length) t.d-1-t.d
 else if x.fin=1 then tuL (max (leI t) (lnI t x.ops g x.ops.length x.a.toNat)) (drI t x.ops g x.ops.length) t.d-1-t.d
 else if x.fin=2 then max (leI t) (rsI t x.ops g x.ops.length) else -1
def loI (t:Tab) (x:Bk) (g:Nat->Int):Int:=
 if x.fin=0 then tuL (leI t) (drI t x.ops g x.ops.length) t.d
 else if x.fin=1 then tuL (max (leI t) (lnI t x.ops g x.ops.length x.a.toNat)) (drI t x.ops g x.ops.length) t.d
 else if x.fin=2 then max (leI t) (rsI t x.ops g x.ops.length)+1 else drI t x.ops g x.ops.length
theorem er_parts {t:Tab} {x:Bk} {n:Nat} {g:Nat->Int} (h:erI t x n g=0):t.ok=true/\¬ t.u 3=0/\enB x=true/\ckB t x.ops n g=true:=by
 unfold erI at h
 by_cases h1:t.ok=false
 ·rw [if_pos h1] at h;cases h
 ·rw [if_neg h1] at h
  by_cases h2:t.u 3=0
  ·rw [if_pos h2] at h;cases h
  ·rw [if_neg h2] at h
   by_cases h3:enB x=false
   ·rw [if_pos h3] at h;cases h
   ·rw [if_neg h3] at h
    by_cases h4:ckB t x.ops n g=false
    ·rw [if_pos h4] at h;cases h
    ·exact ⟨by simpa using h1,h2,by simpa using h3,by simpa using h4⟩
theorem ck_parts {t:Tab} {xs:List O} {n:Nat} {g:Nat->Int} (h:ckB t xs n g=true):lisE t xs=0/\hvU t xs=true/\n=xs.length/\∀ k,k<xs.length->0<=g k/\g k<=65536:=by
 unfold ckB at h;simp only [Bool.and_eq_true,decide_eq_true_eq] at h;obtain ⟨⟨⟨h1,h2⟩,h3⟩,⟨h4,_⟩,_⟩:=h;refine ⟨h1,h2,h3,fun k hk=>?_⟩;unfold arC at h4
 have:=List.all_eq_true.1 h4 k (by rw [h3];exact List.mem_range.2 hk)
 simpa using this
theorem dr_in {t:Tab} {xs:List O} {g:Nat->Int} (ht:t.ok=true) (hr:∀ k,k<xs.length->0<=g k/\g k<=65536) (k:Nat) (hk:k<=xs.length):(0<=drI t xs g k/\drI t xs g k<=70000)/\(0<=rsI t xs g k/\rsI t xs g k<=70000)/\∀ j,0<=lnI t xs g k j/\lnI t xs g k j<=70000:=by
 induction k with
 | zero=>exact ⟨⟨Int.le_refl _,by show (0:Int)<=70000;decide⟩,⟨Int.le_refl _,by show (0:Int)<=70000;decide⟩,fun j=>⟨Int.le_refl _,by show (0:Int)<=70000;decide⟩⟩
 | succ k ih=>
  have i1:=ih (by omega);have r1:=hr k (by omega);have tl:=Tb.inB_iff ((Tb.ok_parts ht).2 (clD (oAt xs k).op) (clD_lt _)).2.1;have tb:=Tb.inB_iff ((Tb.ok_parts ht).2 (clD (oAt xs k).op) (clD_lt _)).2.2;refine ⟨?_,?_,fun j=>?_⟩
  ·simp only [drI,laI,frI];omega
  ·simp only [rsI,laI];omega
  ·simp only [lnI,laI]
   split
   ·unfold updI;split
    ·omega
    ·exact i1.2.2 j
   ·exact i1.2.2 j
structure Re (w W:World) (t:Tab) (x:Bk) (p:Pl) (ab:Nat) (C:List Value):Prop where
 r:Rf w W t x p
 a:At W ab C.toArray
theorem Re.next {w W W':World} {t:Tab} {x:Bk} {p:Pl} {ab:Nat} {C:List Value} (h:Re w W t x p ab C) (g:Below W.heap.size W W'):Re w W' t x p ab C:=⟨h.r.next g,h.a.below g h.a.lt⟩
theorem asC_at {a b c:Int} {L:List Value} {j:Nat} {v:Value} (h:L[j]?=some v):(asC a b c L).toArray[3+j]?=some v:=by
 rw [List.getElem?_toArray];unfold asC;rw [show 3+j=j+1+1+1 by omega];simpa using h
theorem re_new {w W:World} {t:Tab} {x:Bk} {p:Pl} {C:List Value} (h:Rf w W t x p) (hl:C.length=35):Re w ((W.alloc (.cells zc35.toArray 163)).setCells W.heap.size 0 C.toArray.toList) t x p W.heap.size C:=by
 have g1:Below W.heap.size W (W.alloc (.cells zc35.toArray 163)):=(Below.refl _ _).alloc (Nat.le_refl _) _;have a1:=At.new W zc35.toArray 163;have ht:(W.alloc (.cells zc35.toArray 163)).there W.heap.size 0 C.length:=at_there a1 (by rw [hl];unfold zc35;simp);have hF:So.Fr (So.One W.heap.size) (W.alloc (.cells zc35.toArray 163)) ((W.alloc (.cells zc35.toArray 163)).setCells W.heap.size 0 C):=fr_setCells (X:=So.One W.heap.size) rfl _ _ (So.Fr.refl _ _);have g2:Below W.heap.size (W.alloc (.cells zc35.toArray 163)) ((W.alloc (.cells zc35.toArray 163)).setCells W.heap.size 0 C):=hF.below (by simp) fun k hk e=>by have e:k=W.heap.size:=e;omega
 have hR:=World.rangeAt_setCells_same (W.alloc (.cells zc35.toArray 163)) W.heap.size 0 _ ht;refine ⟨h.next (g1.trans g2),⟨fun j v hv=>?_,fun j=>(froz_setCells _ _ _ _ _).trans (a1.f j),Nat.lt_of_lt_of_le a1.lt hF.size⟩⟩
 have:=hR j v (by rw [List.getElem?_toArray] at hv;exact hv)
 rwa [Nat.zero_add] at this
theorem end_bad (x:Bk) (p:Pl) (t:Tab) (a:Option Addr) (n cap:Nat) (g:Nat->Int) (w:World) (h:OpsAt w p.oa x.ops) (hcap:x.ops.length<=p.oc) (hg:Nl w a n g) (hnn:n<=9000000000000000000) (hG:Bnds w) (he:¬ erI t x n g=0) :
  Calls Tryz.prog 38 #[x.val p,t.val,.slice a n cap] w fun e w'=>e=.returned (.tuple #[.int .i64 0,.int .i64 0,.int .i64 (erI t x n g)])/\Below w.heap.size w w':=by
 have HR:Hid (∀ W,Below w.heap.size w W->Calls Tryz.prog 91 #[.agg #[.slice p.oa x.ops.length p.oc,.int .i8 x.fin,.int .u8 x.a,.slice p.ba x.body.length p.bc,.int .i64 x.thn,.int .i64 x.els],.agg #[.int .i64 (t.u 0),.int .i64 (t.u 1),.int .i64 (t.u 2),.int .i64 (t.u 3),.int .i64 (t.l 0),.int .i64 (t.l 1),.int .i64 (t.l 2),.int .i64 (t.l 3),.int .i64 (t.b 0),.int .i64 (t.b 1),.int .i64 (t.b 2),.int .i64 (t.b 3),.int .i64 t.d],.slice a n cap] W fun e w'=>e=.returned (.int .i64 (erI t x n g))/\Below W.heap.size W w'):=fun W hb=>refusal_any x p t a n cap g W (h.below hb) hcap (hg.up hb) hnn (hG.below hb hG.big);have HS:Hid (Rf w ((w.alloc (.cells (x.cells p) 36)).alloc (.cells t.cells 27)) t x p):=rf_new w t x p;clear h hg hG hcap;generalize erI t x n g=er at *;have heb:(er==0)=false:=by simpa using he
 unfold Tab.val;go_enter Tryz.func38,Tryz.ntmps38;go_upto_region 1 with fail
 generalize (w.alloc (.cells (x.cells p) 36)).alloc (.cells t.cells 27)=W0 at *;have HU:Hid (Below w.heap.size w W0):=HS.out.up;have qu0:=HS.out.t.cu 0 (by decide);have qu1:=HS.out.t.cu 1 (by decide);have qu2:=HS.out.t.cu 2 (by decide);have qu3:=HS.out.t.cu 3 (by decide);have ql0:=HS.out.t.cl 0 (by decide);have ql1:=HS.out.t.cl 1 (by decide);have ql2:=HS.out.t.cl 2 (by decide);have ql3:=HS.out.t.cl 3 (by decide);have qb0:=HS.out.t.cb 0 (by decide);have qb1:=HS.out.t.cb 1 (by decide);have qb2:=HS.out.t.cb 2 (by decide);have qb3:=HS.out.t.cb 3 (by decide);have qd:=HS.out.t.cd;have ql:=HS.out.t.lt;have e0:=HS.out.b.c 0 _ rfl;have e1:=HS.out.b.c 1 _ rfl;have e2:=HS.out.b.c 2 _ rfl;have e3:=HS.out.b.c 3 _ rfl;have e4:=HS.out.b.c 4 _ rfl;have e5:=HS.out.b.c 5 _ rfl;have el:=HS.out.b.lt;go_wp2_with (first
  | (go_at_call 91;refine Calls.mono (HR.out _ HU.out) ?_;rintro e w1 ⟨rfl,hb1⟩;have HX:Hid (Rf w w1 t x p):=HS.out.next hb1;clear hb1 HS HR qu0 qu1 qu2 qu3 ql0 ql1 ql2 ql3 qb0 qb1 qb2 qb3 qd ql e0 e1 e2 e3 e4 e5 el))
 go_ret3
 exact ⟨rfl,HX.out.up⟩
end Go.Proofs.YtpdaknbmcpmhjaaGreatDoor.Dl
