/- Parts Vg Wc We. -/
import Derived.Test.YtcmlnemokckbdaaGreatDoorN25
import Derived.Test.YtcmlnemokckbdaaGreatDoorN21
import Derived.Deep.RegionHeld3
set_option maxRecDepth 20000
set_option maxHeartbeats 2000000
namespace Go.Proofs.YtcmlnemokckbdaaGreatDoor.Rv
open Go.ChangeShapes Go.WideShapes Go.ChangeAt Go.RowKit Go.Maps
open YtcmlnemokckbdaaGreatDoor.Op YtcmlnemokckbdaaGreatDoor.So
open YtcmlnemokckbdaaGreatDoor.Tb (Tab TabAt Bnds)
theorem nothing_any (t:Tab) (w:World):Calls Tryz.prog 155 #[t.val,fv none] w fun e w'=>e=.returned (.pointer (some ⟨w.heap.size+2,0,none⟩))/\RAt w' (w.heap.size+2) t none (w.heap.size+1) 0 (fun _ _=>0)/\Below w.heap.size w w':=by
 have HR:Hid (RAt (((w.alloc (.cells t.cells 28)).alloc (.map #[] 0)).alloc (.cells #[.int .i64 (t.u 0),.int .i64 (t.u 1),.int .i64 (t.u 2),.int .i64 (t.u 3),.int .i64 (t.b 0),.int .i64 (t.b 1),.int .i64 (t.b 2),.int .i64 (t.b 3),.map (some (w.heap.size+1)),.func (.func 156) #[.agg #[]] #[]] 212)) (w.heap.size+2) t (none) (w.heap.size+1) 0 (fun _ _=>0)/\Below w.heap.size w (((w.alloc (.cells t.cells 28)).alloc (.map #[] 0)).alloc (.cells #[.int .i64 (t.u 0),.int .i64 (t.u 1),.int .i64 (t.u 2),.int .i64 (t.u 3),.int .i64 (t.b 0),.int .i64 (t.b 1),.int .i64 (t.b 2),.int .i64 (t.b 3),.map (some (w.heap.size+1)),.func (.func 156) #[.agg #[]] #[]] 212))):=by
  have e1:(w.alloc (.cells t.cells 28)).heap.size=w.heap.size+1:=by simp
  have e2:((w.alloc (.cells t.cells 28)).alloc (.map #[] 0)).heap.size=w.heap.size+2:=by simp
  refine ⟨⟨?_,?_,by omega⟩,by go_grown⟩
  ·have:=At.new ((w.alloc (.cells t.cells 28)).alloc (.map #[] 0)) #[.int .i64 (t.u 0),.int .i64 (t.u 1),.int .i64 (t.u 2),.int .i64 (t.u 3),.int .i64 (t.b 0),.int .i64 (t.b 1),.int .i64 (t.b 2),.int .i64 (t.b 3),.map (some (w.heap.size+1)),.func (.func 156) #[.agg #[]] #[]] 212
   rw [e2] at this;exact this
  ·have:=(Cm.made (w.alloc (.cells t.cells 28))).below (w':=(((w.alloc (.cells t.cells 28)).alloc (.map #[] 0)).alloc (.cells #[.int .i64 (t.u 0),.int .i64 (t.u 1),.int .i64 (t.u 2),.int .i64 (t.u 3),.int .i64 (t.b 0),.int .i64 (t.b 1),.int .i64 (t.b 2),.int .i64 (t.b 3),.map (some (w.heap.size+1)),.func (.func 156) #[.agg #[]] #[]] 212))) ((Below.refl _ _).alloc (Nat.le_refl _) _) (by simp)
   rw [e1] at this;exact this
 have hmm:=@run_makeMap Tryz.prog;show Calls Tryz.prog 155 #[t.val,.func (.func 156) #[.agg #[]] #[]] w _;unfold Tab.val Tab.cells at *;go_enter Tryz.func155,Tryz.ntmps155;go_wp2
 go_ret
 exact ⟨rfl,HR.out⟩
def NwOut (w:World) (t:Tab) (ev:Option Int) (e:Ending) (w':World):Prop:=∃ rb mb,e=.returned (.tuple #[.pointer (some ⟨rb,0,none⟩),.int .i64 0])/\RAt w' rb t ev mb 0 (fun _ _=>0)/\(w.heap.size<=rb/\w.heap.size<=mb)/\Below w.heap.size w w'
theorem new_ok (t:Tab) (w:World) (hG:Bnds w) (hk:Tb.ckR t=0):Calls Tryz.prog 120 #[t.val] w (NwOut w t none):=by
 have HC:Hid (∀ W,Below w.heap.size w W->Calls Tryz.prog 154 #[t.val] W fun e w'=>e=.returned (.int .i64 0)/\Below W.heap.size W w'):=fun W hb=>by rw [<- hk];exact Tb.check_any t W (hG.below hb hG.big)
 have HN:Hid (∀ W,Calls Tryz.prog 155 #[t.val,.func (.func 156) #[.agg #[]] #[]] W fun e w'=>e=.returned (.pointer (some ⟨W.heap.size+2,0,none⟩))/\RAt w' (W.heap.size+2) t none (W.heap.size+1) 0 (fun _ _=>0)/\Below W.heap.size W w'):=fun W=>nothing_any t W;clear hG hk;unfold Tab.val at *;go_enter Tryz.func120,Tryz.ntmps120;go_wp2_with (first
  | (go_at_call 154;refine Calls.mono (HC.out _ (by go_grown)) ?_;rintro e w1 ⟨rfl,b1⟩;have HT:Hid (TabAt w1 w.heap.size t/\Below w.heap.size w w1):=⟨(Tb.tabAt_new w t 28).below b1 (by simp),Below.trans (by go_grown) (b1.mono (by simp))⟩;clear b1 HC;have k2:=HT.out.1;have qu0:=k2.cu 0 (by decide);have qu1:=k2.cu 1 (by decide);have qu2:=k2.cu 2 (by decide);have qu3:=k2.cu 3 (by decide);have ql0:=k2.cl 0 (by decide);have ql1:=k2.cl 1 (by decide);have ql2:=k2.cl 2 (by decide);have ql3:=k2.cl 3 (by decide);have qb0:=k2.cb 0 (by decide);have qb1:=k2.cb 1 (by decide);have qb2:=k2.cb 2 (by decide);have qb3:=k2.cb 3 (by decide);have qd:=k2.cd;have qz:=k2.lt;clear k2)
  | (go_at_call 155;refine Calls.mono (HN.out _) ?_;rintro e w2 ⟨rfl,r2,b2⟩;have HR:Hid (RAt w2 (w1.heap.size+2) t none (w1.heap.size+1) 0 (fun _ _=>0)/\Below w.heap.size w w2/\w.heap.size<=w1.heap.size):=⟨r2,HT.out.2.trans (b2.mono HT.out.2.size),HT.out.2.size⟩;clear r2 b2 HN))
 go_ret2
 exact ⟨_,_,rfl,HR.out.1,by have:=HR.out.2.2;omega,HR.out.2.1⟩
end Go.Proofs.YtcmlnemokckbdaaGreatDoor.Rv
namespace Go.Proofs.YtcmlnemokckbdaaGreatDoor.Ls
open Go.ChangeShapes Go.WideShapes Go.ChangeAt Go.RowKit
open YtcmlnemokckbdaaGreatDoor.Op YtcmlnemokckbdaaGreatDoor.So YtcmlnemokckbdaaGreatDoor.Dp YtcmlnemokckbdaaGreatDoor.ListWay
open YtcmlnemokckbdaaGreatDoor.Rv (RAt Few frB tkF tk_few take_any free_any evOk)
open YtcmlnemokckbdaaGreatDoor.Tb (Tab TabAt Bnds)
theorem atFr {X:Nat->Prop} {w w':World} {b:Nat} {cs:Array Value} (h:At w b cs) (g:Fr X w w') (hx:¬ X b):At w' b cs:=
 ⟨fun j v e=>(g.cell h.lt hx j).trans (h.c j v e),fun j=>(g.frozen h.lt hx j).trans (h.f j),Nat.lt_of_lt_of_le h.lt g.size⟩
theorem raFr {X:Nat->Prop} {w w':World} {rb mb n:Nat} {t:Tab} {ev:Option Int} {f:Int->Int->Int} (h:RAt w rb t ev mb n f) (g:Fr X w w') (h1:¬ X rb) (h2:¬ X mb):RAt w' rb t ev mb n f:=by
 refine ⟨atFr h.at' g h1,?_,h.ne⟩;obtain ⟨D,⟨es,clock,h3,h4,h5⟩,h6⟩:=h.cm.own;exact ⟨D,⟨es,clock,by rw [g.block mb h.cm.lt h2];exact h3,h4,h5⟩,h6⟩
def frm (es:List Ed) (i:Nat):List Ed:=es.filter fun e=>decide (e.f.toNat = i)
structure Dt where
 wb:Nat
 rb:Nat
 mb:Nat
 cb:Nat
 ab:Nat
 tb:Nat
 fb:Nat
 V:Nat->Value
structure Dt.Ok (B:Nat) (d:Dt):Prop where
 r0:B<=d.rb
 m0:B<=d.mb
 rw:d.rb<d.wb
 mw:d.mb<d.wb
 wc:d.wb<d.cb
 wt:d.wb<d.tb
 wf:d.wb<d.fb
 ct:d.cb≠d.tb
 cf:d.cb≠d.fb
 tf:d.tb≠d.fb
 ca:d.cb<d.ab
 ta:d.tb<d.ab
 fa:d.fb<d.ab
def wyC (d:Dt) (ao:Option Addr) (n cap:Nat):Array Value:=#[.slice ao n cap,.pointer (some ⟨d.rb,0,none⟩),.slice (some ⟨d.cb,0,none⟩) n n,.slice (some ⟨d.ab,0,none⟩) n n,.slice (some ⟨d.tb,0,none⟩) n n,.slice (some ⟨d.fb,0,none⟩) n n]
structure Wy (w0 W:World) (d:Dt) (ao:Option Addr) (cap:Nat) (t:Tab) (xs:List O) (es:List Ed) (m:Nat) (f:Int->Int->Int) (C Wt Ff:Nat->Int):Prop where
 ok:d.Ok w0.heap.size
 up:Below w0.heap.size w0 W
 op:OpsAt w0 ao xs
 at':At W d.wb (wyC d ao xs.length cap)
 ra:RAt W d.rb t none d.mb m f
 cy:Ir W d.cb xs.length C
 wt:Ir W d.tb xs.length Wt
 fs:Ir W d.fb xs.length Ff
 af:∀ i,i<xs.length->W.cell? ⟨d.ab,i,none⟩=some (d.V i)
 al:d.ab<W.heap.size
 rw:∀ i,i<xs.length->W.ownsRow (d.ab+1) 112 5 (d.V i) (frm es i).length (ecells (frm es i))
theorem Wy.gen {X:Nat->Prop} {w0 W W':World} {d:Dt} {ao:Option Addr} {cap:Nat} {t:Tab} {xs:List O} {es:List Ed} {m m':Nat} {f f':Int->Int->Int} {C Wt Ff C' Wt' Ff':Nat->Int} (h:Wy w0 W d ao cap t xs es m f C Wt Ff) (g:Fr X W W') (hX:∀ k,X k->w0.heap.size<=k/\k<d.ab/\k≠d.wb)
  (ra:RAt W' d.rb t none d.mb m' f') (cy:Ir W' d.cb xs.length C') (wt:Ir W' d.tb xs.length Wt') (fs:Ir W' d.fb xs.length Ff'):Wy w0 W' d ao cap t xs es m' f' C' Wt' Ff':=
 ⟨h.ok,h.up.trans (g.below h.up.size fun k hk hx=>by have:=hX k hx;omega),h.op,atFr h.at' g fun hx=>(hX _ hx).2.2 rfl,ra,cy,wt,fs,
  fun i hi=>(g.cell h.al (fun hx=>by have:=hX _ hx;omega) i).trans (h.af i hi),Nat.lt_of_lt_of_le h.al g.size,
  fun i hi=>row_fr (h.rw i hi) g fun k hk hx=>by have:=((h.rw i hi).lt k hk).1;have:=hX k hx;omega⟩
theorem Wy.next {w0 W W':World} {d:Dt} {ao:Option Addr} {cap:Nat} {t:Tab} {xs:List O} {es:List Ed} {m:Nat} {f:Int->Int->Int} {C Wt Ff:Nat->Int} (h:Wy w0 W d ao cap t xs es m f C Wt Ff) (g:Below W.heap.size W W'):Wy w0 W' d ao cap t xs es m f C Wt Ff:=
 h.gen (Fr.of (X:=Non) g) (fun _ hk=>hk.elim) (h.ra.up g) (h.cy.up g) (h.wt.up g) (h.fs.up g)
theorem Wy.setC {w0 W:World} {d:Dt} {ao:Option Addr} {cap:Nat} {t:Tab} {xs:List O} {es:List Ed} {m:Nat} {f:Int->Int->Int} {C Wt Ff:Nat->Int} (h:Wy w0 W d ao cap t xs es m f C Wt Ff) {k:Nat} (hk:k<xs.length) (v:Int):Wy w0 (W.setCell ⟨d.cb,k,none⟩ (.int .i64 v)) d ao cap t xs es m f (updI C k v) Wt Ff:=by
 have g:Fr (One d.cb) W (W.setCell ⟨d.cb,k,none⟩ (.int .i64 v)):=(Fr.refl (One d.cb) W).setCell (.inr rfl) _ _;have o:=h.ok;have o1:=o.r0;have o2:=o.rw;have o3:=o.mw;have o4:=o.wc;have o5:=o.ca;refine h.gen g (fun k hk=>?_) (raFr h.ra g ?_ ?_) (h.cy.set hk v) (h.wt.fr g fun e=>o.ct e.symm) (h.fs.fr g fun e=>o.cf e.symm)
 ·have hk:k=d.cb:=hk;omega
 ·show ¬ d.rb=d.cb;omega
 ·show ¬ d.mb=d.cb;omega
theorem Wy.setT {w0 W:World} {d:Dt} {ao:Option Addr} {cap:Nat} {t:Tab} {xs:List O} {es:List Ed} {m:Nat} {f:Int->Int->Int} {C Wt Ff:Nat->Int} (h:Wy w0 W d ao cap t xs es m f C Wt Ff) {k:Nat} (hk:k<xs.length) (v:Int):Wy w0 (W.setCell ⟨d.tb,k,none⟩ (.int .i64 v)) d ao cap t xs es m f C (updI Wt k v) Ff:=by
 have g:Fr (One d.tb) W (W.setCell ⟨d.tb,k,none⟩ (.int .i64 v)):=(Fr.refl (One d.tb) W).setCell (.inr rfl) _ _;have o:=h.ok;have o1:=o.r0;have o2:=o.rw;have o3:=o.mw;have o4:=o.wt;have o5:=o.ta;refine h.gen g (fun k hk=>?_) (raFr h.ra g ?_ ?_) (h.cy.fr g o.ct) (h.wt.set hk v) (h.fs.fr g fun e=>o.tf e.symm)
 ·have hk:k=d.tb:=hk;omega
 ·show ¬ d.rb=d.tb;omega
 ·show ¬ d.mb=d.tb;omega
theorem Wy.setF {w0 W:World} {d:Dt} {ao:Option Addr} {cap:Nat} {t:Tab} {xs:List O} {es:List Ed} {m:Nat} {f:Int->Int->Int} {C Wt Ff:Nat->Int} (h:Wy w0 W d ao cap t xs es m f C Wt Ff) {k:Nat} (hk:k<xs.length) (v:Int):Wy w0 (W.setCell ⟨d.fb,k,none⟩ (.int .i64 v)) d ao cap t xs es m f C Wt (updI Ff k v):=by
 have g:Fr (One d.fb) W (W.setCell ⟨d.fb,k,none⟩ (.int .i64 v)):=(Fr.refl (One d.fb) W).setCell (.inr rfl) _ _;have o:=h.ok;have o1:=o.r0;have o2:=o.rw;have o3:=o.mw;have o4:=o.wf;have o5:=o.fa;refine h.gen g (fun k hk=>?_) (raFr h.ra g ?_ ?_) (h.cy.fr g o.cf) (h.wt.fr g o.tf) (h.fs.set hk v)
 ·have hk:k=d.fb:=hk;omega
 ·show ¬ d.rb=d.fb;omega
 ·show ¬ d.mb=d.fb;omega
theorem Wy.take {w0 W W':World} {d:Dt} {ao:Option Addr} {cap:Nat} {t:Tab} {xs:List O} {es:List Ed} {m m':Nat} {f f':Int->Int->Int} {C Wt Ff:Nat->Int} (h:Wy w0 W d ao cap t xs es m f C Wt Ff) (g:Fr (One d.mb) W W') (r:RAt W' d.rb t none d.mb m' f'):Wy w0 W' d ao cap t xs es m' f' C Wt Ff:=by
 have o:=h.ok;have o1:=o.m0;have o2:=o.rw;have o3:=o.mw;have o4:=o.wc;have o5:=o.wt;have o6:=o.wf;have o7:=o.ca;refine h.gen g (fun k hk=>?_) r (h.cy.fr g ?_) (h.wt.fr g ?_) (h.fs.fr g ?_)
 ·have hk:k=d.mb:=hk;omega
 ·show ¬ d.cb=d.mb;omega
 ·show ¬ d.tb=d.mb;omega
 ·show ¬ d.fb=d.mb;omega
def Tw (d:Dt) (k:Nat):Prop:=k=d.cb\/k=d.mb\/k=d.tb\/k=d.fb
theorem wready_any {w0 W:World} {d:Dt} {ao:Option Addr} {cap:Nat} {t:Tab} {xs:List O} {es:List Ed} {m:Nat} {f:Int->Int->Int} {C Wt Ff:Nat->Int} (i:Nat) (y:Int) (h:Wy w0 W d ao cap t xs es m f C Wt Ff) (hi:i<xs.length) :
  Calls Tryz.prog 121 #[.pointer (some ⟨d.wb,0,none⟩),.int .i64 (i:Int),.int .i64 y] W fun e w'=>e=.returned (.bool (decide (Wt i=0)&&decide (Ff i<=y)))/\Below W.heap.size W w':=by
 have wl:=h.at'.lt;have c4:W.cell? ⟨d.wb,4,none⟩=some (.slice (some ⟨d.tb,0,none⟩) xs.length xs.length):=h.at'.c 4 _ rfl;have c5:W.cell? ⟨d.wb,5,none⟩=some (.slice (some ⟨d.fb,0,none⟩) xs.length xs.length):=h.at'.c 5 _ rfl;have t0:=h.wt.c i hi;have tl:=h.wt.lt;have f0:=h.fs.c i hi;have fl:=h.fs.lt;have i0:(0:Int)<=(i:Int):=by omega
 have i1:(i:Int)<(xs.length:Int):=by omega
 clear h hi;generalize xs.length=n at *;generalize Wt i=wv at *;generalize Ff i=fv at *
 by_cases hw:wv=0
 ·subst hw;go_enter Tryz.func121,Tryz.ntmps121;go_wp2
  go_ret
  exact ⟨by simp,by go_grown⟩
 ·have hwb:(wv==0)=false:=by simpa using hw
  go_enter Tryz.func121,Tryz.ntmps121;go_wp2
  go_ret
  exact ⟨by simp [hw],by go_grown⟩
end Go.Proofs.YtcmlnemokckbdaaGreatDoor.Ls
namespace Go.Proofs.YtcmlnemokckbdaaGreatDoor.Ls
open Go.ChangeShapes Go.WideShapes Go.ChangeAt Go.RowKit
open YtcmlnemokckbdaaGreatDoor.Op YtcmlnemokckbdaaGreatDoor.So YtcmlnemokckbdaaGreatDoor.Dp YtcmlnemokckbdaaGreatDoor.ListWay
open YtcmlnemokckbdaaGreatDoor.Rv (RAt Few frB tkF tk_few take_any free_any evOk NwOut new_ok)
open YtcmlnemokckbdaaGreatDoor.Tb (Tab TabAt Bnds)
theorem atSet {w:World} {b:Nat} {cs:Array Value} (h:At w b cs) {j:Nat} (hj:j<cs.size) (v:Value):At (w.setCell ⟨b,j,none⟩ v) b (cs.setIfInBounds j v):=by
 refine ⟨fun i u e=>?_,fun i=>by rw [World.frozen?_setCell];exact h.f i,by simpa using h.lt⟩;rw [Array.getElem?_setIfInBounds] at e
 by_cases hij:j=i
 ·subst hij;rw [if_pos rfl,if_pos hj] at e
  injection e with e
  rw [<- e,World.cell?_setCell_same _ _ _ (h.c j _ (Array.getElem?_eq_getElem hj))]
 ·rw [if_neg hij] at e;rw [World.cell?_setCell_other]
  ·exact h.c i u e
  ·intro h';injection h' with _ h2;exact hij h2
structure Na (w X:World) (ao:Option Addr) (n cap wb rb mb:Nat) (t:Tab) (a1:Option Addr) (c1:Nat) (es:List Ed):Prop where
 at':At X wb #[.slice ao n cap,.pointer (some ⟨rb,0,none⟩),.slice none 0 0,.slice none 0 0,.slice none 0 0,.slice none 0 0]
 ra:RAt X rb t none mb 0 (fun _ _=>0)
 eo:EOwn w.heap.size X a1 c1 es
 en:∀ b,(Value.slice a1 es.length c1).ownBlock=some b->b<wb
 up:Below w.heap.size w X
 r0:w.heap.size<=rb
 m0:w.heap.size<=mb
 rw:rb<wb
 mw:mb<wb
structure Nb (w W:World) (ao:Option Addr) (n cap wb rb mb cb tb fb:Nat) (t:Tab) (a1:Option Addr) (c1:Nat) (es:List Ed):Prop where
 at':At W wb #[.slice ao n cap,.pointer (some ⟨rb,0,none⟩),.slice (some ⟨cb,0,none⟩) n n,.slice none 0 0,.slice (some ⟨tb,0,none⟩) n n,.slice (some ⟨fb,0,none⟩) n n]
 ra:RAt W rb t none mb 0 (fun _ _=>0)
 eo:EOwn w.heap.size W a1 c1 es
 en:∀ b,(Value.slice a1 es.length c1).ownBlock=some b->b<wb
 up:Below w.heap.size w W
 cy:Ir W cb n (fun _=>0)
 wt:Ir W tb n (fun _=>0)
 fs:Ir W fb n (fun _=>0)
 r0:w.heap.size<=rb
 m0:w.heap.size<=mb
 rw:rb<wb
 mw:mb<wb
 wc:wb<cb
 wt':wb<tb
 wf:wb<fb
 ct:cb≠tb
 cf:cb≠fb
 tf:tb≠fb
theorem ir3 (X:World) (n c:Nat) (h1:X.heap.size<=c) (h2:c<X.heap.size+3):Ir (((X.alloc (.cells (madeCells #[.int .i64 0] n) 3)).alloc (.cells (madeCells #[.int .i64 0] n) 3)).alloc (.cells (madeCells #[.int .i64 0] n) 3)) c n (fun _=>0):=by
 have e1:(X.alloc (.cells (madeCells #[.int .i64 0] n) 3)).heap.size=X.heap.size+1:=by simp
 have e2:((X.alloc (.cells (madeCells #[.int .i64 0] n) 3)).alloc (.cells (madeCells #[.int .i64 0] n) 3)).heap.size=X.heap.size+2:=by simp
 have g1:Below (X.alloc (.cells (madeCells #[.int .i64 0] n) 3)).heap.size (X.alloc (.cells (madeCells #[.int .i64 0] n) 3)) ((X.alloc (.cells (madeCells #[.int .i64 0] n) 3)).alloc (.cells (madeCells #[.int .i64 0] n) 3)):=(Below.refl _ _).alloc (Nat.le_refl _) _;have g2:Below ((X.alloc (.cells (madeCells #[.int .i64 0] n) 3)).alloc (.cells (madeCells #[.int .i64 0] n) 3)).heap.size ((X.alloc (.cells (madeCells #[.int .i64 0] n) 3)).alloc (.cells (madeCells #[.int .i64 0] n) 3)) (((X.alloc (.cells (madeCells #[.int .i64 0] n) 3)).alloc (.cells (madeCells #[.int .i64 0] n) 3)).alloc (.cells (madeCells #[.int .i64 0] n) 3)):=(Below.refl _ _).alloc (Nat.le_refl _) _;have k1:=((Ir.new X n 3).up g1).up g2;have k2:=(Ir.new (X.alloc (.cells (madeCells #[.int .i64 0] n) 3)) n 3).up g2;have k3:=Ir.new ((X.alloc (.cells (madeCells #[.int .i64 0] n) 3)).alloc (.cells (madeCells #[.int .i64 0] n) 3)) n 3;rw [e1] at k2;rw [e2] at k3;rcases (by omega:c=X.heap.size\/c=X.heap.size+1\/c=X.heap.size+2) with rfl|rfl|rfl
 ·exact k1
 ·exact k2
 ·exact k3
theorem nb_of {w X:World} {ao:Option Addr} {n cap wb rb mb:Nat} {t:Tab} {a1:Option Addr} {c1:Nat} {es:List Ed} (h:Na w X ao n cap wb rb mb t a1 c1 es) (cb tb fb:Nat) (p1:X.heap.size<=cb) (q1:cb<X.heap.size+3) (p2:X.heap.size<=tb) (q2:tb<X.heap.size+3) (p3:X.heap.size<=fb) (q3:fb<X.heap.size+3) (n1:cb≠tb) (n2:cb≠fb) (n3:tb≠fb) :
  Nb w (((((((X.setCell ⟨wb,2,none⟩ (.slice (some ⟨cb,0,none⟩) n n)).setCell ⟨wb,4,none⟩ (.slice (some ⟨tb,0,none⟩) n n)).setCell ⟨wb,5,none⟩ (.slice (some ⟨fb,0,none⟩) n n)).alloc (.cells (madeCells #[.int .i64 0] n) 3)).alloc (.cells (madeCells #[.int .i64 0] n) 3)).alloc (.cells (madeCells #[.int .i64 0] n) 3)).drew) ao n cap wb rb mb cb tb fb t a1 c1 es:=by
 have hw:=h.at'.lt;have a1':=((atSet (atSet (atSet h.at' (j:=2) (by simp) (.slice (some ⟨cb,0,none⟩) n n)) (j:=4) (by simp) (.slice (some ⟨tb,0,none⟩) n n)) (j:=5) (by simp) (.slice (some ⟨fb,0,none⟩) n n)));have g:Fr (One wb) X (((X.setCell ⟨wb,2,none⟩ (.slice (some ⟨cb,0,none⟩) n n)).setCell ⟨wb,4,none⟩ (.slice (some ⟨tb,0,none⟩) n n)).setCell ⟨wb,5,none⟩ (.slice (some ⟨fb,0,none⟩) n n)):=(((Fr.refl (One wb) X).setCell (.inr rfl) _ _).setCell (.inr rfl) _ _).setCell (.inr rfl) _ _;have hsz:(((X.setCell ⟨wb,2,none⟩ (.slice (some ⟨cb,0,none⟩) n n)).setCell ⟨wb,4,none⟩ (.slice (some ⟨tb,0,none⟩) n n)).setCell ⟨wb,5,none⟩ (.slice (some ⟨fb,0,none⟩) n n)).heap.size=X.heap.size:=by simp
 obtain ⟨Y,hY⟩:∃ Y,((X.setCell ⟨wb,2,none⟩ (.slice (some ⟨cb,0,none⟩) n n)).setCell ⟨wb,4,none⟩ (.slice (some ⟨tb,0,none⟩) n n)).setCell ⟨wb,5,none⟩ (.slice (some ⟨fb,0,none⟩) n n)=Y:=⟨_,rfl⟩;rw [hY] at a1' g hsz ⊢;have g0:Below Y.heap.size Y (((Y.alloc (.cells (madeCells #[.int .i64 0] n) 3)).alloc (.cells (madeCells #[.int .i64 0] n) 3)).alloc (.cells (madeCells #[.int .i64 0] n) 3)):=by go_grown
 have gd:Below Y.heap.size Y (((Y.alloc (.cells (madeCells #[.int .i64 0] n) 3)).alloc (.cells (madeCells #[.int .i64 0] n) 3)).alloc (.cells (madeCells #[.int .i64 0] n) 3)).drew:=⟨g0.os,g0.tape,g0.output,g0.size,g0.block⟩;have i1:=ir3 Y n cb (by omega) (by omega);have i2:=ir3 Y n tb (by omega) (by omega);have i3:=ir3 Y n fb (by omega) (by omega);have r1:=h.r0;have r2:=h.rw;have r3:=h.m0;have r4:=h.mw;have u:Below w.heap.size w Y:=h.up.trans (g.below h.up.size fun k hk e=>by have e:k=wb:=e;omega);refine ⟨a1'.below gd a1'.lt,(raFr h.ra g ?_ ?_).up gd,row_up (row_fr h.eo g (fun k hk e=>?_)) gd,h.en,u.trans (gd.mono u.size),i1.up (drew_up _),i2.up (drew_up _),i3.up (drew_up _),r1,r3,r2,r4,by omega,by omega,by omega,n1,n2,n3⟩
 ·show ¬ rb=wb;omega
 ·show ¬ mb=wb;omega
 ·have:=h.en k hk
  have e:k=wb:=e;omega
def toN (es:List Ed) (i:Nat):Int:=((es.countP fun e=>decide (e.t.toNat = i):Nat):Int)
theorem toN_put (es:List Ed) (e:Ed):toN (es++[e])=updI (toN es) e.t.toNat (toN es e.t.toNat + 1):=by
 funext i
 unfold toN updI;rw [List.countP_append,List.countP_singleton]
 by_cases h:i=e.t.toNat
 ·subst h;simp
 ·rw [if_neg h,if_neg (by simpa using fun e2:e.t.toNat = i=>h e2.symm)];rfl
theorem toN_le (es:List Ed) (i:Nat):0<=toN es i/\toN es i<=es.length:=by
 unfold toN
 have:=List.countP_le_length (p:=fun e:Ed=>decide (e.t.toNat = i)) (l:=es)
 omega
theorem frm_put (es:List Ed) (e:Ed) (i:Nat):frm (es++[e]) i=if e.f.toNat = i then frm es i++[e] else frm es i:=by
 unfold frm;rw [List.filter_append]
 by_cases h:e.f.toNat = i
 ·simp [h]
 ·simp [h]
def Sep (d:Dt) (n:Nat):Prop:=∀ i j,i<n->j<n->i≠j->∀ b,(d.V i).ownBlock=some b->¬ (d.V j).ownBlock=some b
def dV (d:Dt) (i:Nat) (v:Value):Dt:=⟨d.wb,d.rb,d.mb,d.cb,d.ab,d.tb,d.fb,fun j=>if j=i then v else d.V j⟩
theorem Wy.put {w0 W X w4:World} {d:Dt} {ao:Option Addr} {cap:Nat} {t:Tab} {xs:List O} {es:List Ed} {m:Nat} {f:Int->Int->Int} {C Wt Ff:Nat->Int} (h:Wy w0 W d ao cap t xs es m f C Wt Ff) (hz:∀ i,W.frozen? ⟨d.ab,i,none⟩=false) (hs:Sep d xs.length) (hX:Below W.heap.size W X) {i g cp:Nat} {e:Ed} (hi:i<xs.length) (he:e.f.toNat = i) (hgrow:X.grownBy w4 (d.V i).ownBlock) (hown:w4.ownsRow (d.ab+1) 112 5 (.slice (some ⟨g,0,none⟩) ((frm es i).length+1) cp) ((frm es i).length+1) (ecells (frm es i)++e.cells)) (hg:(d.V i).ownBlock=some g\/W.heap.size<=g) :
  (w4.cell? ⟨d.ab,i,none⟩=some (d.V i)/\w4.frozen? ⟨d.ab,i,none⟩=false/\d.ab<w4.heap.size/\Fr (fun b=>(d.V i).ownBlock=some b) W w4) /\
  (Wy w0 (w4.setCell ⟨d.ab,i,none⟩ (.slice (some ⟨g,0,none⟩) ((frm es i).length+1) cp)) (dV d i (.slice (some ⟨g,0,none⟩) ((frm es i).length+1) cp)) ao cap t xs (es++[e]) m f C Wt Ff /\
  (∀ j,(w4.setCell ⟨d.ab,i,none⟩ (.slice (some ⟨g,0,none⟩) ((frm es i).length+1) cp)).frozen? ⟨d.ab,j,none⟩=false) /\
  Sep (dV d i (.slice (some ⟨g,0,none⟩) ((frm es i).length+1) cp)) xs.length/\Fr (fun b=>b=d.ab\/(d.V i).ownBlock=some b) W (w4.setCell ⟨d.ab,i,none⟩ (.slice (some ⟨g,0,none⟩) ((frm es i).length+1) cp))):=by
 have hF:Fr (fun b=>(d.V i).ownBlock=some b) W w4:=(Fr.of hX).trans (grown_fr hgrow) fun _ _ e=>e;have hlo:∀ b,(d.V i).ownBlock=some b->d.ab+1<=b/\b<W.heap.size:=fun b hb=>(h.rw i hi).lt b hb;have na:¬ (d.V i).ownBlock=some d.ab:=fun e=>by have:=hlo _ e;omega
 have c1:=(hF.cell h.al na i).trans (h.af i hi);have c2:=(hF.frozen h.al na i).trans (hz i);have hz4:d.ab<w4.heap.size:=Nat.lt_of_lt_of_le h.al hF.size;have o:=h.ok;have o1:=o.r0;have o2:=o.rw;have o3:=o.mw;have o4:=o.wc;have o5:=o.ca;have o6:=o.wt;have o7:=o.ta;have o8:=o.wf;have o9:=o.fa;have o10:=o.m0;have G:Fr (fun b=>b=d.ab\/(d.V i).ownBlock=some b) W (w4.setCell ⟨d.ab,i,none⟩ (.slice (some ⟨g,0,none⟩) ((frm es i).length+1) cp)):=(hF.mono fun k _ e=>.inr e).setCell (.inr (.inl rfl)) _ _;have lo:∀ b,b<d.ab->¬ (b=d.ab\/(d.V i).ownBlock=some b):=fun b hb e=>by
  rcases e with e|e
  ·omega
  ·have:=hlo b e;omega
 refine ⟨⟨c1,c2,hz4,hF⟩,⟨⟨o.r0,o.m0,o.rw,o.mw,o.wc,o.wt,o.wf,o.ct,o.cf,o.tf,o.ca,o.ta,o.fa⟩,h.up.trans (G.below h.up.size fun k hk=>lo k (by omega)),h.op,atFr h.at' G (lo d.wb (by omega)),raFr h.ra G (lo d.rb (by omega)) (lo d.mb (by omega)),h.cy.fr G (lo _ o5),h.wt.fr G (lo _ o7),h.fs.fr G (lo _ o9),fun j hj=>?_,by simpa [dV] using hz4,fun j hj=>?_⟩,fun j=>?_,fun j k hj hk hjk b hb=>?_,G⟩
 ·by_cases e:j=i
  ·subst e;show World.cell? _ ⟨d.ab,j,none⟩=some (if j=j then _ else _);rw [if_pos rfl,World.cell?_setCell_same _ _ _ c1]
  ·show World.cell? _ ⟨d.ab,j,none⟩=some (if j=i then _ else d.V j);rw [if_neg e,World.cell?_setCell_other]
   ·exact (hF.cell h.al na j).trans (h.af j hj)
   ·intro h';injection h' with _ h2;exact e h2.symm
 ·show World.ownsRow _ (d.ab+1) 112 5 (if j=i then _ else d.V j) _ _;rw [frm_put,he]
  by_cases e:j=i
  ·subst e;rw [if_pos rfl,if_pos rfl,ecells_put,List.length_append];exact row_set' hown (by omega) _
  ·rw [if_neg e,if_neg (fun e2=>e e2.symm)];refine row_fr (h.rw j hj) G fun k hk e2=>?_;rcases e2 with e2|e2
   ·have:=((h.rw j hj).lt k hk).1;omega
   ·exact hs j i hj hi e k hk e2
 ·rw [World.frozen?_setCell];exact (hF.frozen h.al na j).trans (hz j)
 ·have hb:(if j=i then Value.slice (some ⟨g,0,none⟩) ((frm es i).length+1) cp else d.V j).ownBlock=some b:=hb;show ¬ (if k=i then Value.slice (some ⟨g,0,none⟩) ((frm es i).length+1) cp else d.V k).ownBlock=some b
  by_cases e1:j=i
  ·rw [if_pos e1] at hb;rw [if_neg (fun e2=>hjk (e1.trans e2.symm))];have e3:g=b:=by simpa [Value.ownBlock] using hb
   subst e3;rcases hg with hg|hg
   ·exact hs i k hi hk (fun e=>hjk (e1.trans e)) g hg
   ·intro e4
    have:=((h.rw k hk).lt g e4).2
    omega
  ·rw [if_neg e1] at hb
   by_cases e2:k=i
   ·rw [if_pos e2];intro e3;have e3:g=b:=by simpa [Value.ownBlock] using e3
    subst e3;rcases hg with hg|hg
    ·exact hs j i hj hi e1 g hb hg
    ·have:=((h.rw j hj).lt g hb).2
     omega
   ·rw [if_neg e2];exact hs j k hj hk hjk b hb
end Go.Proofs.YtcmlnemokckbdaaGreatDoor.Ls
