/- Parts Zn Zo Zk Zl Zm. -/
import Derived.Test.YtiejdpjgplikjaaGreatDoorN24
import Derived.Test.YtiejdpjgplikjaaGreatDoorN39
import Derived.Test.YtiejdpjgplikjaaGreatDoorN46
import Derived.Test.YtiejdpjgplikjaaGreatDoorN20
import Derived.Test.YtiejdpjgplikjaaGreatDoorN21
import Derived.Deep.WholeRow
set_option maxRecDepth 20000
set_option maxHeartbeats 8000000
namespace Go.Proofs.YtiejdpjgplikjaaGreatDoor.Bn
open Go.ChangeShapes Go.WideShapes Go.ChangeAt Go.RowKit
open YtiejdpjgplikjaaGreatDoor.Op YtiejdpjgplikjaaGreatDoor.So
open YtiejdpjgplikjaaGreatDoor.Dp (Ed lisE okL cls_all17 lis_all right_any)
open YtiejdpjgplikjaaGreatDoor.Tb (Tab TabAt Bnds ckR)
theorem clV_D {o:O} (h:okL o=true):clV o.op=(clD o.op:Int)/\clB o.op=true:=by
 simp only [okL,Bool.and_eq_true,decide_eq_true_eq] at h;obtain ⟨⟨h1,h2⟩,h3⟩:=h;obtain ⟨n,hn⟩:∃ n:Nat,o.op=n:=⟨o.op.toNat,by omega⟩;unfold clV clB clD
 cases hk:kOf o.op with
 | none=>rw [okO_none hk] at h3;cases h3
 | some k=>
  have hk2:=hk;unfold kOf at hk2;rw [if_pos (by omega),hn,Int.toNat_natCast] at hk2;have hc:=cls_all17 n (by omega) (by omega) k hk2;have hcv:k.cls=((if 15<=n then 2 else if 12<=n then 1 else 0:Nat):Int):=by
   rw [hc]
   split
   ·rfl
   ·split <;> rfl
  have hne:(k.cls == -1)=false:=by rw [hcv];simp
  refine ⟨?_,?_⟩
  ·show (if k.cls == -1 then (0:Int) else k.cls)=_;rw [hne,if_neg (by decide),hcv,hn]
   by_cases c1:15<=n
   ·have c1':(15:Int)<=(n:Int):=by omega
    rw [if_pos c1,if_pos c1']
   ·have c1':¬ (15:Int)<=(n:Int):=by omega
    by_cases c2:12<=n
    ·have c2':(12:Int)<=(n:Int):=by omega
     rw [if_neg c1,if_neg c1',if_pos c2,if_pos c2']
    ·have c2':¬ (12:Int)<=(n:Int):=by omega
     rw [if_neg c1,if_neg c1',if_neg c2,if_neg c2']
  ·simp [hne]
theorem hu_no3 {t:Tab} {xs:List O} (h:t.u 3=0):huB t (cts xs) 4=false:=huB_le (k:=3) (by omega) (by rw [cts_3];simp [h])
theorem hu_noj {t:Tab} {xs:List O} {j:Nat} (hj:j<xs.length) (h:t.u (clD xs[j].op)=0):huB t (cts xs) 4=false:=huB_le (k:=clD xs[j].op) (by have:=clD_lt xs[j].op;omega) (by simp [cts_pos hj,h])
theorem huB_of {t:Tab} {f:Nat->Int} : ∀ {n:Nat},(∀ k,k<n->0<f k->¬ t.u k=0)->huB t f n=true
 | 0,_=>rfl
 | n+1,h=>by
  unfold huB;rw [huB_of fun k hk=>h k (by omega)]
  have:=h n (by omega)
  by_cases c:0<f n
  ·simp [c,this c]
  ·simp [c]
theorem hu_yes {t:Tab} {xs:List O} (h3:¬ t.u 3=0) (h:∀ (j:Nat) (hj:j<xs.length),j<xs.length->¬ t.u (clD xs[j].op)=0):huB t (cts xs) 4=true:=huB_of fun k hk hp=>by
 by_cases e:k=3
 ·subst e;exact h3
 ·rw [cts_lo xs e] at hp
  have:=(ctL_pos xs k xs.length (Nat.le_refl _)).1 (by rw [List.take_length];exact hp)
  obtain ⟨j,hj,-,e2⟩:=this;rw [<- e2];exact h j hj hj
theorem refRight_any (ao:Option Addr) (cap:Nat) (xs:List O) (t:Tab) (w:World) (h:OpsAt w ao xs) :
  Calls Tryz.prog 92 #[.slice ao xs.length cap,t.val] w fun e w'=>e=.returned (.int .i64 (rgE t xs))/\Below w.heap.size w w':=by
 have HC:Hid (∀ W,Calls Tryz.prog 132 #[t.val] W fun e w'=>e=.returned (.int .i64 (ckR t))/\Below W.heap.size W w'):=fun W=>Tb.refCheck_any t W;have HL:Hid (∀ W,Below w.heap.size w W->Calls Tryz.prog 96 #[.slice ao xs.length cap,t.val] W fun e w'=>e=.returned (.int .i64 (lisE t xs))/\Below W.heap.size W w'):=fun W hb=>right_any ao cap xs t W (h.below hb);have HO:Hid (OpsAt w ao xs):=h;have hlen:=h.len;clear h
 cases h1:t.ok
 ·have hr:rgE t xs=20:=by unfold rgE;rw [if_pos h1]
  have hk:ckR t=20:=by unfold ckR;rw [h1];rfl
  rw [hr];rw [hk] at HC;clear hr hk h1 HL HO;unfold Tab.val at *;go_enter Tryz.func92,Tryz.ntmps92;go_wp2_with (first
   | (go_at_call 132;refine Calls.mono (HC.out _) ?_;rintro e w1 ⟨rfl,hb⟩;have HT:Hid (Tq w w1 t):=Tq.start w t hb;clear hb HC))
  go_ret
  exact ⟨rfl,HT.out.up⟩
 ·have hk:ckR t=0:=by unfold ckR;rw [h1];rfl
  rw [hk] at HC;clear hk
  by_cases h2:64<xs.length
  ·have hr:rgE t xs=3:=by unfold rgE;rw [if_neg (by rw [h1];decide),if_pos h2]
   have h2':(64:Int)<(xs.length:Int):=by omega
   rw [hr];clear hr h1 h2 HL HO;unfold Tab.val at *;go_enter Tryz.func92,Tryz.ntmps92;go_wp2_with (first
    | (go_at_call 132;refine Calls.mono (HC.out _) ?_;rintro e w1 ⟨rfl,hb⟩;have HT:Hid (Tq w w1 t):=Tq.start w t hb;clear hb HC))
   go_ret
   exact ⟨rfl,HT.out.up⟩
  ·have h2':¬ (64:Int)<(xs.length:Int):=by omega
   cases h3:xs.all okL
   ·have hr:rgE t xs=30:=by unfold rgE;rw [if_neg (by rw [h1];decide),if_neg h2,if_pos h3]
    have hl:lisE t xs=30:=by unfold lisE;rw [if_neg (by rw [h1];decide),if_neg (by omega),if_neg (by rw [h3];decide)]
    rw [hr];rw [hl] at HL;clear hr hl h1 h2 h3 HO;unfold Tab.val at *;go_enter Tryz.func92,Tryz.ntmps92;go_wp2_with (first
     | (go_at_call 132;refine Calls.mono (HC.out _) ?_;rintro e w1 ⟨rfl,hb⟩;have HT:Hid (Tq w w1 t):=Tq.start w t hb;clear hb HC;have s1:=HT.out.t;have tu0:=s1.cu 0 (by decide);have tu1:=s1.cu 1 (by decide);have tu2:=s1.cu 2 (by decide);have tu3:=s1.cu 3 (by decide);have tl0:=s1.cl 0 (by decide);have tl1:=s1.cl 1 (by decide);have tl2:=s1.cl 2 (by decide);have tl3:=s1.cl 3 (by decide);have tb0:=s1.cb 0 (by decide);have tb1:=s1.cb 1 (by decide);have tb2:=s1.cb 2 (by decide);have tb3:=s1.cb 3 (by decide);have td:=s1.cd;have tz:=s1.lt;clear s1)
     | (go_at_call 96;refine Calls.mono (HL.out _ HT.out.up) ?_;rintro e w2 ⟨rfl,hb⟩;have HT2:Hid (Tq w w2 t):=HT.out.next hb;clear hb HL HT;clear tu0 tu1 tu2 tu3 tl0 tl1 tl2 tl3 tb0 tb1 tb2 tb3 td tz))
    go_ret
    exact ⟨rfl,HT2.out.up⟩
   ·have hl:lisE t xs=0:=by unfold lisE;rw [if_neg (by rw [h1];decide),if_neg (by omega),if_pos h3]
    have HV:Hid (rgE t xs=if huB t (cts xs) 4=false then 21 else 0):=by show rgE t xs=_;unfold rgE;rw [if_neg (by rw [h1];decide),if_neg h2,if_neg (by rw [h3];decide)]
    have HOk:Hid (∀ o∈xs,okL o=true):=(lis_all hl).2.2;rw [hl] at HL;clear hl h1 h2 h3
    by_cases h5:t.u 3=0
    ·have HRes:Hid (rgE t xs=21):=by show rgE t xs=21;rw [HV.out,if_pos (hu_no3 h5)]
     have H5:Hid (t.u 3=0):=h5;clear HV h5 HO HOk;generalize rgE t xs=rg at *;unfold Tab.val at *;go_enter Tryz.func92,Tryz.ntmps92;go_upto_region 9 with (first
      | (go_at_call 132;refine Calls.mono (HC.out _) ?_;rintro e w1 ⟨rfl,hb⟩;have HT:Hid (Tq w w1 t):=Tq.start w t hb;clear hb HC;have s1:=HT.out.t;have tu0:=s1.cu 0 (by decide);have tu1:=s1.cu 1 (by decide);have tu2:=s1.cu 2 (by decide);have tu3:=s1.cu 3 (by decide);have tl0:=s1.cl 0 (by decide);have tl1:=s1.cl 1 (by decide);have tl2:=s1.cl 2 (by decide);have tl3:=s1.cl 3 (by decide);have tb0:=s1.cb 0 (by decide);have tb1:=s1.cb 1 (by decide);have tb2:=s1.cb 2 (by decide);have tb3:=s1.cb 3 (by decide);have td:=s1.cd;have tz:=s1.lt;clear s1)
      | (go_at_call 96;refine Calls.mono (HL.out _ HT.out.up) ?_;rintro e w2 ⟨rfl,hb⟩;have HT2:Hid (Tq w w2 t):=HT.out.next hb;clear hb HL HT;clear tu0 tu1 tu2 tu3 tl0 tl1 tl2 tl3 tb0 tb1 tb2 tb3 td tz))
     have tz:=HT2.out.t.lt;have tu3:=HT2.out.t.cu 3 (by decide);rw [H5.out] at tu3;go_wp2_with fail
     go_ret
     exact ⟨by rw [HRes.out];rfl,HT2.out.up⟩
    ·have HU3:Hid (¬ t.u 3=0):=h5;clear h5;generalize rgE t xs=rg at *;unfold Tab.val at *;go_enter Tryz.func92,Tryz.ntmps92;go_upto_region 9 with (first
      | (go_at_call 132;refine Calls.mono (HC.out _) ?_;rintro e w1 ⟨rfl,hb⟩;have HT:Hid (Tq w w1 t):=Tq.start w t hb;clear hb HC;have s1:=HT.out.t;have tu0:=s1.cu 0 (by decide);have tu1:=s1.cu 1 (by decide);have tu2:=s1.cu 2 (by decide);have tu3:=s1.cu 3 (by decide);have tl0:=s1.cl 0 (by decide);have tl1:=s1.cl 1 (by decide);have tl2:=s1.cl 2 (by decide);have tl3:=s1.cl 3 (by decide);have tb0:=s1.cb 0 (by decide);have tb1:=s1.cb 1 (by decide);have tb2:=s1.cb 2 (by decide);have tb3:=s1.cb 3 (by decide);have td:=s1.cd;have tz:=s1.lt;clear s1)
      | (go_at_call 96;refine Calls.mono (HL.out _ HT.out.up) ?_;rintro e w2 ⟨rfl,hb⟩;have HT2:Hid (Tq w w2 t):=HT.out.next hb;clear hb HL HT;clear tu0 tu1 tu2 tu3 tl0 tl1 tl2 tl3 tb0 tb1 tb2 tb3 td tz))
     have tz:=HT2.out.t.lt;have tu3:=HT2.out.t.cu 3 (by decide);have h5':(t.u 3==0)=false:=by have:=HU3.out;simpa using this
     go_wp2_with fail
     clear tz tu3 h5'
     go_loopw [7] (fun v wr=>∃ k:Nat,k<=xs.length/\v=.int .i64 k/\(∀ (j:Nat) (hj:j<xs.length),j<k->¬ t.u (clD xs[j].op)=0)/\Tq w wr t) (fun v _=>xs.length-(intOf v).toNat)
     case atStart=>exact ⟨0,by omega,rfl,fun j hj h=>by omega,HT2.out⟩
     case round=>
      rename World=>wr;obtain ⟨k,hk,rfl,hall,hs⟩:=hrel;have HQ:Hid (Tq w wr t):=hs;have HA:Hid (∀ (j:Nat) (hj:j<xs.length),j<k->¬ t.u (clD xs[j].op)=0):=hall;clear hs hall HT2
      by_cases hlt:k<xs.length
      ·have k0:(0:Int)<=(k:Int):=by omega
       have k1:(k:Int)<(xs.length:Int):=by omega
       obtain ⟨b,f,rfl,hz2,hx⟩:=(HO.out.below HQ.out.up).is (by omega);obtain ⟨q0,q1,q2,q3,q4⟩:=hx k hlt;have HCl:Hid (∀ W,Calls Tryz.prog 54 #[.int .i8 xs[k].op] W fun e w'=>e=.returned (.tuple #[.int .i64 (clD xs[k].op:Int),.bool true])/\Below W.heap.size W w'):=fun W=>by
        have:=refClass_any xs[k].op W
        rw [(clV_D (HOk.out _ (List.getElem_mem hlt))).1,(clV_D (HOk.out _ (List.getElem_mem hlt))).2] at this;exact this
       have hc3:=clD_lt xs[k].op;have HNo:Hid (t.u (clD xs[k].op)=0->rg=21):=fun h=>by rw [HV.out,if_pos (hu_noj hlt h)]
       have HYs:Hid (¬ t.u (clD xs[k].op)=0->∀ (j:Nat) (hj:j<xs.length),j<k+1->¬ t.u (clD xs[j].op)=0):=fun h j hj h1=>by
        by_cases e:j=k
        ·subst e;exact h
        ·exact HA.out j hj (by omega)
       clear hx;generalize xs[k]=o at *;generalize clD o.op=cl at *;have cl0:(0:Int)<=(cl:Int):=by omega
       have cl1:(cl:Int)<4:=by omega
       by_cases hu:t.u cl=0
       ·have HRes:Hid (rg=21):=HNo.out hu;go_wp2_with (first
         | (go_at_call 54;refine Calls.mono (HCl.out _) ?_;rintro e w3 ⟨rfl,hb⟩;have HQ3:Hid (Tq w w3 t):=HQ.out.next hb;clear hb HCl HQ q0 q1 q2 q3 q4 hz2;have cu:=HQ3.out.t.cu cl (by omega);rw [hu] at cu;have ctz:=HQ3.out.t.lt))
        go_ret
        exact ⟨by rw [HRes.out];rfl,HQ3.out.up⟩
       ·have HRel:=HYs.out hu;have HRl:Hid (∀ (j:Nat) (hj:j<xs.length),j<k+1->¬ t.u (clD xs[j].op)=0):=HRel;have hu':(t.u cl==0)=false:=by simpa using hu
        clear HRel;go_wp2_with (first
         | (go_at_call 54;refine Calls.mono (HCl.out _) ?_;rintro e w3 ⟨rfl,hb⟩;have HQ3:Hid (Tq w w3 t):=HQ.out.next hb;clear hb HCl HQ q0 q1 q2 q3 q4 hz2;have cu:=HQ3.out.t.cu cl (by omega);have ctz:=HQ3.out.t.lt))
        go_roundw
        case rel=>exact ⟨k+1,by omega,by go_num,HRl.out,HQ3.out⟩
        case measure=>simp [intOf];omega
      ·obtain rfl:k=xs.length:=by omega
       have k1:¬ (xs.length:Int)<(xs.length:Int):=by omega
       have HRes:Hid (rg=0):=by show rg=0;rw [HV.out,if_neg (by rw [hu_yes HU3.out HA.out];decide)]
       go_wp2_with fail
       go_ret
       exact ⟨by rw [HRes.out];rfl,HQ.out.up⟩
end Go.Proofs.YtiejdpjgplikjaaGreatDoor.Bn
namespace Go.Proofs.YtiejdpjgplikjaaGreatDoor.Bn
open Go.ChangeShapes Go.WideShapes Go.ChangeAt Go.RowKit
open YtiejdpjgplikjaaGreatDoor.Op YtiejdpjgplikjaaGreatDoor.So
open YtiejdpjgplikjaaGreatDoor.Dp (Ed lisE okL lis_all)
open YtiejdpjgplikjaaGreatDoor.Tb (Tab TabAt Bnds ckR)
def ctR (xs:List O) (k:Nat):Nat->Int:=fun c=>if c=3 then 1 else ctL (xs.take k) c
theorem ctR_0 (xs:List O):up1 (fun _=>0) 3 1=ctR xs 0:=by
 funext c
 unfold up1 ctR
 split
 ·rfl
 ·unfold ctL;simp
theorem ctR_next {xs:List O} {k:Nat} (h:k<xs.length):ctR xs (k+1)=up1 (ctR xs k) (clD xs[k].op) (ctR xs k (clD xs[k].op)+1):=by
 have h3:=clD_lt xs[k].op;funext c
 unfold ctR;rw [ctL_next h];unfold up1
 by_cases e:c=clD xs[k].op
 ·rw [if_pos e,if_pos e,if_neg (by omega),if_neg (by omega)]
 ·rw [if_neg e,if_neg e]
theorem ctR_all (xs:List O):ctR xs xs.length=cts xs:=by
 funext c
 unfold ctR cts up1;rw [List.take_length,ctL_3]
 split <;> rfl
theorem ctR_in (xs:List O) {k:Nat} (hk:k<=xs.length) (c:Nat):0<=ctR xs k c/\ctR xs k c<=k+1:=by
 have:=ctL_take xs c k hk
 unfold ctR
 split <;> omega
structure Cr (w W:World) (t:Tab) (b:Nat) (f:Nat->Int):Prop where
 q:Tq w W t
 c:Iv W b 4 f
 hb:w.heap.size<b
theorem Cr.next {w W W':World} {t:Tab} {b:Nat} {f:Nat->Int} (h:Cr w W t b f) (g:Below W.heap.size W W'):Cr w W' t b f:=⟨h.q.next g,h.c.up g,h.hb⟩
theorem Cr.set {w W:World} {t:Tab} {b:Nat} {f:Nat->Int} (h:Cr w W t b f) {k:Nat} (hk:k<4) (v:Int):Cr w (W.setCell ⟨b,k,none⟩ (.int .i64 v)) t b (up1 f k v):=by
 have hb:=h.hb;exact ⟨⟨h.q.t.below ((Below.refl b W).setCell (Nat.le_refl _) _) hb,h.q.up.setCell (by show w.heap.size<=b;omega) _⟩,h.c.set hk v,hb⟩
theorem cr_start {w W:World} {t:Tab} (h:Tq w W t):Cr w (W.alloc (.cells z4 23)) t W.heap.size fun _=>0:=
 ⟨h.next ((Below.refl _ _).alloc (Nat.le_refl _) _),iv_new W 23,h.t.lt⟩
theorem refUnits_any (ao:Option Addr) (cap:Nat) (xs:List O) (t:Tab) (w:World) (h:OpsAt w ao xs) :
  Calls Tryz.prog 47 #[.slice ao xs.length cap,t.val] w fun e w'=>e=.returned (.tuple #[.int .i64 (unE t xs),.int .i64 (rgE t xs)])/\Below w.heap.size w w':=by
 have HR:Hid (∀ W,Below w.heap.size w W->Calls Tryz.prog 92 #[.slice ao xs.length cap,t.val] W fun e w'=>e=.returned (.int .i64 (rgE t xs))/\Below W.heap.size W w'):=fun W hb=>refRight_any ao cap xs t W (h.below hb);unfold unE
 by_cases he:rgE t xs=0
 ·obtain ⟨h1,h2,h3,h4⟩:=rg_ok he;have HO:Hid (OpsAt w ao xs):=h;have HOk:Hid (∀ o∈xs,okL o=true):=(lis_all h3).2.2;have hf:∀ k,0<=cts xs k/\cts xs k<=100:=fun k=>by have:=cts_in xs k;omega
  have HI:Hid (∀ k,k<4->0<cts xs k->(0<=cts xs k*t.b k/\cts xs k*t.b k<=400)/\1<=t.u k/\t.u k<=8):=fun k hk h0=>by
   have g1:=(tab_in h1).2 k hk;have g2:=huB_all h4 hk h0;have g3:=hf k;have g4:cts xs k*t.b k<=100*4:=Int.mul_le_mul g3.2 g1.2.2.2 (by omega) (by omega);exact ⟨⟨Int.mul_nonneg (by omega) (by omega),by omega⟩,by omega,by omega⟩
  have HB:Hid (∀ k,k<=4->0<=buI t (cts xs) k/\buI t (cts xs) k<=407):=fun k hk=>⟨buI_0 _ _ _,buI_le h1 h4 hf k hk⟩;rw [if_pos he,he];rw [he] at HR;have hlen:xs.length<=64:=h2;have hlen':(xs.length:Int)<=64:=by omega
  clear h he h1 h2 h3 h4 hf;unfold Tab.val at *;go_enter Tryz.func47,Tryz.ntmps47;go_upto_region 5 with (first
   | (go_at_call 92;refine Calls.mono (HR.out _ (by go_grown)) ?_;rintro e w1 ⟨rfl,hb⟩;have HT:Hid (Tq w w1 t):=Tq.start w t hb;clear hb HR))
  have HC0:Hid (Cr w (w1.alloc (.cells z4 23)) t w1.heap.size fun _=>0):=cr_start HT.out;generalize (w1.alloc (.cells z4 23))=V at *;generalize w1.heap.size=cb at *;clear HT;have cc:=HC0.out.c.c 3 (by omega);have cf:=HC0.out.c.f 3;have hl:=HC0.out.c.lt;go_upto_region 6 with fail
  have HC1:Hid (Cr w (V.setCell ⟨cb,3,none⟩ (.int .i64 1)) t cb (ctR xs 0)):=by show Cr w _ t cb _;rw [<- ctR_0];exact HC0.out.set (by omega) 1
  generalize (V.setCell ⟨cb,3,none⟩ (.int .i64 1))=V1 at *;clear cc cf hl HC0;go_wp2_with fail
  go_loopw [8] (fun v wr=>∃ k:Nat,k<=xs.length/\v=.int .i64 k/\Cr w wr t cb (ctR xs k)) (fun v _=>xs.length-(intOf v).toNat)
  case atStart=>exact ⟨0,by omega,rfl,HC1.out⟩
  case round=>
   rename World=>wr;obtain ⟨k,hk,rfl,hs⟩:=hrel;have HQ:Hid (Cr w wr t cb (ctR xs k)):=hs;clear hs HC1
   by_cases hlt:k<xs.length
   ·have k0:(0:Int)<=(k:Int):=by omega
    have k1:(k:Int)<(xs.length:Int):=by omega
    obtain ⟨b,f,rfl,hz2,hx⟩:=(HO.out.below HQ.out.q.up).is (by omega);obtain ⟨q0,q1,q2,q3,q4⟩:=hx k hlt;have HCl:Hid (∀ W,Calls Tryz.prog 54 #[.int .i8 xs[k].op] W fun e w'=>e=.returned (.tuple #[.int .i64 (clD xs[k].op:Int),.bool true])/\Below W.heap.size W w'):=fun W=>by
     have:=refClass_any xs[k].op W
     rw [(clV_D (HOk.out _ (List.getElem_mem hlt))).1,(clV_D (HOk.out _ (List.getElem_mem hlt))).2] at this;exact this
    have hc3:=clD_lt xs[k].op;have HNx:Hid (ctR xs (k+1)=up1 (ctR xs k) (clD xs[k].op) (ctR xs k (clD xs[k].op)+1)):=ctR_next hlt;have cin:=ctR_in xs hk (clD xs[k].op);clear hx;generalize xs[k]=o at *;generalize clD o.op=cl at *;have cl0:(0:Int)<=(cl:Int):=by omega
    have cl1:(cl:Int)<4:=by omega
    generalize ctR xs k=g at *;obtain ⟨gv,hgv⟩:∃ gv,g cl=gv:=⟨_,rfl⟩;have HGv:Hid (g cl=gv):=hgv;rw [hgv] at cin HNx;clear hgv;go_wp2_with (first
     | (go_at_call 54;refine Calls.mono (HCl.out _) ?_;rintro e w3 ⟨rfl,hb⟩;have HQ3:Hid (Cr w w3 t cb g):=HQ.out.next hb;clear hb HCl HQ q0 q1 q2 q3 q4 hz2;have cu:=HQ3.out.c.c cl (by omega);rw [HGv.out] at cu;have cf:=HQ3.out.c.f cl;have ctz:=HQ3.out.c.lt))
    go_roundw
    case rel=>exact ⟨k+1,by omega,by go_num,by rw [HNx.out];exact HQ3.out.set (by omega) _⟩
    case measure=>simp [intOf];omega
   ·obtain rfl:k=xs.length:=by omega
    have k1:¬ (xs.length:Int)<(xs.length:Int):=by omega
    have HQ2:Hid (Cr w wr t cb (cts xs)):=by have h:=HQ.out;rw [ctR_all] at h;exact h
    clear HQ;obtain ⟨F,hF⟩:∃ F,cts xs=F:=⟨_,rfl⟩;have HFF:Hid (cts xs=F):=hF;rw [hF] at HI HB HQ2;clear hF;go_wp2_with fail
    go_loopw [11,12] (fun u v wr=>∃ k:Nat,k<=4/\u=.int .i64 (buI t F k)/\v=.int .i64 k/\Cr w wr t cb F) (fun _ v _=>4-(intOf v).toNat)
    case atStart=>exact ⟨0,by omega,rfl,rfl,HQ2.out⟩
    case round=>
     rename World=>wz;obtain ⟨k,hk,rfl,rfl,hs⟩:=hrel;have HQ:Hid (Cr w wz t cb F):=hs;clear hs HQ2
     by_cases hlt:k<4
     ·have k0:(0:Int)<=(k:Int):=by omega
      have k2:(k:Int)<4:=by omega
      have hbu:=HB.out k hk;have cc:=HQ.out.c.c k hlt;have cl:=HQ.out.c.lt
      by_cases h1:0<F k
      ·have HNx:Hid (buI t F (k+1)=max (buI t F k) ((F k*t.b k+t.u k-1).tdiv (t.u k))):=if_pos h1;have hin:=HI.out k hlt h1;obtain ⟨⟨p0,p1⟩,u1,u2⟩:=hin;have hd:=tdiv_le p0 u1 u2;have hu0:¬ t.u k=0:=by omega
       have HT2:Hid (∀ x:Wd (Below wz.heap.size wz),Cr w x.w t cb F):=fun x=>HQ.out.next x.ok;go_upto_region 16 with fail
       clear cc cl;have cu:∀ x:Wd (Below wz.heap.size wz),x.w.cell? ⟨w.heap.size,k,none⟩=some (.int .i64 (t.u k)):=fun x=>(HT2.out x).q.t.cu k hlt;have cb2:∀ x:Wd (Below wz.heap.size wz),x.w.cell? ⟨w.heap.size,8+k,none⟩=some (.int .i64 (t.b k)):=fun x=>(HT2.out x).q.t.cb k hlt;have cF:∀ x:Wd (Below wz.heap.size wz),x.w.cell? ⟨cb,k,none⟩=some (.int .i64 (F k)):=fun x=>(HT2.out x).c.c k hlt
       haveI inst:Nonempty (Wd (Below wz.heap.size wz)):=⟨⟨wz,Below.refl _ _⟩⟩
       refine wp_region_in (Below wz.heap.size wz) (by kernel_rfl) (by kernel_rfl) ((Below.refl _ _).drew) ?_
       repeat (first|go_big_quiet_step (fail))
       refine wpQuiet_nil ?_;rintro _ ⟨x,rfl⟩;have HQ3:Hid (Cr w x.w t cb F):=HT2.out x;go_wp2_with fail
       go_roundw
       case rel=>exact ⟨k+1,by omega,by rw [HNx.out],by go_num,HQ3.out⟩
       case measure=>simp [intOf];omega
      ·have HNx:Hid (buI t F (k+1)=buI t F k):=if_neg h1;generalize F k=fv at *;go_wp2_with fail
       go_roundw
       case rel=>exact ⟨k+1,by omega,by rw [HNx.out],by go_num,HQ.out⟩
       case measure=>simp [intOf];omega
     ·obtain rfl:k=4:=by omega
      have k2:¬ ((4:Nat):Int)<4:=by omega
      go_wp2_with fail
      go_ret2
      exact ⟨by rw [HFF.out];rfl,HQ.out.q.up⟩
 ·rw [if_neg he];have he2:(rgE t xs != 0)=true:=by simpa using he
  clear h;generalize rgE t xs=er at *;unfold Tab.val at *;go_enter Tryz.func47,Tryz.ntmps47;go_wp2_with (first
   | (go_at_call 92;refine Calls.mono (HR.out _ (by go_grown)) ?_;rintro e w1 ⟨rfl,hb⟩;have HT:Hid (Tq w w1 t):=Tq.start w t hb;clear hb HR))
  go_ret2
  exact ⟨rfl,HT.out.up⟩
end Go.Proofs.YtiejdpjgplikjaaGreatDoor.Bn
namespace Go.Proofs.YtiejdpjgplikjaaGreatDoor.Bn
open Go.ChangeShapes Go.WideShapes Go.ChangeAt Go.RowKit
open YtiejdpjgplikjaaGreatDoor.Op YtiejdpjgplikjaaGreatDoor.So
open YtiejdpjgplikjaaGreatDoor.Dp (Ed)
theorem pas_put (q:Int) (l:List Ed) (e:Ed) (g:Nat->Int):pas q (l++[e]) g=rlx q (pas q l g) e:=by unfold pas;rw [List.foldl_append];rfl
theorem chg_put (q:Int) (e:Ed):∀ (l:List Ed) (g:Nat->Int),chg q (l++[e]) g=(chg q l g || decide (pas q l g e.t.toNat<pas q l g e.f.toNat + wt q e))
 | [],g=>by show (decide _ || false)=(false || decide _);rw [Bool.or_false,Bool.false_or];rfl
 | a::l,g=>by
  show (decide _ || chg q (l++[e]) (rlx q g a))=((decide _ || chg q l (rlx q g a)) || decide (pas q l (rlx q g a) _<pas q l (rlx q g a) _+_));rw [chg_put q e l (rlx q g a),Bool.or_assoc]
theorem take_put {es:List Ed} {j:Nat} (h:j<es.length):es.take (j+1)=es.take j++[es[j]]:=List.take_succ_eq_append_getElem h
theorem info3:(Tryz.prog.info? 3).map (fun i=>(i.zero,i.size,i.bytes))=some (some (.int .i64 0),1,8):=by kernel_rfl
theorem iv_made (W:World) (n:Nat) (t:TypeId):Iv (W.alloc (.cells (madeCells #[.int .i64 0] n) t)) W.heap.size n (fun _=>0):=by
 have h:=At.new W (madeCells #[.int .i64 0] n) t;refine ⟨fun k hk=>h.c k _ ?_,h.f,h.lt⟩;rw [<- Array.getElem?_toList,toList_madeCells_one];simp [hk]
structure Lw (w W:World) (b n:Nat) (g:Nat->Int) (a:Option Addr) (es:List Ed):Prop where
 m:Iv W b n g
 e:Es W a es
 up:Below w.heap.size w W
 hb:w.heap.size<=b
 ha:∀ x,a=some x->x.block<w.heap.size
theorem Lw.next {w W W':World} {b n:Nat} {g:Nat->Int} {a:Option Addr} {es:List Ed} (h:Lw w W b n g a es) (k:Below W.heap.size W W'):Lw w W' b n g a es:=⟨h.m.up k,h.e.up k,h.up.trans (k.mono h.up.size),h.hb,h.ha⟩
theorem Lw.set {w W:World} {b n:Nat} {g:Nat->Int} {a:Option Addr} {es:List Ed} (h:Lw w W b n g a es) {k:Nat} (hk:k<n) (v:Int):Lw w (W.setCell ⟨b,k,none⟩ (.int .i64 v)) b n (up1 g k v) a es:=
 ⟨h.m.set hk v,h.e.fr ((So.Fr.refl (So.One b) W).setCell (.inr rfl) _ _) fun x hx e=>by have:=h.ha x hx;have:=h.hb;have e:x.block=b:=e;omega,h.up.setCell h.hb _,h.hb,h.ha⟩
theorem lw_start {w:World} {n:Nat} {a:Option Addr} {es:List Ed} (he:Es w a es):Lw w (w.alloc (.cells (madeCells #[.int .i64 0] n) 3)) w.heap.size n (fun _=>0) a es:=
 ⟨iv_made w n 3,he.up ((Below.refl _ _).alloc (Nat.le_refl _) _),(Below.refl _ _).alloc (Nat.le_refl _) _,Nat.le_refl _,he.1⟩
def Bd (n:Nat) (g:Nat->Int) (M:Int):Prop:=∀ i,i<n->0<=g i/\g i<=M
theorem Bd.rlx {n:Nat} {g:Nat->Int} {M q:Int} {e:Ed} (h:Bd n g M) (he:EIn n e) (hq:0<=q):Bd n (rlx q g e) (M+8):=fun i hi=>by
 have h1:=h i hi;have f0:=he.f0;have fn:=he.fn;have t0:=he.t0;have tn:=he.tn;have l8:=he.l8;have h2:=h e.f.toNat (by omega);have h3:=h e.t.toNat (by omega);have hw:wt q e<=8:=by
  unfold wt;rcases he.d with ⟨e1,-⟩|e1 <;> rw [e1] <;> simp <;> omega
 unfold Bn.rlx
 split
 ·unfold up1
  split
  ·rename_i c;omega
  ·omega
 ·omega
theorem Bd.up {n:Nat} {g:Nat->Int} {M K:Int} (h:Bd n g M) (hk:M<=K):Bd n g K:=fun i hi=>by have:=h i hi;omega
theorem bf_step {q:Int} {es:List Ed} {r:Nat} {g:Nat->Int} (h:chg q es g=true):bf q es (r+1) g=bf q es r (pas q es g):=by
 show (if chg q es g=true then _ else _)=_;rw [if_pos h]
theorem bf_stop {q:Int} {es:List Ed} {r:Nat} {g:Nat->Int} (h:chg q es g=false):bf q es (r+1) g=true:=by
 show (if chg q es g=true then _ else _)=_;rw [if_neg (by rw [h];decide)]
theorem goes_any (n:Nat) (hn:n<=64) (a:Option Addr) (c N:Nat) (es:List Ed) (hN:es.length=N) (q:Int) (w:World) (he:Es w a es) (hE:EL n es) (hq0:0<=q) (hq1:q<=512) (hl:N<=100000000) :
  Calls Tryz.prog 94 #[.slice a N c,.int .i64 n,.int .i64 q] w fun e w'=>e=.returned (.bool (bf q es (n+1) fun _=>0))/\Below w.heap.size w w':=by
 obtain ⟨i0,hi,hi2⟩:=Option.map_eq_some_iff.1 info3;simp only [Prod.mk.injEq] at hi2;obtain ⟨hz0,hz1,hz2⟩:=hi2;have HI:Hid (Tryz.prog.info? 3=some i0/\i0.zero=some (.int .i64 0)/\i0.size=1/\i0.bytes=8):=⟨hi,hz0,hz1,hz2⟩;have HS:Hid (Lw w (w.alloc (.cells (madeCells #[.int .i64 0] n) 3)) w.heap.size n (fun _=>0) a es):=lw_start he;have HE:Hid (EL n es/\es.length=N/\n<=64):=⟨hE,hN,hn⟩;have hn':(n:Int)<=64:=by omega
 have hl':(N:Int)<=100000000:=by omega
 clear hi hz0 hz1 hz2 he hE hN hl hn;generalize hr:bf q es (n+1) (fun _=>0)=R;have HR:Hid (bf q es (n+1) (fun _=>0)=R):=hr;clear hr;go_enter Tryz.func94,Tryz.ntmps94;go_upto_region 2 with (first
  | (at_make;refine wpList_make_row _ rfl _ _ 27 rfl 3 i0 (.int .i64 0) Tryz.underlying27 HI.out.1 HI.out.2.1 HI.out.2.2.1 rfl .i64 .i64 n rfl rfl (by rw [HI.out.2.2.2];omega) (by omega) ?_))
 generalize w.alloc (.cells (madeCells #[.int .i64 0] n) 3)=V at *;have HQ0:Hid (∃ b,b=w.heap.size/\Lw w V b n (fun _=>0) a es):=⟨_,rfl,HS.out⟩;clear HS;obtain ⟨fb,hfb,hs0⟩:=HQ0.out;rw [<- hfb];have HQ1:Hid (Lw w V fb n (fun _=>0) a es):=hs0;clear HQ0 hs0 hfb;go_wp2_with fail
 go_loopw [8] (fun v wr=>∃ (k:Nat) (g:Nat->Int),k<=n+1/\v=.int .i64 k/\bf q es (n+1-k) g=R/\Bd n g (800000000*k)/\Lw w wr fb n g a es) (fun v _=>n+1-(intOf v).toNat)
 case atStart=>exact ⟨0,fun _=>0,by omega,rfl,HR.out,fun i hi=>⟨Int.le_refl _,by show (0:Int)<=800000000*(0:Nat);omega⟩,HQ1.out⟩
 case round=>
  rename World=>wr;obtain ⟨k,g,hk,rfl,hbf,hbd,hs⟩:=hrel;have HQ:Hid (Lw w wr fb n g a es):=hs;have HB:Hid (bf q es (n+1-k) g=R/\Bd n g (800000000*k)):=⟨hbf,hbd⟩;clear hs hbf hbd HQ1 HR
  by_cases hlt:k<n+1
  ·have k0:(0:Int)<=(k:Int):=by omega
   have k1:(k:Int)<=(n:Int):=by omega
   have k65:(k:Int)<=64:=by omega
   have HBf:Hid (∃ r,n+1-k=r+1/\n+1-(k+1)=r):=⟨n-k,by omega,by omega⟩;have HP0:Hid (Lw w wr fb n (pas q (es.take 0) g) a es/\Bd n (pas q (es.take 0) g) (800000000*k+8*(0:Nat))):=⟨HQ.out,HB.out.2.up (by omega)⟩;clear HQ;go_wp2_with fail
   go_loopw [9,10] (fun u v wz=>∃ j:Nat,j<=N/\u=.bool (!chg q (es.take j) g)/\v=.int .i64 j/\Lw w wz fb n (pas q (es.take j) g) a es/\Bd n (pas q (es.take j) g) (800000000*k+8*j)) (fun _ v _=>N-(intOf v).toNat)
   case atStart=>exact ⟨0,by omega,rfl,rfl,HP0.out⟩
   case round=>
    rename World=>wz;obtain ⟨j,hj,rfl,rfl,hs,hbd⟩:=hrel;have HZ:Hid (Lw w wz fb n (pas q (es.take j) g) a es/\Bd n (pas q (es.take j) g) (800000000*k+8*j)):=⟨hs,hbd⟩;clear hs hbd HP0
    by_cases hjt:j<N
    ·have j0:(0:Int)<=(j:Int):=by omega
     have j1:(j:Int)<(N:Int):=by omega
     have hje:j<es.length:=by rw [HE.out.2.1];exact hjt
     have hm:=List.getElem_mem hje;have e1:=HE.out.1 _ hm;obtain ⟨eb,rfl,l1,f0,f1,f2,f3,f4⟩:=HZ.out.1.e.2 j hje;have HNx:Hid (pas q (es.take (j+1)) g=rlx q (pas q (es.take j) g) es[j]/\chg q (es.take (j+1)) g=(chg q (es.take j) g || decide (pas q (es.take j) g es[j].t.toNat<pas q (es.take j) g es[j].f.toNat + wt q es[j]))/\Bd n (pas q (es.take (j+1)) g) (800000000*k+8*(j+1:Nat))):=by
      have h1:pas q (es.take (j+1)) g=rlx q (pas q (es.take j) g) es[j]:=by rw [take_put hje];exact pas_put q _ _ g
      refine ⟨h1,by rw [take_put hje];exact chg_put q _ _ g,?_⟩;rw [h1];exact (HZ.out.2.rlx e1 hq0).up (by omega)
     have HX2:Hid (Lw w (wz.alloc (.cells #[.int .i64 es[j].f,.int .i64 es[j].t,.int .i64 es[j].l,.int .i64 es[j].d,.int .i8 es[j].y] 47)) fb n (pas q (es.take j) g) (some ⟨eb,0,none⟩) es/\At (wz.alloc (.cells #[.int .i64 es[j].f,.int .i64 es[j].t,.int .i64 es[j].l,.int .i64 es[j].d,.int .i8 es[j].y] 47)) wz.heap.size #[.int .i64 es[j].f,.int .i64 es[j].t,.int .i64 es[j].l,.int .i64 es[j].d,.int .i8 es[j].y]/\fb<wz.heap.size):=⟨HZ.out.1.next ((Below.refl _ _).alloc (Nat.le_refl _) _),At.new _ _ _,HZ.out.1.m.lt⟩;have g0:=e1.f0;have g1:=e1.fn;have g2:=e1.t0;have g3:=e1.tn;have g4:=e1.l0;have g5:=e1.l8;have g6:es[j].d=0\/es[j].d=1:=by
      rcases e1.d with h|h;· exact .inl h.1
      ·exact .inr h
     have hgf:=HZ.out.2 es[j].f.toNat (by omega);have hgt:=HZ.out.2 es[j].t.toNat (by omega);clear hm e1;generalize es[j]=x at *;obtain ⟨xf,xt,xl,xd,xy⟩:=x;dsimp only at g0 g1 g2 g3 g4 g5 g6 f0 f1 f2 f3 f4 hgf hgt;obtain ⟨fi,rfl⟩:∃ fi:Nat,xf=fi:=⟨xf.toNat,by omega⟩;obtain ⟨ti,rfl⟩:∃ ti:Nat,xt=ti:=⟨xt.toNat,by omega⟩;rw [Int.toNat_natCast] at hgf hgt;have HNx:Hid (pas q (es.take (j+1)) g=(if pas q (es.take j) g ti<pas q (es.take j) g fi+(xl-q*xd) then up1 (pas q (es.take j) g) ti (pas q (es.take j) g fi+(xl-q*xd)) else pas q (es.take j) g)/\chg q (es.take (j+1)) g=(chg q (es.take j) g || decide (pas q (es.take j) g ti<pas q (es.take j) g fi+(xl-q*xd)))/\Bd n (pas q (es.take (j+1)) g) (800000000*k+8*(j+1:Nat))):=HNx.out;generalize pas q (es.take j) g=G at *;generalize chg q (es.take j) g=ch at *;rcases g6 with rfl|rfl
     ·have hwv:G fi+(xl-q*0)=G fi+xl:=by omega
      rw [hwv] at HNx;go_upto_region 10 with fail
      have HX:Hid (Lw w (wz.alloc (.cells #[.int .i64 (fi:Int),.int .i64 (ti:Int),.int .i64 xl,.int .i64 0,.int .i8 xy] 47)) fb n G (some ⟨eb,0,none⟩) es/\At (wz.alloc (.cells #[.int .i64 (fi:Int),.int .i64 (ti:Int),.int .i64 xl,.int .i64 0,.int .i8 xy] 47)) wz.heap.size #[.int .i64 (fi:Int),.int .i64 (ti:Int),.int .i64 xl,.int .i64 0,.int .i8 xy]/\fb<wz.heap.size):=HX2.out;clear HX2;generalize (wz.alloc (.cells #[.int .i64 (fi:Int),.int .i64 (ti:Int),.int .i64 xl,.int .i64 0,.int .i8 xy] 47))=X at *;have obn:¬ wz.heap.size=fb:=by have:=HX.out.2.2;omega
      have obn':¬ fb=wz.heap.size:=fun e=>obn e.symm;generalize wz.heap.size=ob at *;clear HZ f0 f1 f2 f3 f4 l1 hwv;have HXd:Hid (∀ m,Lw w (X.drewN m) fb n G (some ⟨eb,0,none⟩) es):=fun m=>HX.out.1.next ((So.Fr.refl So.Non X).drewN m).non;have s2:=HX.out.2.1;have o0:=s2.c 0 _ rfl;have o1:=s2.c 1 _ rfl;have o2:=s2.c 2 _ rfl;have o3:=s2.c 3 _ rfl;have ol:=s2.lt;have cf:=HX.out.1.m.c fi (by omega);have ct:=HX.out.1.m.c ti (by omega);have zt:=HX.out.1.m.f ti;have hl:=HX.out.1.m.lt;have hfi:(fi:Int)<(n:Int):=g1;have hti:(ti:Int)<(n:Int):=g3;clear s2
      by_cases hc:G ti<G fi+xl
      ·have HN1:Hid (pas q (es.take (j+1)) g=up1 G ti (G fi+xl)/\chg q (es.take (j+1)) g=true/\Bd n (pas q (es.take (j+1)) g) (800000000*k+8*(j+1:Nat))):=by
        have h:=HNx.out;rw [if_pos hc] at h;exact ⟨h.1,by rw [h.2.1];simp [hc],h.2.2⟩
       have HSet:Hid (∀ m,Lw w ((X.drewN m).setCell ⟨fb,ti,none⟩ (.int .i64 (G fi+xl))) fb n (up1 G ti (G fi+xl)) (some ⟨eb,0,none⟩) es):=fun m=>(HXd.out m).set (by omega) _;generalize G fi=gf at *;generalize G ti=gt at *;go_quiet (fail)
       go_wp2_with fail
       go_roundw
       case rel=>exact ⟨j+1,by omega,by rw [HN1.out.2.1];rfl,by go_num,by rw [HN1.out.1];exact HSet.out _,HN1.out.2.2⟩
       case measure=>simp [intOf];omega
      ·have HN1:Hid (pas q (es.take (j+1)) g=G/\chg q (es.take (j+1)) g=ch/\Bd n (pas q (es.take (j+1)) g) (800000000*k+8*(j+1:Nat))):=by
        have h:=HNx.out;rw [if_neg hc] at h;exact ⟨h.1,by rw [h.2.1];simp [hc],h.2.2⟩
       generalize hgfe:G fi=gf at *;generalize hgte:G ti=gt at *;go_quiet (fail)
       go_wp2_with fail
       go_roundw
       case rel=>exact ⟨j+1,by omega,by rw [HN1.out.2.1],by go_num,by rw [HN1.out.1];exact HXd.out _,HN1.out.2.2⟩
       case measure=>simp [intOf];omega
     ·have hwv:G fi+(xl-q*1)=G fi+xl-q:=by omega
      rw [hwv] at HNx;go_upto_region 10 with fail
      have HX:Hid (Lw w (wz.alloc (.cells #[.int .i64 (fi:Int),.int .i64 (ti:Int),.int .i64 xl,.int .i64 1,.int .i8 xy] 47)) fb n G (some ⟨eb,0,none⟩) es/\At (wz.alloc (.cells #[.int .i64 (fi:Int),.int .i64 (ti:Int),.int .i64 xl,.int .i64 1,.int .i8 xy] 47)) wz.heap.size #[.int .i64 (fi:Int),.int .i64 (ti:Int),.int .i64 xl,.int .i64 1,.int .i8 xy]/\fb<wz.heap.size):=HX2.out;clear HX2;generalize (wz.alloc (.cells #[.int .i64 (fi:Int),.int .i64 (ti:Int),.int .i64 xl,.int .i64 1,.int .i8 xy] 47))=X at *;have obn:¬ wz.heap.size=fb:=by have:=HX.out.2.2;omega
      have obn':¬ fb=wz.heap.size:=fun e=>obn e.symm;generalize wz.heap.size=ob at *;clear HZ f0 f1 f2 f3 f4 l1 hwv;have HXd:Hid (∀ m,Lw w (X.drewN m) fb n G (some ⟨eb,0,none⟩) es):=fun m=>HX.out.1.next ((So.Fr.refl So.Non X).drewN m).non;have s2:=HX.out.2.1;have o0:=s2.c 0 _ rfl;have o1:=s2.c 1 _ rfl;have o2:=s2.c 2 _ rfl;have o3:=s2.c 3 _ rfl;have ol:=s2.lt;have cf:=HX.out.1.m.c fi (by omega);have ct:=HX.out.1.m.c ti (by omega);have zt:=HX.out.1.m.f ti;have hl:=HX.out.1.m.lt;have hfi:(fi:Int)<(n:Int):=g1;have hti:(ti:Int)<(n:Int):=g3;clear s2
      by_cases hc:G ti<G fi+xl-q
      ·have HN1:Hid (pas q (es.take (j+1)) g=up1 G ti (G fi+xl-q)/\chg q (es.take (j+1)) g=true/\Bd n (pas q (es.take (j+1)) g) (800000000*k+8*(j+1:Nat))):=by
        have h:=HNx.out;rw [if_pos hc] at h;exact ⟨h.1,by rw [h.2.1];simp [hc],h.2.2⟩
       have HSet:Hid (∀ m,Lw w ((X.drewN m).setCell ⟨fb,ti,none⟩ (.int .i64 (G fi+xl-q))) fb n (up1 G ti (G fi+xl-q)) (some ⟨eb,0,none⟩) es):=fun m=>(HXd.out m).set (by omega) _;generalize G fi=gf at *;generalize G ti=gt at *;go_quiet (fail)
       go_wp2_with fail
       go_roundw
       case rel=>exact ⟨j+1,by omega,by rw [HN1.out.2.1];rfl,by go_num,by rw [HN1.out.1];exact HSet.out _,HN1.out.2.2⟩
       case measure=>simp [intOf];omega
      ·have HN1:Hid (pas q (es.take (j+1)) g=G/\chg q (es.take (j+1)) g=ch/\Bd n (pas q (es.take (j+1)) g) (800000000*k+8*(j+1:Nat))):=by
        have h:=HNx.out;rw [if_neg hc] at h;exact ⟨h.1,by rw [h.2.1];simp [hc],h.2.2⟩
       generalize hgfe:G fi=gf at *;generalize hgte:G ti=gt at *;go_quiet (fail)
       go_wp2_with fail
       go_roundw
       case rel=>exact ⟨j+1,by omega,by rw [HN1.out.2.1],by go_num,by rw [HN1.out.1];exact HXd.out _,HN1.out.2.2⟩
       case measure=>simp [intOf];omega
    ·obtain rfl:j=N:=by omega
     have j1:¬ (j:Int)<(j:Int):=by omega
     have htk:es.take j=es:=List.take_of_length_le (by rw [HE.out.2.1];omega);rw [htk] at HZ;rw [htk];clear htk
     cases hch:chg q es g
     ·have HRes:Hid (R=true):=by
       obtain ⟨r,h1,h2⟩:=HBf.out;have h:=HB.out.1;rw [h1,bf_stop hch] at h;exact h.symm
      go_wp2_with fail
      go_ret
      exact ⟨by rw [HRes.out];rfl,HZ.out.1.up⟩
     ·have HNb:Hid (bf q es (n+1-(k+1)) (pas q es g)=R):=by
       obtain ⟨r,h1,h2⟩:=HBf.out;have h:=HB.out.1;rw [h1,bf_step hch] at h;show bf q es (n+1-(k+1)) (pas q es g)=R;rw [h2];exact h
      go_wp2_with fail
      go_roundw
      case rel=>exact ⟨k+1,pas q es g,by omega,by go_num,HNb.out,HZ.out.2.up (by omega),HZ.out.1⟩
      case measure=>simp [intOf];omega
  ·obtain rfl:k=n+1:=by omega
   have k1:¬ ((n+1:Nat):Int)<=(n:Int):=by omega
   have HRes:Hid (R=false):=by
    have h:=HB.out.1;rw [Nat.sub_self] at h;exact h.symm
   go_wp2_with fail
   go_ret
   exact ⟨by rw [HRes.out];rfl,HQ.out.up⟩
end Go.Proofs.YtiejdpjgplikjaaGreatDoor.Bn
namespace Go.Proofs.YtiejdpjgplikjaaGreatDoor.Bn
open Go.ChangeShapes Go.WideShapes Go.ChangeAt Go.RowKit
open YtiejdpjgplikjaaGreatDoor.Op YtiejdpjgplikjaaGreatDoor.So
open YtiejdpjgplikjaaGreatDoor.Dp (Ed lisE okL loopE EdOut EOwn erE loop_any lis_all)
open YtiejdpjgplikjaaGreatDoor.Tb (Tab TabAt Bnds ckR)
def tW:Tab:=⟨fun _=>1,fun k=>if k=1 then 3 else if k=2 then 2 else 1,fun _=>1,1⟩
def xW:List O:=[⟨12,1,1,2,0⟩]
abbrev xWC:Array Value:=#[.int .i8 12,.int .u8 1,.int .u8 1,.int .u8 2,.int .i64 0]
theorem xW_rg:rgE tW xW=0:=by kernel_rfl
theorem xW_le:leE tW xW=3:=by kernel_rfl
theorem xW_ok:∀ o∈xW,o.Ok:=fun o h=>by
 simp only [xW,List.mem_cons,List.not_mem_nil,or_false] at h;subst h;constructor <;> decide
theorem xW_at {w:World} {b:Nat} (h:At w b xWC):OpsAt w (some ⟨b,0,none⟩) xW:=by
 refine ⟨xW_ok,by decide,fun _=>⟨b,0,rfl,h.lt,fun i hi=>?_⟩⟩;have hi:i<1:=hi
 match i,hi with
 | 0,_=>exact ⟨h.c 0 _ rfl,h.c 1 _ rfl,h.c 2 _ rfl,h.c 3 _ rfl,h.c 4 _ rfl⟩
theorem ring_is {n:Nat} {es:List Ed} (hE:EL n es) (hn:n<=64):(1<=rndE n es/\rndE n es<=512)/\bf (rndE n es) es (n+1) (fun _=>0)=true/\(¬ rndE n es=1->bf (rndE n es-1) es (n+1) (fun _=>0)=false):=by
 obtain ⟨h1,h2,h3,h4⟩:=rnd_is (P:=fun q=>inT (stp q es) n) (srch_of hE hn).top;have e:rnd (fun q=>inT (stp q es) n)=rndE n es:=rfl;rw [e] at h1 h2 h3 h4;refine ⟨⟨h2,h3⟩,(bf_iff hE _).2 ((inT_iff64 hE hn (by omega) h3).1 h1),fun hr=>?_⟩;have h5:=h4 (rndE n es-1) (by omega) (by omega)
 cases e2:bf (rndE n es-1) es (n+1) (fun _=>0)
 ·rfl
 ·have h5:inT (stp (rndE n es-1) es) n=false:=h5;rw [(inT_iff64 hE hn (by omega) (by omega)).2 ((bf_iff hE _).1 e2)] at h5
  cases h5
end Go.Proofs.YtiejdpjgplikjaaGreatDoor.Bn
