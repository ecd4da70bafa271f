/- Parts Wk Wl. -/
import Derived.Test.YtcmlnemokckbdaaGreatDoorN32
import Derived.Test.YtcmlnemokckbdaaGreatDoorN33
import Derived.Test.YtcmlnemokckbdaaGreatDoorN36
import Derived.Test.YtcmlnemokckbdaaGreatDoorN29
import Derived.Test.YtcmlnemokckbdaaGreatDoorN07
set_option maxRecDepth 20000
set_option maxHeartbeats 8000000
namespace Go.Proofs.YtcmlnemokckbdaaGreatDoor.Ls
open Go.ChangeShapes Go.WideShapes Go.ChangeAt Go.RowKit
open YtcmlnemokckbdaaGreatDoor.Op YtcmlnemokckbdaaGreatDoor.So YtcmlnemokckbdaaGreatDoor.Dp YtcmlnemokckbdaaGreatDoor.ListWay
open YtcmlnemokckbdaaGreatDoor.Tb (Tab TabAt Bnds)
def tA:Tab:=⟨fun _=>1,fun k=>if k=1 then 3 else if k=2 then 2 else 1,fun k=>if k=1 then 2 else 1,0⟩
def xA:List O:=[⟨12,1,2,3,0⟩,⟨12,4,2,2,0⟩,⟨12,5,2,2,0⟩]
def f3 (x y z:Int):Nat->Int:=fun k=>if k=0 then x else if k=1 then y else z
theorem ck_yes:ckB tA xA 3 (f3 0 2 4)=true:=by kernel_rfl
theorem ck_no:ckB tA xA 3 (f3 0 1 4)=false:=by kernel_rfl
theorem hu2N {w W:World} {t:Tab} {n:Nat} (h:Hu2 w W t):Hu2 w (W.drewN n) t:=⟨⟨h.t.cu,h.t.cl,h.t.cb,h.t.cd,h.t.lt⟩,⟨h.up.os,h.up.tape,h.up.output,h.up.size,h.up.block⟩⟩
theorem busyD_any (ao:Option Addr) (cap:Nat) (xs:List O) (t:Tab) (es:List Ed) (a:Option Addr) (ccap:Nat) (g:Nat->Int) (k:Nat) (y:Int) (w:World) (h:OpsAt w ao xs) (hok:∀ o∈xs,okL o=true) (hn:xs.length<=1024) (ht:t.ok=true) (hg:Nl w a xs.length g) (hr:∀ i,i<xs.length→-1<=g i/\g i<=100000) (hk:k<4) (hy0:0<=y) (hy1:y<=200000) :
  Calls Tryz.prog 49 #[.slice ao xs.length cap,t.val,.slice a xs.length ccap,.int .i64 (k:Int),.int .i64 y] w fun e w'=>e=.returned (.int .i64 (busy (sysL t xs es) g k y:Int))/\Below w.heap.size w w':=by
 have HO:Hid (OpsAt w ao xs):=h;have HGl:Hid (Nl w a xs.length g):=hg;have HRg:Hid (∀ i,i<xs.length→-1<=g i/\g i<=100000):=hr;have HOk:Hid (∀ (i:Nat) (hi:i<xs.length),xs[i].Ok/\okL xs[i]=true):=fun i hi=>⟨h.ok _ (List.getElem_mem hi),hok _ (List.getElem_mem hi)⟩;have hbk:=Tb.inB_iff ((Tb.ok_parts ht).2 k hk).2.2;have hn':(xs.length:Int)<=1024:=by omega
 have HS:Hid (Hu2 w (w.alloc (.cells t.cells 28)) t):=⟨Tb.tabAt_new w t 28,(Below.refl _ _).alloc (Nat.le_refl _) _⟩;have HCn:Hid (∀ p i,cnt p i<=i):=fun p i=>by
  induction i with
  | zero=>exact Nat.le_refl _
  | succ i ih=>unfold cnt;split <;> omega
 clear h hg hr hok ht;have hbu:busy (sysL t xs es) g k y=cnt (bsy (sysL t xs es) g k y) xs.length:=rfl;rw [hbu];clear hbu;unfold Tab.val;go_enter Tryz.func49,Tryz.ntmps49;go_wp2_with fail
 generalize w.alloc (.cells t.cells 28)=W0 at *
 go_loopw [11,12] (fun c v wr=>∃ i:Nat,i<=xs.length/\c=.int .i64 (cnt (bsy (sysL t xs es) g k y) i:Int)/\v=.int .i64 i/\Hu2 w wr t) (fun _ v _=>xs.length-(intOf v).toNat)
 case atStart=>exact ⟨0,by omega,rfl,rfl,HS.out⟩
 case round=>
  rename World=>wr;obtain ⟨i,hi,rfl,rfl,hs⟩:=hrel;have HQ:Hid (Hu2 w wr t):=hs;clear hs HS
  by_cases hlt:i<xs.length
  ·have i0:(0:Int)<=(i:Int):=by omega
   have i1:(i:Int)<(xs.length:Int):=by omega
   obtain ⟨b,f,rfl,hz2,hx⟩:=(HO.out.below HQ.out.up).is (by omega);obtain ⟨q0,-,-,-,-⟩:=hx i hlt;obtain ⟨ho,hol⟩:=HOk.out i hlt;obtain ⟨hv1,hv2⟩:=clV_D hol;have HC:Hid (∀ W,Calls Tryz.prog 48 #[.int .i8 xs[i].op] W fun e w'=>e=.returned (.tuple #[.int .i64 (clN xs i:Int),.bool true])/\Below W.heap.size W w'):=fun W=>by
    have h1:=refClass_any xs[i].op W;rw [hv1,hv2] at h1;rw [clN_at hlt];exact h1
   have HBs:Hid (bsy (sysL t xs es) g k y i=(decide (clN xs i=k)&&(decide (0<=g i)&&(decide (g i<=y)&&decide (y<g i+t.b k))))):=by
    show (decide (clN xs i=k)&&(decide (0<=g i)&&(decide (g i<=y)&&decide (y<g i+((if k<4 then (t.b k).toNat else 1:Nat):Int)))))=_;rw [if_pos hk,show (((t.b k).toNat : Nat):Int)=t.b k by omega]
   have HNx:Hid (∀ v,bsy (sysL t xs es) g k y i=v->cnt (bsy (sysL t xs es) g k y) (i+1)=cnt (bsy (sysL t xs es) g k y) i+(if v=true then 1 else 0)):=fun v e=>by
    show cnt _ i+(if bsy (sysL t xs es) g k y i=true then 1 else 0)=_;rw [e]
   have hcl4:=clN_lt xs i;have hcn:=HCn.out (bsy (sysL t xs es) g k y) i;obtain ⟨r1,r2⟩:=HRg.out i hlt;clear hx ho hol hv1 hv2;obtain ⟨cl,hcl⟩:∃ cl,clN xs i=cl:=⟨_,rfl⟩;rw [hcl] at HC HBs hcl4;obtain ⟨gi,hgi⟩:∃ gi,g i=gi:=⟨_,rfl⟩;rw [hgi] at HBs r1 r2;have HGi:Hid (g i=gi):=hgi;generalize bsy (sysL t xs es) g k y i=bv at *;obtain ⟨p,hp⟩:∃ p,cnt (bsy (sysL t xs es) g k y) i=p:=⟨_,rfl⟩;rw [hp] at HNx hcn ⊢;clear hcl hgi hp;generalize xs[i]=o at *;obtain ⟨xn,hxn⟩:∃ n,xs.length=n:=⟨_,rfl⟩;have HXn:Hid (xs.length=xn):=hxn;rw [hxn] at i1 hn' ⊢;clear hxn;go_upto_region 6 with (first
    | (go_at_call 48;refine Calls.mono (HC.out _) ?_;rintro e w2 ⟨rfl,hb2⟩;have HQ2:Hid (Hu2 w w2 t):=HQ.out.next hb2;clear hb2 HC HQ q0 hz2))
   have HLo:Hid (g i=gi):=HGi.out;obtain ⟨cb,cf,rfl,hcz,hcx⟩:=(HGl.out.up HQ2.out.up).is (by rw [HXn.out];omega);have hci:=hcx i (by rw [HXn.out];omega);rw [HLo.out] at hci;have tbk:=HQ2.out.t.cb k hk;have tl:=HQ2.out.t.lt;clear hcx HLo;have hRel:∀ v,bv=v->∀ x:Int,x=(p:Int)+(if v=true then 1 else 0)->(Value.int .i64 x)=.int .i64 ((cnt (bsy (sysL t xs es) g k y) (i+1):Nat):Int):=fun v e x hx=>by
    rw [HNx.out v e,hx]
    congr 1
    split <;> simp
   have HRel:Hid (∀ v,bv=v->∀ x:Int,x=(p:Int)+(if v=true then 1 else 0)->(Value.int .i64 x)=.int .i64 ((cnt (bsy (sysL t xs es) g k y) (i+1):Nat):Int)):=hRel;clear hRel
   go_cut [60] (fun v wx=>v=.bool bv/\Hu2 w wx t)
   case first=>
    by_cases c1:cl=k
    ·subst c1;have d1:decide ((cl:Int)=(cl:Int))=true:=by simp
     by_cases c0:0<=gi
     ·by_cases c2:gi<=y
      ·by_cases c3:y<gi+t.b cl
       ·have hv:bv=true:=by rw [HBs.out];simp;omega
        subst hv;go_quiet (fail)
        go_wp2_with fail
        go_meet
        exact ⟨rfl,hu2N HQ2.out⟩
       ·have d3:decide (y<gi+t.b cl)=false:=by simp;omega
        have hv:bv=false:=by rw [HBs.out];simp;omega
        subst hv;go_quiet (fail)
        go_wp2_with fail
        go_meet
        exact ⟨rfl,hu2N HQ2.out⟩
      ·have d2:decide (gi<=y)=false:=by simp;omega
       have hv:bv=false:=by rw [HBs.out];simp;omega
       subst hv;go_quiet (fail)
       go_wp2_with fail
       go_meet
       exact ⟨rfl,hu2N HQ2.out⟩
     ·have d0:decide (0<=gi)=false:=by simp;omega
      have hv:bv=false:=by rw [HBs.out];simp;omega
      subst hv;go_quiet (fail)
      go_wp2_with fail
      go_meet
      exact ⟨rfl,hu2N HQ2.out⟩
    ·have d1:((cl:Int)==(k:Int))=false:=by simp;omega
     have d1':decide ((cl:Int)=(k:Int))=false:=by simp;omega
     have hv:bv=false:=by rw [HBs.out];simp [c1]
     subst hv;go_quiet (fail)
     go_wp2_with fail
     go_meet
     exact ⟨rfl,hu2N HQ2.out⟩
   case rest=>
    obtain ⟨rfl,hq3⟩:=hcut;have HQ3:Hid (Hu2 w wc t):=hq3;clear hq3 HQ2 hci hcz tbk tl HBs
    cases bv
    ·go_wp2_with fail
     go_roundw
     case rel=>exact ⟨i+1,by omega,HRel.out false rfl _ (by simp),by go_num,HQ3.out⟩
     case measure=>simp [intOf];omega
    ·go_wp2_with fail
     go_roundw
     case rel=>exact ⟨i+1,by omega,HRel.out true rfl _ (by simp),by go_num,HQ3.out⟩
     case measure=>simp [intOf];omega
  ·obtain rfl:i=xs.length:=by omega
   have i1:¬ ((xs.length:Nat):Int)<((xs.length:Nat):Int):=by omega
   go_wp2_with fail
   go_ret
   exact ⟨rfl,HQ.out.up⟩
end Go.Proofs.YtcmlnemokckbdaaGreatDoor.Ls
