/- Parts Wq. -/
import Derived.Test.YtiejdpjgplikjaaGreatDoorN19
import Derived.Test.YtiejdpjgplikjaaGreatDoorN39
import Derived.Test.YtiejdpjgplikjaaGreatDoorN00
set_option maxRecDepth 20000
set_option maxHeartbeats 8000000
namespace Go.Proofs.YtiejdpjgplikjaaGreatDoor.Ls
open Go.ChangeShapes Go.WideShapes Go.ChangeAt Go.RowKit
open YtiejdpjgplikjaaGreatDoor.Op YtiejdpjgplikjaaGreatDoor.So YtiejdpjgplikjaaGreatDoor.Dp YtiejdpjgplikjaaGreatDoor.ListWay
open YtiejdpjgplikjaaGreatDoor.Tb (Tab TabAt Bnds)
theorem belN {B k:Nat} {w W:World} (h:Below B w W):Below B w (W.drewN k):=⟨h.os,h.tape,h.output,h.size,h.block⟩
theorem uses_any (ao:Option Addr) (cap:Nat) (xs:List O) (t:Tab) (w:World) (h:OpsAt w ao xs) (hok:∀ o∈xs,okL o=true) (hn:xs.length<=1024) :
  Calls Tryz.prog 50 #[.slice ao xs.length cap,t.val] w fun e w'=>e=.returned (.bool (!hvU t xs))/\Below w.heap.size w w':=by
 have HO:Hid (OpsAt w ao xs):=h;have HOk:Hid (∀ (i:Nat) (hi:i<xs.length),okL xs[i]=true):=fun i hi=>hok _ (List.getElem_mem hi);have hn':(xs.length:Int)<=1024:=by omega
 clear h hok;have HS:Hid (Hu2 w (w.alloc (.cells t.cells 25)) t):=⟨Tb.tabAt_new w t 25,(Below.refl _ _).alloc (Nat.le_refl _) _⟩;unfold Tab.val;go_enter Tryz.func50,Tryz.ntmps50;go_wp2_with fail
 generalize w.alloc (.cells t.cells 25)=W0 at *
 go_loopw [5] (fun v wr=>∃ k:Nat,k<=xs.length/\v=.int .i64 k/\(∀ (j:Nat) (hj:j<xs.length),j<k->¬ t.u (clD xs[j].op)=0)/\Hu2 w wr t) (fun v _=>xs.length-(intOf v).toNat)
 case atStart=>exact ⟨0,by omega,rfl,fun j _ hj=>by omega,HS.out⟩
 case round=>
  rename World=>wr;obtain ⟨k,hk,rfl,hok,hs⟩:=hrel;have HK:Hid (∀ (j:Nat) (hj:j<xs.length),j<k->¬ t.u (clD xs[j].op)=0):=hok;have HQ:Hid (Hu2 w wr t):=hs;clear hs HS hok
  by_cases hlt:k<xs.length
  ·have k0:(0:Int)<=(k:Int):=by omega
   have k1:(k:Int)<(xs.length:Int):=by omega
   obtain ⟨b,f,rfl,hz2,hx⟩:=(HO.out.below HQ.out.up).is (by omega);obtain ⟨q0,-,-,-,-⟩:=hx k hlt;obtain ⟨hv1,hv2⟩:=clV_D (HOk.out k hlt);have HC:Hid (∀ W,Calls Tryz.prog 54 #[.int .i8 xs[k].op] W fun e w'=>e=.returned (.tuple #[.int .i64 (clD xs[k].op:Int),.bool true])/\Below W.heap.size W w'):=fun W=>by
    have h1:=refClass_any xs[k].op W;rw [hv1,hv2] at h1;exact h1
   have HNo:Hid (t.u (clD xs[k].op)=0->false=hvU t xs):=fun e=>hvU_no hlt e;have HNx:Hid (¬ t.u (clD xs[k].op)=0->∀ (j:Nat) (hj:j<xs.length),j<k+1->¬ t.u (clD xs[j].op)=0):=fun e j hj hjk=>by
    rcases Nat.lt_or_ge j k with h|h
    ·exact HK.out j hj h
    ·obtain rfl:j=k:=by omega
     exact e
   have c4:=clD_lt xs[k].op;clear hx hv1 hv2;generalize clD xs[k].op=c at *;generalize xs[k]=o at *;have c0:(0:Int)<=(c:Int):=by omega
   have c3:(c:Int)<4:=by omega
   by_cases hu:t.u c=0
   ·have HR:Hid (false=hvU t xs):=HNo.out hu;go_wp2_with (first
     | (go_at_call 54;refine Calls.mono (HC.out _) ?_;rintro e w2 ⟨rfl,hb2⟩;have HQ3:Hid (Hu2 w w2 t):=HQ.out.next hb2;clear hb2 HC HQ q0 hz2;have hc:=HQ3.out.t.cu c c4;have hl:=HQ3.out.t.lt))
    go_ret
    exact ⟨by rw [<- HR.out];rfl,HQ3.out.up⟩
   ·have hub:(t.u c==0)=false:=by simpa using hu
    go_wp2_with (first
     | (go_at_call 54;refine Calls.mono (HC.out _) ?_;rintro e w2 ⟨rfl,hb2⟩;have HQ3:Hid (Hu2 w w2 t):=HQ.out.next hb2;clear hb2 HC HQ q0 hz2;have hc:=HQ3.out.t.cu c c4;have hl:=HQ3.out.t.lt))
    go_roundw
    case rel=>exact ⟨k+1,by omega,by go_num,HNx.out hu,HQ3.out⟩
    case measure=>simp [intOf];omega
  ·obtain rfl:k=xs.length:=by omega
   have k1:¬ (xs.length:Int)<(xs.length:Int):=by omega
   have HR:Hid (true=hvU t xs):=hvU_yes fun j hj=>HK.out j hj hj;go_wp2_with fail
   go_ret
   exact ⟨by rw [<- HR.out];rfl,HQ.out.up⟩
def rdB (es:List Ed) (c:Nat->Int) (y:Int) (i:Nat):Bool:=es.all fun e=>!decide (e.t.toNat = i) || (decide (0<=c e.f.toNat)&&decide (c e.f.toNat + e.l<=y))
theorem rdB_no {es:List Ed} {c:Nat->Int} {y:Int} {i k:Nat} (h:k<es.length) (e:(!decide (es[k].t.toNat = i) || (decide (0<=c es[k].f.toNat)&&decide (c es[k].f.toNat + es[k].l<=y)))=false):false=rdB es c y i:=by
 symm
 refine List.all_eq_false.2 ⟨es[k],List.getElem_mem h,?_⟩;rw [e]
 decide
theorem rdB_yes {es:List Ed} {c:Nat->Int} {y:Int} {i:Nat} (h:∀ (k:Nat) (hk:k<es.length),(!decide (es[k].t.toNat = i) || (decide (0<=c es[k].f.toNat)&&decide (c es[k].f.toNat + es[k].l<=y)))=true):true=rdB es c y i:=by
 symm
 refine List.all_eq_true.2 fun e he=>?_;obtain ⟨k,hk,rfl⟩:=List.getElem_of_mem he;exact h k hk
theorem dready_any (ea:Option Addr) (ec B:Nat) (es:List Ed) (cb n i:Nat) (c:Nat->Int) (y:Int) (w:World) (he:EOwn B w ea ec es) (ho:EOk n es) (hl:es.length<=100000000) (hc:Ir w cb n c) (hr:∀ i,i<n→-1<=c i/\c i<=100000) (hn:n<=1024) (hi:i<n) (hy0:0<=y) (hy1:y<=100000) :
  Calls Tryz.prog 52 #[.slice ea es.length ec,.slice (some ⟨cb,0,none⟩) n n,.int .i64 (i:Int),.int .i64 y] w fun e w'=>e=.returned (.bool (rdB es c y i))/\Below w.heap.size w w':=by
 have HE:Hid (EOwn B w ea ec es):=he;have HEO:Hid (EOk n es):=ho;have HC:Hid (Ir w cb n c):=hc;have HRg:Hid (∀ i,i<n→-1<=c i/\c i<=100000):=hr;obtain ⟨M,hM⟩:∃ M,es.length=M:=⟨_,rfl⟩;have HM:Hid (es.length=M):=hM;have hM':(M:Int)<=100000000:=by omega
 have hn':(n:Int)<=1024:=by omega
 rw [hM];clear he ho hc hr hl hM;go_enter Tryz.func52,Tryz.ntmps52;go_wp2_with fail
 go_loopw [9] (fun v wr=>∃ k:Nat,k<=M/\v=.int .i64 k/\(∀ (j:Nat) (hj:j<es.length),j<k->(!decide (es[j].t.toNat = i) || (decide (0<=c es[j].f.toNat)&&decide (c es[j].f.toNat + es[j].l<=y)))=true)/\Below w.heap.size w wr) (fun v _=>M-(intOf v).toNat)
 case atStart=>exact ⟨0,by omega,rfl,fun j _ hj=>by omega,Below.refl _ _⟩
 case round=>
  rename World=>wr;obtain ⟨k,hk,rfl,hok,hb⟩:=hrel;have HK:Hid (∀ (j:Nat) (hj:j<es.length),j<k->(!decide (es[j].t.toNat = i) || (decide (0<=c es[j].f.toNat)&&decide (c es[j].f.toNat + es[j].l<=y)))=true):=hok;have HB:Hid (Below w.heap.size w wr):=hb;clear hok hb
  by_cases hlt:k<M
  ·have k0:(0:Int)<=(k:Int):=by omega
   have k1:(k:Int)<(M:Int):=by omega
   have hke:k<es.length:=by rw [HM.out];exact hlt
   obtain ⟨eb,rfl,l1,lb1,f0,f1,f2,f3,f4⟩:=eOwn_at (row_fr HE.out (Fr.of (X:=Non) HB.out) fun _ _ h=>h) hke;have hm:=List.getElem_mem hke;have g1:=HEO.out.f0 _ hm;have g2:=HEO.out.ft _ hm;have g3:=HEO.out.tn _ hm;obtain ⟨g4,g5⟩:=HEO.out.l0 _ hm;have HNo:Hid ((!decide (es[k].t.toNat = i) || (decide (0<=c es[k].f.toNat)&&decide (c es[k].f.toNat + es[k].l<=y)))=false->false=rdB es c y i):=fun e=>rdB_no hke e;have HYs:Hid ((!decide (es[k].t.toNat = i) || (decide (0<=c es[k].f.toNat)&&decide (c es[k].f.toNat + es[k].l<=y)))=true->∀ (j:Nat) (hj:j<es.length),j<k+1->(!decide (es[j].t.toNat = i) || (decide (0<=c es[j].f.toNat)&&decide (c es[j].f.toNat + es[j].l<=y)))=true):=fun e j hj hjk=>by
    rcases Nat.lt_or_ge j k with h|h
    ·exact HK.out j hj h
    ·obtain rfl:j=k:=by omega
     exact e
   clear hm;generalize es[k]=x at *;obtain ⟨xf,xt,xl,xd,xy⟩:=x;obtain ⟨fi,rfl⟩:∃ fi:Nat,xf=fi:=⟨xf.toNat,by have g1:0<=xf:=g1;omega⟩;obtain ⟨ti,rfl⟩:∃ ti:Nat,xt=ti:=⟨xt.toNat,by have g1:0<=(fi:Int):=g1;have g2:(fi:Int)<xt:=g2;omega⟩;have g2:(fi:Int)<(ti:Int):=g2;have g3:(ti:Int)<(n:Int):=g3;have g4:0<=xl:=g4;have g5:xl<=8:=g5;have g6:(0:Int)<=(fi:Int):=by omega
   have g7:(fi:Int)<(n:Int):=by omega
   clear g1;have HNo:Hid ((!decide (ti=i) || (decide (0<=c fi)&&decide (c fi+xl<=y)))=false->false=rdB es c y i):=HNo.out;have HYs:Hid ((!decide (ti=i) || (decide (0<=c fi)&&decide (c fi+xl<=y)))=true->∀ (j:Nat) (hj:j<es.length),j<k+1->(!decide (es[j].t.toNat = i) || (decide (0<=c es[j].f.toNat)&&decide (c es[j].f.toNat + es[j].l<=y)))=true):=HYs.out;obtain ⟨h1,h2⟩:=HRg.out fi (by omega);have cf:=(HC.out.fr (Fr.of (X:=Non) HB.out) fun h=>h).c fi (by omega);have cz:=(HC.out.fr (Fr.of (X:=Non) HB.out) fun h=>h).lt;obtain ⟨vf,hvf⟩:∃ v,c fi=v:=⟨_,rfl⟩;rw [hvf] at HNo HYs h1 h2 cf;clear hvf;go_upto_region 5 with fail
   by_cases hti:ti=i
   ·subst hti;have d1:decide ((ti:Int)=(ti:Int))=true:=by simp
    by_cases hneg:vf<0
    ·have d2:decide (vf<0)=true:=by simpa using hneg
     have hr0:false=rdB es c y ti:=HNo.out (by simp;omega);have HR:Hid (false=rdB es c y ti):=hr0;clear hr0 HNo HYs;go_quiet (fail)
     go_wp2_with fail
     go_ret
     exact ⟨ret_bool HR.out,belN HB.out⟩
    ·have d2:decide (vf<0)=false:=by simp;omega
     by_cases hgt:y<vf+xl
     ·have d3:decide (y<vf+xl)=true:=by simpa using hgt
      have hr0:false=rdB es c y ti:=HNo.out (by simp;omega);have HR:Hid (false=rdB es c y ti):=hr0;clear hr0 HNo HYs;go_quiet (fail)
      go_wp2_with fail
      go_ret
      exact ⟨ret_bool HR.out,belN HB.out⟩
     ·have d3:decide (y<vf+xl)=false:=by simp;omega
      go_quiet (fail)
      go_wp2_with fail
      go_roundw
      case rel=>exact ⟨k+1,by omega,by go_num,HYs.out (by simp;omega),belN HB.out⟩
      case measure=>simp [intOf];omega
   ·have d1:((ti:Int)==(i:Int))=false:=by simp;omega
    have d1':decide ((ti:Int)=(i:Int))=false:=by simp;omega
    have HYs:Hid (∀ (j:Nat) (hj:j<es.length),j<k+1->(!decide (es[j].t.toNat = i) || (decide (0<=c es[j].f.toNat)&&decide (c es[j].f.toNat + es[j].l<=y)))=true):=HYs.out (by simp [hti]);go_quiet (fail)
    go_wp2_with fail
    go_roundw
    case rel=>exact ⟨k+1,by omega,by go_num,HYs.out,belN HB.out⟩
    case measure=>simp [intOf];omega
  ·obtain rfl:k=M:=by omega
   have k1:¬ (k:Int)<(k:Int):=by omega
   have HR:Hid (true=rdB es c y i):=rdB_yes fun j hj=>HK.out j hj (by rw [<- HM.out];exact hj);go_wp2_with fail
   go_ret
   exact ⟨ret_bool HR.out,HB.out⟩
def fdB (s:ListWay.Sys) (c:Nat->Int) (y:Int) (i:Nat):Bool:=(List.range (s.b (s.cls i))).all fun k=>decide (busy s c (s.cls i) (y+(k:Nat))<s.u (s.cls i))
theorem rf_split (t:Tab) (xs:List O) (es:List Ed) (c:Nat->Int) (y:Int) (i:Nat):rfB (sysL t xs es) c y i=(rdB es c y i&&fdB (sysL t xs es) c y i):=by
 unfold rfB rdB fdB
 congr 1
 show (es.map eg).all _=_;rw [List.all_map];rfl
theorem dfree_any (ao:Option Addr) (cap:Nat) (xs:List O) (t:Tab) (es:List Ed) (a:Option Addr) (ccap:Nat) (g:Nat->Int) (i:Nat) (y:Int) (w:World) (h:OpsAt w ao xs) (hok:∀ o∈xs,okL o=true) (hn:xs.length<=1024) (ht:t.ok=true) (hg:Nl w a xs.length g) (hr:∀ i,i<xs.length→-1<=g i/\g i<=100000) (hi:i<xs.length) (hy0:0<=y) (hy1:y<=100000) :
  Calls Tryz.prog 53 #[.slice ao xs.length cap,t.val,.slice a xs.length ccap,.int .i64 (i:Int),.int .i64 y] w fun e w'=>e=.returned (.bool (fdB (sysL t xs es) g y i))/\Below w.heap.size w w':=by
 obtain ⟨b,f,rfl,hz2,hx⟩:=h.is (by omega);obtain ⟨q0,-,-,-,-⟩:=hx i hi;have hol:=hok _ (List.getElem_mem hi);obtain ⟨hv1,hv2⟩:=clV_D hol;have HC:Hid (∀ W,Calls Tryz.prog 54 #[.int .i8 xs[i].op] W fun e w'=>e=.returned (.tuple #[.int .i64 (clN xs i:Int),.bool true])/\Below W.heap.size W w'):=fun W=>by
  have h1:=refClass_any xs[i].op W;rw [hv1,hv2] at h1;rw [clN_at hi];exact h1
 have HBz0:Hid (∀ Z (j:Nat),Below w.heap.size w Z->j<4->Calls Tryz.prog 101 #[.slice (some ⟨b,f,none⟩) xs.length cap,.agg #[.int .i64 (t.u 0),.int .i64 (t.u 1),.int .i64 (t.u 2),.int .i64 (t.u 3),.int .i64 (t.l 0),.int .i64 (t.l 1),.int .i64 (t.l 2),.int .i64 (t.l 3),.int .i64 (t.b 0),.int .i64 (t.b 1),.int .i64 (t.b 2),.int .i64 (t.b 3),.int .i64 t.d],.slice a xs.length ccap,.int .i64 (clN xs i:Int),.int .i64 (y+(j:Int))] Z fun e w'=>e=.returned (.int .i64 (busy (sysL t xs es) g (clN xs i) (y+(j:Int)):Int))/\Below Z.heap.size Z w'):=fun Z j hb hj=>busyD_any (some ⟨b,f,none⟩) cap xs t es a ccap g (clN xs i) _ Z (h.below hb) hok hn ht (hg.up hb) hr (clN_lt xs i) (by omega) (by omega);have hbk:=Tb.inB_iff ((Tb.ok_parts ht).2 (clN xs i) (clN_lt xs i)).2.2;have huk:=Tb.inB_iff ((Tb.ok_parts ht).2 (clN xs i) (clN_lt xs i)).1;have c4:=clN_lt xs i;have hfd:fdB (sysL t xs es) g y i=(List.range (t.b (clN xs i)).toNat).all fun k=>decide ((busy (sysL t xs es) g (clN xs i) (y+(k:Nat)):Int)<t.u (clN xs i)):=by
  unfold fdB;rw [sysL_b]
  congr 1
  funext k
  show decide (busy (sysL t xs es) g (clN xs i) (y+(k:Nat))<(t.u (clN xs i)).toNat)=_;rw [Bool.eq_iff_iff,decide_eq_true_eq,decide_eq_true_eq];omega
 rw [hfd];have HS:Hid (Hu2 w (w.alloc (.cells t.cells 25)) t/\(w.alloc (.cells t.cells 25)).cell? ⟨b,f+i*5,none⟩=some (.int .i8 xs[i].op)/\b<(w.alloc (.cells t.cells 25)).heap.size):=by
  have gg:Below w.heap.size w (w.alloc (.cells t.cells 25)):=(Below.refl _ _).alloc (Nat.le_refl _) _;exact ⟨⟨Tb.tabAt_new w t 25,gg⟩,by rw [(bcell gg).1 _ _ hz2];exact q0,Nat.lt_of_lt_of_le hz2 gg.size⟩
 have i0:(0:Int)<=(i:Int):=by omega
 have i1:(i:Int)<(xs.length:Int):=by omega
 have hn':(xs.length:Int)<=1024:=by omega
 clear hfd hx h hok hg hr hol hv1 hv2 ht hz2 q0;generalize hcl:clN xs i=cl at *;generalize sysL t xs es=s at *;generalize xs[i]=o at *;generalize xs.length=n at *;clear hcl;obtain ⟨B,hB⟩:∃ B:Nat,t.b cl=B:=⟨(t.b cl).toNat,by omega⟩;have HB:Hid (t.b cl=(B:Int)):=hB;rw [hB] at hbk ⊢;clear hB;rw [Int.toNat_natCast];unfold Tab.val;go_enter Tryz.func53,Tryz.ntmps53;go_upto_region 1 with fail
 generalize w.alloc (.cells t.cells 25)=W0 at *;have q0:=HS.out.2.1;have ql:=HS.out.2.2;go_wp2_with (first
  | (go_at_call 54;refine Calls.mono (HC.out _) ?_;rintro e w2 ⟨rfl,hb2⟩;have HQ0:Hid (Hu2 w w2 t):=HS.out.1.next hb2;clear hb2 HC HS q0 ql))
 go_loopw [13] (fun v wr=>∃ j:Nat,j<=B/\v=.int .i64 j/\(∀ k,k<j->(busy s g cl (y+(k:Nat)):Int)<t.u cl)/\Hu2 w wr t) (fun v _=>B-(intOf v).toNat)
 case atStart=>exact ⟨0,by omega,rfl,fun k hk=>by omega,HQ0.out⟩
 case round=>
  rename World=>wr;obtain ⟨j,hj,rfl,hall,hs⟩:=hrel;have HQ2:Hid (Hu2 w wr t):=hs;have HAl:Hid (∀ k,k<j->(busy s g cl (y+(k:Nat)):Int)<t.u cl):=hall;clear hs hall HQ0;have tbc:=HQ2.out.t.cb cl c4;rw [HB.out] at tbc;have ttl:=HQ2.out.t.lt;have c0:(0:Int)<=(cl:Int):=by omega
  have c3:(cl:Int)<4:=by omega
  by_cases hjb:j<B
  ·have j1:(j:Int)<(B:Int):=by omega
   have HBz:Hid (∀ Z,Below w.heap.size w Z->Calls Tryz.prog 101 #[.slice (some ⟨b,f,none⟩) n cap,.agg #[.int .i64 (t.u 0),.int .i64 (t.u 1),.int .i64 (t.u 2),.int .i64 (t.u 3),.int .i64 (t.l 0),.int .i64 (t.l 1),.int .i64 (t.l 2),.int .i64 (t.l 3),.int .i64 (t.b 0),.int .i64 (t.b 1),.int .i64 (t.b 2),.int .i64 (t.b 3),.int .i64 t.d],.slice a n ccap,.int .i64 (cl:Int),.int .i64 (y+(j:Int))] Z fun e w'=>e=.returned (.int .i64 (busy s g cl (y+(j:Int)):Int))/\Below Z.heap.size Z w'):=fun Z hZ=>HBz0.out Z j hZ (by omega);have HNo:Hid (t.u cl<=(busy s g cl (y+(j:Int)):Int)->false=(List.range B).all fun k=>decide ((busy s g cl (y+(k:Nat)):Int)<t.u cl)):=fun e=>by
    symm
    refine List.all_eq_false.2 ⟨j,List.mem_range.2 hjb,?_⟩
    simp;omega
   have HYs:Hid (¬ t.u cl<=(busy s g cl (y+(j:Int)):Int)->∀ k,k<j+1->(busy s g cl (y+(k:Nat)):Int)<t.u cl):=fun e k hk=>by
    rcases Nat.lt_or_ge k j with h|h
    ·exact HAl.out k h
    ·obtain rfl:k=j:=by omega
     omega
   obtain ⟨bz,hbz⟩:∃ v,busy s g cl (y+(j:Int))=v:=⟨_,rfl⟩;rw [hbz] at HBz HNo HYs;clear hbz;have hwr:IntKind.i64.wrap (y+(j:Int))=y+(j:Int):=by rw [IntKind.wrap_i64];omega
   go_upto_region 5 with fail
   clear tbc ttl
   by_cases hd:t.u cl<=(bz:Int)
   ·have hd1:decide (t.u cl<=(bz:Int))=true:=by simpa using hd
    have HR:Hid _:=HNo.out hd;refine wp_region_held_drew (S:=fun Z=>Hu2 w Z t) (by kernel_rfl) (HQ2.out.next (drew_up _)) (fun zH=>?_);refine wg 0 (.slice (some ⟨b,f,none⟩) n cap) rfl zH ?_;simp only [pq];refine wt 1 (.agg #[.int .i64 (t.u 0),.int .i64 (t.u 1),.int .i64 (t.u 2),.int .i64 (t.u 3),.int .i64 (t.l 0),.int .i64 (t.l 1),.int .i64 (t.l 2),.int .i64 (t.l 3),.int .i64 (t.b 0),.int .i64 (t.b 1),.int .i64 (t.b 2),.int .i64 (t.b 3),.int .i64 t.d]) rfl (fun w' hSw=>by (have k2:=hSw.t;have qu0:=k2.cu 0 (by decide);have qu1:=k2.cu 1 (by decide);have qu2:=k2.cu 2 (by decide);have qu3:=k2.cu 3 (by decide);have ql0:=k2.cl 0 (by decide);have ql1:=k2.cl 1 (by decide);have ql2:=k2.cl 2 (by decide);have ql3:=k2.cl 3 (by decide);have qb0:=k2.cb 0 (by decide);have qb1:=k2.cb 1 (by decide);have qb2:=k2.cb 2 (by decide);have qb3:=k2.cb 3 (by decide);have qd:=k2.cd;have qz:=k2.lt;clear k2;go_simp)) zH ?_;simp only [pq];refine wg 2 (.slice a n ccap) rfl zH ?_;simp only [pq];refine wg 3 (.int .i64 (cl:Int)) rfl zH ?_;simp only [pq];refine wg 4 (.int .i64 y) rfl zH ?_;simp only [pq];refine wg 5 (.int .i64 (j:Int)) rfl zH ?_;simp only [pq];refine wg 6 (.int .i64 (y+(j:Int))) rfl zH ?_;simp only [pq];refine wg 8 (.int .i64 (cl:Int)) rfl zH ?_;simp only [pq];refine wg 9 (.pointer (some ⟨w.heap.size,0,none⟩)) rfl zH ?_;simp only [pq];refine wg 10 (.pointer (some ⟨w.heap.size,cl,none⟩)) rfl zH ?_;simp only [pq];refine wt 11 (.int .i64 (t.u cl)) rfl (fun w' hSw=>by (have y0:=hSw.t.cu cl c4;have yl:=hSw.t.lt;go_simp)) zH ?_;simp only [pq];refine wpAnyH_ready (rs:=[7]) (by kernel_rfl) (by simp) ?_;refine AllReadyH.cons rfl (fun K hK=>?_) AllReadyH.nil;go_simp
    refine Calls.mono (HBz.out _ (HQ2.out.next (drew_up _)).up) ?_;rintro e w3 ⟨rfl,b3⟩;have HQ3:Hid (Hu2 w w3 t):=(HQ2.out.next (drew_up _)).next b3;clear b3 HBz;refine hK.out _ _ HQ3.out (fun zH=>?_);clear hK K;refine wg 12 (.bool (decide (t.u cl<=(bz:Int)))) rfl zH ?_;simp only [pq];refine wpAnyH_done (by kernel_rfl) ?_ _;clear zH;rw [hd1];go_wp2_with fail
    go_ret
    exact ⟨ret_bool HR.out,HQ3.out.up⟩
   ·have hd1:decide (t.u cl<=(bz:Int))=false:=by simpa using hd
    have HR:Hid _:=HYs.out hd;refine wp_region_held_drew (S:=fun Z=>Hu2 w Z t) (by kernel_rfl) (HQ2.out.next (drew_up _)) (fun zH=>?_);refine wg 0 (.slice (some ⟨b,f,none⟩) n cap) rfl zH ?_;simp only [pq];refine wt 1 (.agg #[.int .i64 (t.u 0),.int .i64 (t.u 1),.int .i64 (t.u 2),.int .i64 (t.u 3),.int .i64 (t.l 0),.int .i64 (t.l 1),.int .i64 (t.l 2),.int .i64 (t.l 3),.int .i64 (t.b 0),.int .i64 (t.b 1),.int .i64 (t.b 2),.int .i64 (t.b 3),.int .i64 t.d]) rfl (fun w' hSw=>by (have k2:=hSw.t;have qu0:=k2.cu 0 (by decide);have qu1:=k2.cu 1 (by decide);have qu2:=k2.cu 2 (by decide);have qu3:=k2.cu 3 (by decide);have ql0:=k2.cl 0 (by decide);have ql1:=k2.cl 1 (by decide);have ql2:=k2.cl 2 (by decide);have ql3:=k2.cl 3 (by decide);have qb0:=k2.cb 0 (by decide);have qb1:=k2.cb 1 (by decide);have qb2:=k2.cb 2 (by decide);have qb3:=k2.cb 3 (by decide);have qd:=k2.cd;have qz:=k2.lt;clear k2;go_simp)) zH ?_;simp only [pq];refine wg 2 (.slice a n ccap) rfl zH ?_;simp only [pq];refine wg 3 (.int .i64 (cl:Int)) rfl zH ?_;simp only [pq];refine wg 4 (.int .i64 y) rfl zH ?_;simp only [pq];refine wg 5 (.int .i64 (j:Int)) rfl zH ?_;simp only [pq];refine wg 6 (.int .i64 (y+(j:Int))) rfl zH ?_;simp only [pq];refine wg 8 (.int .i64 (cl:Int)) rfl zH ?_;simp only [pq];refine wg 9 (.pointer (some ⟨w.heap.size,0,none⟩)) rfl zH ?_;simp only [pq];refine wg 10 (.pointer (some ⟨w.heap.size,cl,none⟩)) rfl zH ?_;simp only [pq];refine wt 11 (.int .i64 (t.u cl)) rfl (fun w' hSw=>by (have y0:=hSw.t.cu cl c4;have yl:=hSw.t.lt;go_simp)) zH ?_;simp only [pq];refine wpAnyH_ready (rs:=[7]) (by kernel_rfl) (by simp) ?_;refine AllReadyH.cons rfl (fun K hK=>?_) AllReadyH.nil;go_simp
    refine Calls.mono (HBz.out _ (HQ2.out.next (drew_up _)).up) ?_;rintro e w3 ⟨rfl,b3⟩;have HQ3:Hid (Hu2 w w3 t):=(HQ2.out.next (drew_up _)).next b3;clear b3 HBz;refine hK.out _ _ HQ3.out (fun zH=>?_);clear hK K;refine wg 12 (.bool (decide (t.u cl<=(bz:Int)))) rfl zH ?_;simp only [pq];refine wpAnyH_done (by kernel_rfl) ?_ _;clear zH;rw [hd1];go_wp2_with fail
    go_roundw
    case rel=>exact ⟨j+1,by omega,by go_num,HR.out,HQ3.out⟩
    case measure=>simp [intOf];omega
  ·obtain rfl:j=B:=by omega
   have j1:¬ (j:Int)<(j:Int):=by omega
   have hr0:true=(List.range j).all fun k=>decide ((busy s g cl (y+(k:Nat)):Int)<t.u cl):=by
    symm
    refine List.all_eq_true.2 fun k hk=>?_;simpa using HAl.out k (List.mem_range.1 hk)
   have HR:Hid (true=(List.range j).all fun k=>decide ((busy s g cl (y+(k:Nat)):Int)<t.u cl)):=hr0;clear hr0;go_wp2_with fail
   go_ret
   exact ⟨ret_bool HR.out,HQ2.out.up⟩
end Go.Proofs.YtiejdpjgplikjaaGreatDoor.Ls
