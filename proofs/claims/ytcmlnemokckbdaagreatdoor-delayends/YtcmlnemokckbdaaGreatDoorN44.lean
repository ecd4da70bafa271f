/- Parts Wp. -/
import Derived.Test.YtcmlnemokckbdaaGreatDoorN43
import Derived.Deep.OwnRows
import Derived.Test.YtcmlnemokckbdaaGreatDoorN00
set_option maxRecDepth 20000
set_option maxHeartbeats 16000000
namespace Go.Proofs.YtcmlnemokckbdaaGreatDoor.Ls
open Go.ChangeShapes Go.WideShapes Go.ChangeAt Go.RowKit
open YtcmlnemokckbdaaGreatDoor.Op YtcmlnemokckbdaaGreatDoor.So YtcmlnemokckbdaaGreatDoor.Dp YtcmlnemokckbdaaGreatDoor.ListWay
open YtcmlnemokckbdaaGreatDoor.Rv (frB)
open YtcmlnemokckbdaaGreatDoor.Tb (Tab TabAt Bnds)
theorem refCheck_ok (a ao:Option Addr) (ccap cap:Nat) (xs:List O) (t:Tab) (g:Nat->Int) (w:World) (hg:Nl w a xs.length g) (h:OpsAt w ao xs) (hn:xs.length<=60) (he:lisE t xs=0) (hu:hvU t xs=true) :
  Calls Tryz.prog 26 #[.slice ao xs.length cap,t.val,.slice a xs.length ccap] w fun e w'=>e=.returned (.bool (arC xs.length g&&kpE (ofE t xs) g&&rfU t xs g))/\Below w.heap.size w w':=by
 obtain ⟨ht,-,hok⟩:=lis_all he;obtain ⟨hEO,hEl,-⟩:=lis_parts h.ok he;obtain ⟨M,hM⟩:∃ M,(ofE t xs).length=M:=⟨_,rfl⟩;have hMb:(M:Int)<=100000000:=by omega
 have HM:Hid ((ofE t xs).length=M):=hM;have HOf:Hid (∀ W,Below w.heap.size w W->Calls Tryz.prog 46 #[.slice ao xs.length cap,.agg #[.int .i64 (t.u 0),.int .i64 (t.u 1),.int .i64 (t.u 2),.int .i64 (t.u 3),.int .i64 (t.l 0),.int .i64 (t.l 1),.int .i64 (t.l 2),.int .i64 (t.l 3),.int .i64 (t.b 0),.int .i64 (t.b 1),.int .i64 (t.b 2),.int .i64 (t.b 3),.int .i64 t.d]] W fun e w'=>∃ a c,e=.returned (.tuple #[.slice a M c,.int .i64 0])/\EOwn W.heap.size w' a c (ofE t xs)/\Below W.heap.size W w'):=fun W hb=>by
  have:=ofRefN (cap:=cap) (t:=t) h (fun _=>by omega) W hb
  unfold erE at this;rw [if_pos he,he] at this;rw [<- hM];exact this
 have HU:Hid (∀ W,Below w.heap.size w W->Calls Tryz.prog 47 #[.slice ao xs.length cap,.agg #[.int .i64 (t.u 0),.int .i64 (t.u 1),.int .i64 (t.u 2),.int .i64 (t.u 3),.int .i64 (t.l 0),.int .i64 (t.l 1),.int .i64 (t.l 2),.int .i64 (t.l 3),.int .i64 (t.b 0),.int .i64 (t.b 1),.int .i64 (t.b 2),.int .i64 (t.b 3),.int .i64 t.d]] W fun e w'=>e=.returned (.bool false)/\Below W.heap.size W w'):=fun W hb=>by
  have:=uses_any ao cap xs t W (h.below hb) hok (by omega)
  rw [hu] at this;exact this
 have HBz0:Hid (∀ Z (cl:Nat) (y:Int),arC xs.length g=true->cl<4->0<=y->y<=200000->Below w.heap.size w Z->Calls Tryz.prog 49 #[.slice ao xs.length cap,.agg #[.int .i64 (t.u 0),.int .i64 (t.u 1),.int .i64 (t.u 2),.int .i64 (t.u 3),.int .i64 (t.l 0),.int .i64 (t.l 1),.int .i64 (t.l 2),.int .i64 (t.l 3),.int .i64 (t.b 0),.int .i64 (t.b 1),.int .i64 (t.b 2),.int .i64 (t.b 3),.int .i64 t.d],.slice a xs.length ccap,.int .i64 (cl:Int),.int .i64 y] Z fun e w'=>e=.returned (.int .i64 (busy (sysL t xs []) g cl y:Int))/\Below Z.heap.size Z w'):=fun Z cl y q0 q1 q2 q3 hZ=>busyD_any ao cap xs t [] a ccap g cl y Z (h.below hZ) hok (by omega) ht (hg.up hZ) (fun i hi=>by have:=arC_all q0 i hi;omega) q1 q2 q3;have HCls:Hid (∀ (i:Nat) (hi:i<xs.length) W,Calls Tryz.prog 48 #[.int .i8 xs[i].op] W fun e w'=>e=.returned (.tuple #[.int .i64 (clN xs i:Int),.bool true])/\Below W.heap.size W w'):=fun i hi W=>by
  obtain ⟨hv1,hv2⟩:=clV_D (hok _ (List.getElem_mem hi));have h1:=refClass_any xs[i].op W;rw [hv1,hv2] at h1;rw [clN_at hi];exact h1
 have HBk:Hid (∀ k,k<4->1<=t.b k/\t.b k<=4):=fun k hk=>Tb.inB_iff ((Tb.ok_parts ht).2 k hk).2.2;have HO:Hid (OpsAt w ao xs):=h;have HGl:Hid (Nl w a xs.length g):=hg;have HEO:Hid (EOk xs.length (ofE t xs)):=hEO;have hn':(xs.length:Int)<=60:=by omega
 have hnn:((xs.length:Int) != (xs.length:Int))=false:=by simp
 have HRno:Hid (∀ (i j:Nat),i<xs.length->(j:Int)<t.b (clN xs i)->t.u (clN xs i)<(busy (sysL t xs []) g (clN xs i) (g i+(j:Int)):Int)->false=rfU t xs g):=fun i j q1 q2 q3=>rfU_no q1 q2 q3;have HRys:Hid ((∀ i,i<xs.length->∀ j:Nat,(j:Int)<t.b (clN xs i)->(busy (sysL t xs []) g (clN xs i) (g i+(j:Int)):Int)<=t.u (clN xs i))->true=rfU t xs g):=fun q=>rfU_yes q;clear h hn he hu ht hok hEO hEl hM hg;generalize hee:ofE t xs=es at *;generalize hse:sysL t xs []=s at *;generalize hru:rfU t xs g=bu at *;clear hee hse hru;obtain ⟨n,hN⟩:∃ n,xs.length=n:=⟨_,rfl⟩;have HN:Hid (xs.length=n):=hN;rw [hN] at HOf HU HBz0 hn' hnn HEO HGl HRno HRys ⊢;have HN2:Hid (∀ i,i<n->i<xs.length):=fun i hi=>by rw [HN.out];exact hi
 clear hN;unfold Tab.val;go_enter Tryz.func26,Tryz.ntmps26;go_upto_region 4 with (first
  | (go_at_call 46;refine Calls.mono (HOf.out _ (by go_grown)) ?_;rintro e w1 ⟨ea,ec,rfl,o1,b1⟩;have HT:Hid (Lz w w1 t ea ec es):=⟨(Tb.tabAt_new w t 28).below b1 (by simp),Below.trans (by go_grown) (b1.mono (by simp)),rowBase2 o1 (by simp)⟩;clear o1 b1 HOf;have k2:=HT.out.t;have qu0:=k2.cu 0 (by decide);have qu1:=k2.cu 1 (by decide);have qu2:=k2.cu 2 (by decide);have qu3:=k2.cu 3 (by decide);have ql0:=k2.cl 0 (by decide);have ql1:=k2.cl 1 (by decide);have ql2:=k2.cl 2 (by decide);have ql3:=k2.cl 3 (by decide);have qb0:=k2.cb 0 (by decide);have qb1:=k2.cb 1 (by decide);have qb2:=k2.cb 2 (by decide);have qb3:=k2.cb 3 (by decide);have qd:=k2.cd;have qz:=k2.lt;clear k2)
  | (go_at_call 47;refine Calls.mono (HU.out _ HT.out.up) ?_;rintro e w2 ⟨rfl,b2⟩;have HT2:Hid (Lz w w2 t ea ec es):=HT.out.next b2;clear b2 HU HT qu0 qu1 qu2 qu3 ql0 ql1 ql2 ql3 qb0 qb1 qb2 qb3 qd qz))
 go_wp2_with fail
 go_loopw [9] (fun v wr=>∃ k:Nat,k<=n/\v=.int .i64 k/\(∀ j,j<k->0<=g j/\g j<=65536)/\Lz w wr t ea ec es) (fun v _=>n-(intOf v).toNat)
 case atStart=>exact ⟨0,by omega,rfl,fun j hj=>by omega,HT2.out⟩
 case round=>
  rename World=>wr;obtain ⟨k,hk,rfl,hal,hs⟩:=hrel;have HQ:Hid (Lz w wr t ea ec es):=hs;have HAl:Hid (∀ j,j<k->0<=g j/\g j<=65536):=hal;clear hs hal HT2
  by_cases hlt:k<n
  ·have k0:(0:Int)<=(k:Int):=by omega
   have k1:(k:Int)<(n:Int):=by omega
   obtain ⟨cb,cf,rfl,hcz,hcx⟩:=(HGl.out.up HQ.out.up).is (by omega);have q0:=hcx k hlt;have HNx:Hid (0<=g k/\g k<=65536->∀ j,j<k+1->0<=g j/\g j<=65536):=fun e j hj=>by
    rcases Nat.lt_or_ge j k with h|h
    ·exact HAl.out j h
    ·obtain rfl:j=k:=by omega
     exact e
   have HNo:Hid (g k<0\/65536<g k->false=arC n g):=fun e=>arC_no hlt e;clear hcx;obtain ⟨x,hx⟩:∃ x,g k=x:=⟨_,rfl⟩;rw [hx] at q0 HNx HNo;clear hx
   by_cases h0:x<0
   ·have HR:Hid (false=arC n g):=HNo.out (.inl h0)
    skip
    go_wp2_with fail
    go_ret
    exact ⟨by rw [<- HR.out];rfl,HQ.out.up⟩
   ·by_cases h1:65536<x
    ·have HR:Hid (false=arC n g):=HNo.out (.inr h1)
     skip
     go_wp2_with fail
     go_ret
     exact ⟨by rw [<- HR.out];rfl,HQ.out.up⟩
    ·have HR:Hid _:=HNx.out (by omega);go_wp2_with fail
     go_roundw
     case rel=>exact ⟨k+1,by omega,by go_num,HR.out,HQ.out⟩
     case measure=>simp [intOf];omega
  ·obtain rfl:k=n:=by omega
   have k1:¬ (k:Int)<(k:Int):=by omega
   have har:true=arC k g:=arC_yes HAl.out;have HAr:Hid (arC k g=true):=har.symm;clear har;go_wp2_with fail
   go_loopw [10] (fun v wr=>∃ m:Nat,m<=M/\v=.int .i64 m/\(∀ (j:Nat) (hj:j<es.length),j<m->g es[j].f.toNat + es[j].l<=g es[j].t.toNat)/\Lz w wr t ea ec es) (fun v _=>M-(intOf v).toNat)
   case atStart=>exact ⟨0,by omega,rfl,fun j _ hj=>by omega,HQ.out⟩
   case round=>
    rename World=>wz;obtain ⟨m,hm0,rfl,hal,hs⟩:=hrel;have HZ:Hid (Lz w wz t ea ec es):=hs;have HEl:Hid (∀ (j:Nat) (hj:j<es.length),j<m->g es[j].f.toNat + es[j].l<=g es[j].t.toNat):=hal;clear hs hal HQ
    by_cases hlt2:m<M
    ·have k0:(0:Int)<=(m:Int):=by omega
     have k2:(m:Int)<(M:Int):=by omega
     have hke:m<es.length:=by rw [HM.out];exact hlt2
     obtain ⟨eb,rfl,l1,lb1,f0,f1,f2,f3,f4⟩:=eOwn_at HZ.out.eo hke;have hm:=List.getElem_mem hke;have g1:=HEO.out.f0 _ hm;have g2:=HEO.out.ft _ hm;have g3:=HEO.out.tn _ hm;obtain ⟨g4,g5⟩:=HEO.out.l0 _ hm;have HNo:Hid (g es[m].t.toNat<g es[m].f.toNat + es[m].l->false=kpE es g):=fun e=>kpE_no hke e;have HNx:Hid (g es[m].f.toNat + es[m].l<=g es[m].t.toNat->∀ (j:Nat) (hj:j<es.length),j<m+1->g es[j].f.toNat + es[j].l<=g es[j].t.toNat):=fun e j hj hjk=>by
      rcases Nat.lt_or_ge j m with h|h
      ·exact HEl.out j hj h
      ·obtain rfl:j=m:=by omega
       exact e
     clear hm;generalize es[m]=x at *;obtain ⟨xf,xt,xl,xd,xy⟩:=x;obtain ⟨fi,rfl⟩:∃ fi:Nat,xf=fi:=⟨xf.toNat,by have g1:0<=xf:=g1;omega⟩;obtain ⟨ti,rfl⟩:∃ ti:Nat,xt=ti:=⟨xt.toNat,by have g1:0<=(fi:Int):=g1;have g2:(fi:Int)<xt:=g2;omega⟩;have g2:(fi:Int)<(ti:Int):=g2;have g3:(ti:Int)<(k:Int):=g3;have g4:0<=xl:=g4;have g5:xl<=8:=g5;have g6:(0:Int)<=(fi:Int):=by omega
     have g7:(fi:Int)<(k:Int):=by omega
     have g8:(0:Int)<=(ti:Int):=by omega
     clear g1;have HNo:Hid (g ti<g fi+xl->false=kpE es g):=HNo.out;have HNx:Hid (g fi+xl<=g ti->∀ (j:Nat) (hj:j<es.length),j<m+1->g es[j].f.toNat + es[j].l<=g es[j].t.toNat):=HNx.out;obtain ⟨h1,h2⟩:=HAl.out fi (by omega);obtain ⟨h3,h4⟩:=HAl.out ti (by omega);obtain ⟨cb,cf,rfl,hcz,hcx⟩:=(HGl.out.up HZ.out.up).is (by omega);have cf1:=hcx fi (by omega);have ct1:=hcx ti (by omega);clear hcx;obtain ⟨vf,hvf⟩:∃ v,g fi=v:=⟨_,rfl⟩;obtain ⟨vt,hvt⟩:∃ v,g ti=v:=⟨_,rfl⟩;rw [hvf] at HNo HNx h1 h2 cf1;rw [hvt] at HNo HNx h3 h4 ct1;clear hvf hvt;go_upto_region 12 with fail
     by_cases hc:vt<vf+xl
     ·have hr0:false=kpE es g:=HNo.out hc;have HR:Hid (false=kpE es g):=hr0;clear hr0;go_quiet (fail)
      go_wp2_with fail
      go_ret
      exact ⟨by rw [HAr.out,<- HR.out];rfl,HZ.out.drewN.up⟩
     ·have HR:Hid _:=HNx.out (by omega);go_quiet (fail)
      go_wp2_with fail
      go_roundw
      case rel=>exact ⟨m+1,by omega,by go_num,HR.out,HZ.out.drewN⟩
      case measure=>simp [intOf];omega
    ·obtain rfl:m=M:=by omega
     have m1:¬ (m:Int)<(m:Int):=by omega
     have hke:true=kpE es g:=kpE_yes fun j hj=>HEl.out j hj (by rw [<- HM.out];exact hj);have HKe:Hid (kpE es g=true):=hke.symm;clear hke;obtain ⟨n,hkn⟩:∃ n,k=n:=⟨_,rfl⟩;subst hkn;go_wp2_with fail
     go_loopw [11] (fun v wr=>∃ i:Nat,i<=k/\v=.int .i64 i/\(∀ i2,i2<i->∀ j:Nat,(j:Int)<t.b (clN xs i2)->(busy s g (clN xs i2) (g i2+(j:Int)):Int)<=t.u (clN xs i2))/\Lz w wr t ea ec es) (fun v _=>k-(intOf v).toNat)
     case atStart=>exact ⟨0,by omega,rfl,fun i2 h=>by omega,HZ.out⟩
     case round=>
      rename World=>wv;obtain ⟨i,hi,rfl,hal,hs⟩:=hrel;have HV:Hid (Lz w wv t ea ec es):=hs;have HUl:Hid (∀ i2,i2<i->∀ j:Nat,(j:Int)<t.b (clN xs i2)->(busy s g (clN xs i2) (g i2+(j:Int)):Int)<=t.u (clN xs i2)):=hal;clear hs hal HZ
      by_cases hin:i<k
      ·have i0:(0:Int)<=(i:Int):=by omega
       have i1:(i:Int)<(k:Int):=by omega
       have hix:=HN2.out i hin;obtain ⟨b,f,rfl,hz2,hx⟩:=(HO.out.below HV.out.up).is (by omega);obtain ⟨q0,-,-,-,-⟩:=hx i hix;have HCi:Hid (∀ W,Calls Tryz.prog 48 #[.int .i8 xs[i].op] W fun e w'=>e=.returned (.tuple #[.int .i64 (clN xs i:Int),.bool true])/\Below W.heap.size W w'):=fun W=>HCls.out i hix W;have HRi:Hid (∀ j:Nat,(j:Int)<t.b (clN xs i)->t.u (clN xs i)<(busy s g (clN xs i) (g i+(j:Int)):Int)->false=bu):=fun j q1 q2=>HRno.out i j hin q1 q2;have HNxi:Hid ((∀ j:Nat,(j:Int)<t.b (clN xs i)->(busy s g (clN xs i) (g i+(j:Int)):Int)<=t.u (clN xs i))->∀ i2,i2<i+1->∀ j:Nat,(j:Int)<t.b (clN xs i2)->(busy s g (clN xs i2) (g i2+(j:Int)):Int)<=t.u (clN xs i2)):=fun e i2 h2=>by
        rcases Nat.lt_or_ge i2 i with h|h
        ·exact HUl.out i2 h
        ·obtain rfl:i2=i:=by omega
         exact e
       obtain ⟨r1,r2⟩:=HAl.out i hin;have c4:=clN_lt xs i;clear hx;generalize clN xs i=cl at *;generalize xs[i]=o at *;obtain ⟨b1,b2⟩:=HBk.out cl c4;go_upto_region 19 with (first
        | (go_at_call 48;refine Calls.mono (HCi.out _) ?_;rintro e wy ⟨rfl,b3⟩;have HV2:Hid (Lz w wy t ea ec es):=HV.out.next b3;clear b3 HCi HV q0 hz2))
       go_wp2_with fail
       go_loopw [14] (fun v wr=>∃ j:Nat,(j:Int)<=t.b cl/\v=.int .i64 j/\(∀ j2:Nat,j2<j->(busy s g cl (g i+(j2:Int)):Int)<=t.u cl)/\Lz w wr t ea ec es) (fun v _=>(t.b cl-intOf v).toNat)
       case atStart=>exact ⟨0,by omega,rfl,fun j2 h=>by omega,HV2.out⟩
       case round=>
        rename World=>wu;obtain ⟨j,hj,rfl,hal,hs⟩:=hrel;have HQ2:Hid (Lz w wu t ea ec es):=hs;have HJl:Hid (∀ j2:Nat,j2<j->(busy s g cl (g i+(j2:Int)):Int)<=t.u cl):=hal;clear hs hal HV2;have tbc:=HQ2.out.t.cb cl c4;have ttl:=HQ2.out.t.lt;have c0:(0:Int)<=(cl:Int):=by omega
        have c3:(cl:Int)<4:=by omega
        by_cases hjb:(j:Int)<t.b cl
        ·obtain ⟨cb,cf,rfl,hcl,hcx⟩:=(HGl.out.up HQ2.out.up).is (by omega);have hcc:=hcx i hin;have HBz:Hid (∀ Z,Lz w Z t ea ec es->Calls Tryz.prog 49 #[.slice (some ⟨b,f,none⟩) k cap,.agg #[.int .i64 (t.u 0),.int .i64 (t.u 1),.int .i64 (t.u 2),.int .i64 (t.u 3),.int .i64 (t.l 0),.int .i64 (t.l 1),.int .i64 (t.l 2),.int .i64 (t.l 3),.int .i64 (t.b 0),.int .i64 (t.b 1),.int .i64 (t.b 2),.int .i64 (t.b 3),.int .i64 t.d],.slice (some ⟨cb,cf,none⟩) k ccap,.int .i64 (cl:Int),.int .i64 (g i+(j:Int))] Z fun e w'=>e=.returned (.int .i64 (busy s g cl (g i+(j:Int)):Int))/\Below Z.heap.size Z w'):=fun Z hZ=>HBz0.out Z cl _ HAr.out c4 (by omega) (by omega) hZ.up;have HRj:Hid (t.u cl<(busy s g cl (g i+(j:Int)):Int)->false=bu):=fun e=>HRi.out j hjb e;have HNj:Hid (¬ t.u cl<(busy s g cl (g i+(j:Int)):Int)->∀ j2:Nat,j2<j+1->(busy s g cl (g i+(j2:Int)):Int)<=t.u cl):=fun e j2 h2=>by
          rcases Nat.lt_or_ge j2 j with h|h
          ·exact HJl.out j2 h
          ·obtain rfl:j2=j:=by omega
           omega
         obtain ⟨bz,hbz⟩:∃ v,busy s g cl (g i+(j:Int))=v:=⟨_,rfl⟩;rw [hbz] at HBz HRj HNj;obtain ⟨gi,hgi⟩:∃ v,g i=v:=⟨_,rfl⟩;rw [hgi] at HBz hcc r1 r2;clear hbz hgi hcx;have hwr:IntKind.i64.wrap (gi+(j:Int))=gi+(j:Int):=by rw [IntKind.wrap_i64];omega
         go_upto_region 21 with fail
         clear tbc ttl
         by_cases hd:t.u cl<(bz:Int)
         ·have hd1:decide (t.u cl<(bz:Int))=true:=by simpa using hd
          have HRb:Hid (false=bu):=HRj.out hd;refine wp_region_held_drew (S:=fun Z=>Lz w Z t ea ec es/\Z.cell? ⟨cb,cf+i,none⟩=some (.int .i64 gi)/\cb<Z.heap.size) (by kernel_rfl) ⟨HQ2.out.next (drew_up _),hcc,hcl⟩ (fun zH=>?_);refine wg 0 (.slice (some ⟨b,f,none⟩) k cap) rfl zH ?_;simp only [pq];refine wt 1 (.agg #[.int .i64 (t.u 0),.int .i64 (t.u 1),.int .i64 (t.u 2),.int .i64 (t.u 3),.int .i64 (t.l 0),.int .i64 (t.l 1),.int .i64 (t.l 2),.int .i64 (t.l 3),.int .i64 (t.b 0),.int .i64 (t.b 1),.int .i64 (t.b 2),.int .i64 (t.b 3),.int .i64 t.d]) rfl (fun w' hSw=>by (have k2:=hSw.1.t;have qu0:=k2.cu 0 (by decide);have qu1:=k2.cu 1 (by decide);have qu2:=k2.cu 2 (by decide);have qu3:=k2.cu 3 (by decide);have ql0:=k2.cl 0 (by decide);have ql1:=k2.cl 1 (by decide);have ql2:=k2.cl 2 (by decide);have ql3:=k2.cl 3 (by decide);have qb0:=k2.cb 0 (by decide);have qb1:=k2.cb 1 (by decide);have qb2:=k2.cb 2 (by decide);have qb3:=k2.cb 3 (by decide);have qd:=k2.cd;have qz:=k2.lt;clear k2;go_simp)) zH ?_;simp only [pq];refine wg 2 (.slice (some ⟨cb,cf,none⟩) k ccap) rfl zH ?_;simp only [pq];refine wg 3 (.int .i64 (cl:Int)) rfl zH ?_;simp only [pq];refine wg 4 (.slice (some ⟨cb,cf,none⟩) k ccap) rfl zH ?_;simp only [pq];refine wg 5 (.int .i64 (i:Int)) rfl zH ?_;simp only [pq];refine wg 6 (.pointer (some ⟨cb,cf+i,none⟩)) rfl zH ?_;simp only [pq];refine wt 7 (.int .i64 gi) rfl (fun w' hSw=>by (have y0:=hSw.2.1;have yl:=hSw.2.2;go_simp)) zH ?_;simp only [pq];refine wg 8 (.int .i64 (j:Int)) rfl zH ?_;simp only [pq];refine wg 9 (.int .i64 (gi+(j:Int))) rfl zH ?_;simp only [pq];refine wg 11 (.int .i64 (cl:Int)) rfl zH ?_;simp only [pq];refine wg 12 (.pointer (some ⟨w.heap.size,0,none⟩)) rfl zH ?_;simp only [pq];refine wg 13 (.pointer (some ⟨w.heap.size,cl,none⟩)) rfl zH ?_;simp only [pq];refine wt 14 (.int .i64 (t.u cl)) rfl (fun w' hSw=>by (have y0:=hSw.1.t.cu cl c4;have yl:=hSw.1.t.lt;go_simp)) zH ?_;simp only [pq];refine wpAnyH_ready (rs:=[10]) (by kernel_rfl) (by simp) ?_;refine AllReadyH.cons rfl (fun K hK=>?_) AllReadyH.nil;go_simp
          refine Calls.mono (HBz.out _ (HQ2.out.next (drew_up _))) ?_;rintro e w3 ⟨rfl,b3⟩;have HQ3:Hid (Lz w w3 t ea ec es):=(HQ2.out.next (drew_up _)).next b3;refine hK.out _ _ ⟨HQ3.out,by rw [(bcell b3).1 _ _ hcl];exact hcc,Nat.lt_of_lt_of_le hcl b3.size⟩ (fun zH=>?_);clear hK K b3 HBz;refine wg 15 (.bool (decide (t.u cl<(bz:Int)))) rfl zH ?_;simp only [pq];refine wpAnyH_done (by kernel_rfl) ?_ _;clear zH;rw [hd1];go_wp2_with fail
          go_ret
          exact ⟨by rw [HAr.out,HKe.out,<- HRb.out];rfl,HQ3.out.up⟩
         ·have hd1:decide (t.u cl<(bz:Int))=false:=by simpa using hd
          have HR:Hid _:=HNj.out hd;refine wp_region_held_drew (S:=fun Z=>Lz w Z t ea ec es/\Z.cell? ⟨cb,cf+i,none⟩=some (.int .i64 gi)/\cb<Z.heap.size) (by kernel_rfl) ⟨HQ2.out.next (drew_up _),hcc,hcl⟩ (fun zH=>?_);refine wg 0 (.slice (some ⟨b,f,none⟩) k cap) rfl zH ?_;simp only [pq];refine wt 1 (.agg #[.int .i64 (t.u 0),.int .i64 (t.u 1),.int .i64 (t.u 2),.int .i64 (t.u 3),.int .i64 (t.l 0),.int .i64 (t.l 1),.int .i64 (t.l 2),.int .i64 (t.l 3),.int .i64 (t.b 0),.int .i64 (t.b 1),.int .i64 (t.b 2),.int .i64 (t.b 3),.int .i64 t.d]) rfl (fun w' hSw=>by (have k2:=hSw.1.t;have qu0:=k2.cu 0 (by decide);have qu1:=k2.cu 1 (by decide);have qu2:=k2.cu 2 (by decide);have qu3:=k2.cu 3 (by decide);have ql0:=k2.cl 0 (by decide);have ql1:=k2.cl 1 (by decide);have ql2:=k2.cl 2 (by decide);have ql3:=k2.cl 3 (by decide);have qb0:=k2.cb 0 (by decide);have qb1:=k2.cb 1 (by decide);have qb2:=k2.cb 2 (by decide);have qb3:=k2.cb 3 (by decide);have qd:=k2.cd;have qz:=k2.lt;clear k2;go_simp)) zH ?_;simp only [pq];refine wg 2 (.slice (some ⟨cb,cf,none⟩) k ccap) rfl zH ?_;simp only [pq];refine wg 3 (.int .i64 (cl:Int)) rfl zH ?_;simp only [pq];refine wg 4 (.slice (some ⟨cb,cf,none⟩) k ccap) rfl zH ?_;simp only [pq];refine wg 5 (.int .i64 (i:Int)) rfl zH ?_;simp only [pq];refine wg 6 (.pointer (some ⟨cb,cf+i,none⟩)) rfl zH ?_;simp only [pq];refine wt 7 (.int .i64 gi) rfl (fun w' hSw=>by (have y0:=hSw.2.1;have yl:=hSw.2.2;go_simp)) zH ?_;simp only [pq];refine wg 8 (.int .i64 (j:Int)) rfl zH ?_;simp only [pq];refine wg 9 (.int .i64 (gi+(j:Int))) rfl zH ?_;simp only [pq];refine wg 11 (.int .i64 (cl:Int)) rfl zH ?_;simp only [pq];refine wg 12 (.pointer (some ⟨w.heap.size,0,none⟩)) rfl zH ?_;simp only [pq];refine wg 13 (.pointer (some ⟨w.heap.size,cl,none⟩)) rfl zH ?_;simp only [pq];refine wt 14 (.int .i64 (t.u cl)) rfl (fun w' hSw=>by (have y0:=hSw.1.t.cu cl c4;have yl:=hSw.1.t.lt;go_simp)) zH ?_;simp only [pq];refine wpAnyH_ready (rs:=[10]) (by kernel_rfl) (by simp) ?_;refine AllReadyH.cons rfl (fun K hK=>?_) AllReadyH.nil;go_simp
          refine Calls.mono (HBz.out _ (HQ2.out.next (drew_up _))) ?_;rintro e w3 ⟨rfl,b3⟩;have HQ3:Hid (Lz w w3 t ea ec es):=(HQ2.out.next (drew_up _)).next b3;refine hK.out _ _ ⟨HQ3.out,by rw [(bcell b3).1 _ _ hcl];exact hcc,Nat.lt_of_lt_of_le hcl b3.size⟩ (fun zH=>?_);clear hK K b3 HBz;refine wg 15 (.bool (decide (t.u cl<(bz:Int)))) rfl zH ?_;simp only [pq];refine wpAnyH_done (by kernel_rfl) ?_ _;clear zH;rw [hd1];go_wp2_with fail
          go_roundw
          case rel=>exact ⟨j+1,by omega,by go_num,HR.out,HQ3.out⟩
          case measure=>simp [intOf];omega
        ·have HR:Hid _:=HNxi.out fun j2 h2=>HJl.out j2 (by omega);go_wp2_with fail
         go_roundw
         case rel=>exact ⟨i+1,by omega,by go_num,HR.out,HQ2.out⟩
         case measure=>simp [intOf];omega
      ·obtain rfl:i=k:=by omega
       have i1:¬ (i:Int)<(i:Int):=by omega
       have HRb:Hid (true=bu):=HRys.out HUl.out;go_wp2_with fail
       go_ret
       exact ⟨by rw [HAr.out,HKe.out,<- HRb.out];rfl,HV.out.up⟩
end Go.Proofs.YtcmlnemokckbdaaGreatDoor.Ls
