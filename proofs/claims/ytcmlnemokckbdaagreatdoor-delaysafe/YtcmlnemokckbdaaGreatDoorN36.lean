/- Parts Ye Yf QVg QWl QWn QLe QDa QDb. -/
import Derived.Test.YtcmlnemokckbdaaGreatDoorN35
import Derived.Test.YtcmlnemokckbdaaGreatDoorN32
set_option maxRecDepth 20000
set_option maxHeartbeats 8000000
namespace Go.Proofs.YtcmlnemokckbdaaGreatDoor.L8.El
open Go.ChangeShapes Go.WideShapes Go.ChangeAt Go.RowKit
open YtcmlnemokckbdaaGreatDoor.L8.Op YtcmlnemokckbdaaGreatDoor.L8.Fl YtcmlnemokckbdaaGreatDoor.L8.Li
open YtcmlnemokckbdaaGreatDoor.L8.Lv (inN pow32)
def bk0:Bk:=⟨[],0,0,[],0,0⟩
def kpN (I:List Nat) (x:Bk):Nat:=inN I x.els.toNat ||| 2^x.a.toNat
def earL (ps:List Bk) (I:List Nat) (k:Nat) (x:Bk):List Int:=if laB ps x k then (List.range (erN (kpN I x) (ps.getD x.thn.toNat bk0).ops)).map fun (i:Nat)=>(i:Int) else []
theorem laB_fin {ps:List Bk} {x:Bk} {k:Int} (h:laB ps x k=true):x.fin=1:=by
 unfold laB at h;simp only [Bool.and_eq_true,decide_eq_true_eq] at h;exact h.1.1.1.1
theorem got_nil {w W:World} (h:Below w.heap.size w W):Got w W (.slice none 0 0) []:=⟨none,0,rfl,Il.nil _ _ _,h⟩
theorem drewN_e {B:Nat} {a w:World} (h:Below B a w) (n:Nat):Below B a (w.drewN n):=⟨h.os,h.tape,h.output,h.size,h.block⟩
theorem early_some (IL:List Nat) (ao:Option Addr) (cap:Nat) (ps:List Bk) (k:Nat) (hk:k<ps.length) (w:World) (hIL:InIs ps IL) (h:PAt w ao ps) (he:Env w) (hc:ckP ps=0) :
  Calls Tryz.prog 16 #[.agg #[.slice ao ps.length cap],.int .i64 k] w fun e w'=>∃ v,e=.returned v/\Got w w' v (earL ps IL k ps[k]):=by
 have hle:ps.length<=4096:=by
  unfold ckP at hc
  split at hc
  ·exact absurd hc (by decide)
  ·omega
 have HI:Hid (∀ W,Below w.heap.size w W->Calls Tryz.prog 30 #[.agg #[.slice ao ps.length cap]] W fun e w'=>∃ a c,e=.returned (.slice a ps.length c)/\Ul w' a IL/\(∀ t,inN IL t<4294967296)/\IL.length=ps.length/\Below W.heap.size W w'):=fun W hb=>(in_is IL ao cap ps W hIL (h.below hb) (he.below hb he.big)).mono fun e w' ⟨a,c,h1,h2,h3,h4⟩=>by
  have hl:IL.length=ps.length:=by rw [h3.len,if_pos hc]
  exact ⟨a,c,by rw [h1,hl],h2,(h3.yes hc).1.fit,hl,h4⟩
 have HLd:Hid (∀ W,Below w.heap.size w W->Calls Tryz.prog 31 #[.agg #[.slice ao ps.length cap],.int .i64 k] W fun e w'=>e=.returned (.bool (laB ps ps[k] k))/\Below W.heap.size W w'):=fun W hb=>leads_any ao cap ps k hk W (h.below hb) (he.below hb he.big) hle;have HS:Hid (Es w (w.alloc (.cells #[.slice ao ps.length cap] 40)) (.slice ao ps.length cap)):=es_new w _;have k0:(0:Int)<=(k:Int):=by omega
 have k1:(k:Int)<(ps.length:Int):=by omega
 have kn:¬ (k:Int)<0:=by omega
 have hd1:decide ((k:Int)<0)=false:=decide_eq_false kn;have hd2:decide (ps.length<=k)=false:=decide_eq_false (by omega);have kl:(ps.length:Int)<=4096:=by omega
 have HP:Hid (PAt w ao ps):=h;have HC:Hid (ckP ps=0):=hc
 cases hla:laB ps ps[k] k
 ·rw [hla] at HLd;rw [show earL ps IL k ps[k]=[] by simp [earL,hla]];clear h he hc hla;go_enter Tryz.func16,Tryz.ntmps16;go_upto_region 1 with fail
  generalize w.alloc (.cells #[.slice ao ps.length cap] 40)=W0 at *;have g0:=HS.out.g.c 0 _ rfl;have gl:=HS.out.g.lt;go_wp2_with (first
   | (go_at_call 30;refine Calls.mono (HI.out _ HS.out.up) ?_;rintro e w1 ⟨a,c,rfl,-,-,-,hb1⟩;have HX:Hid (Es w w1 (.slice ao ps.length cap)):=HS.out.next hb1;clear hb1 HS HI g0 gl;have g0:=HX.out.g.c 0 _ rfl;have gl:=HX.out.g.lt)
   | (go_at_call 31;refine Calls.mono (HLd.out _ HX.out.up) ?_;rintro e w2 ⟨rfl,hb2⟩;have HX2:Hid (Es w w2 (.slice ao ps.length cap)):=HX.out.next hb2;clear hb2 HX HLd g0 gl))
  go_ret
  exact ⟨_,rfl,got_nil HX2.out.up⟩
 ·rw [hla] at HLd;have hfin:=laB_fin hla;have HE:Hid (earL ps IL k ps[k]=(List.range (erN (kpN IL ps[k]) (ps.getD ps[k].thn.toNat bk0).ops)).map fun (i:Nat)=>(i:Int)):=(by unfold earL;rw [hla];rfl:earL ps IL k ps[k]=(List.range (erN (kpN IL ps[k]) (ps.getD ps[k].thn.toNat bk0).ops)).map fun (i:Nat)=>(i:Int));obtain ⟨b1,b2,b3⟩:=br_of hc (List.getElem_mem hk) hfin;obtain ⟨pb,pf,rfl,pz,px⟩:=h.is (by omega);obtain ⟨p,hpb,hpi⟩:=px k hk;have ha0:=hpi.ok.a0;obtain ⟨TH,hTH⟩:∃ TH:Nat,ps[k].thn=TH:=⟨ps[k].thn.toNat,by omega⟩;obtain ⟨EL,hEL⟩:∃ EL:Nat,ps[k].els=EL:=⟨ps[k].els.toNat,by omega⟩;obtain ⟨AA,hAA⟩:∃ AA:Nat,ps[k].a=AA:=⟨ps[k].a.toNat,by omega⟩;have hTl:TH<ps.length:=by omega
  have hEl:EL<ps.length:=by omega
  have hAl:AA<32:=by omega
  obtain ⟨p2,hpb2,hpi2⟩:=px TH hTl;have he2:earL ps IL k ps[k]=(List.range (erN (inN IL EL ||| 2^AA) ps[TH].ops)).map fun (i:Nat)=>(i:Int):=by
   have:=HE.out
   unfold kpN at this;rw [hTH,hEL,hAA] at this;simpa [List.getD_eq_getElem?_getD,hTl] using this
  have HE2:Hid _:=he2;clear he2;have HB1:Hid (∀ W,Below w.heap.size w W->BAt W pb (pf+k*6) ps[k] p/\BAt W pb (pf+TH*6) ps[TH] p2/\OpsAt W p2.oa ps[TH].ops/\pb<W.heap.size):=fun W hb=>⟨hpb.below hb pz,hpb2.below hb pz,hpi2.o.below hb,Nat.lt_of_lt_of_le pz hb.size⟩;have HOd:Hid (∀ o∈ps[TH].ops,0<=o.d/\o.d<32):=fun o ho=>⟨(hpi2.o.ok o ho).d0,ops_d hc (List.getElem_mem hTl) ho⟩;have hol:=hpi2.o.len;have hoc:=hpi2.c;have HV:Hid (ps[k].thn=TH/\ps[k].els=EL/\ps[k].a=AA):=⟨hTH,hEL,hAA⟩;rw [HE2.out];obtain ⟨R,hR⟩:∃ R,((List.range (erN (inN IL EL ||| 2^AA) ps[TH].ops)).map fun (i:Nat)=>(i:Int))=R:=⟨_,rfl⟩;rw [hR];have HR0:Hid (((List.range (erN (inN IL EL ||| 2^AA) ps[TH].ops)).map fun (i:Nat)=>(i:Int))=R):=hR;clear hR;clear HE HE2 h he hc hla px hpb hpi hpb2 hpi2 hTH hEL hAA b1 b2 b3 hfin ha0;have HB2:Hid (∀ W,Below w.heap.size w W->(W.cell? ⟨pb,pf+k*6,none⟩=some (.slice p.oa ps[k].ops.length p.oc)/\W.cell? ⟨pb,pf+k*6+1,none⟩=some (.int .i8 ps[k].fin)/\W.cell? ⟨pb,pf+k*6+2,none⟩=some (.int .u8 AA)/\W.cell? ⟨pb,pf+k*6+3,none⟩=some (.slice p.ba ps[k].body.length p.bc)/\W.cell? ⟨pb,pf+k*6+4,none⟩=some (.int .i64 TH)/\W.cell? ⟨pb,pf+k*6+5,none⟩=some (.int .i64 EL))/\W.cell? ⟨pb,pf+TH*6,none⟩=some (.slice p2.oa ps[TH].ops.length p2.oc)/\OpsAt W p2.oa ps[TH].ops/\pb<W.heap.size):=fun W hb=>by
   obtain ⟨h1,h2,h3,h4⟩:=HB1.out W hb;obtain ⟨v1,v2,v3⟩:=HV.out;refine ⟨⟨h1.c0,h1.c1,?_,h1.c3,?_,?_⟩,h2.c0,h3,h4⟩
   ·rw [<- v3];exact h1.c2
   ·rw [<- v1];exact h1.c4
   ·rw [<- v2];exact h1.c5
  clear HB1 HV;generalize ps[k].ops.length=n1 at *;generalize ps[k].body.length=n2 at *;generalize ps[k].fin=fi at *;generalize ps[TH].ops=xs at *;go_enter Tryz.func16,Tryz.ntmps16;go_upto_region 1 with fail
  generalize w.alloc (.cells #[.slice (some ⟨pb,pf,none⟩) ps.length cap] 40)=W0 at *;have g0:=HS.out.g.c 0 _ rfl;have gl:=HS.out.g.lt;go_upto_region 4 with (first
   | (go_at_call 30;refine Calls.mono (HI.out _ HS.out.up) ?_;rintro e w1 ⟨ia,ic,rfl,hu1,hf1,hn1,hb1⟩;have HX:Hid (Es w w1 (.slice (some ⟨pb,pf,none⟩) ps.length cap)/\Ul w1 ia IL/\inN IL EL<4294967296/\IL.length=ps.length):=⟨HS.out.next hb1,hu1,hf1 EL,hn1⟩;clear hb1 HS HI g0 gl hu1 hf1 hn1;have g0:=HX.out.1.g.c 0 _ rfl;have gl:=HX.out.1.g.lt)
   | (go_at_call 31;refine Calls.mono (HLd.out _ HX.out.1.up) ?_;rintro e w2 ⟨rfl,hb2⟩;have HX2:Hid (Es w w2 (.slice (some ⟨pb,pf,none⟩) ps.length cap)/\Ul w2 ia IL/\inN IL EL<4294967296/\IL.length=ps.length):=⟨HX.out.1.next hb2,HX.out.2.1.below hb2,HX.out.2.2⟩;clear hb2 HX HLd g0 gl))
  have g0:=HX2.out.1.g.c 0 _ rfl;have gl:=HX2.out.1.g.lt;obtain ⟨⟨q0,q1,q2,q3,q4,q5⟩,q6,-,qz⟩:=HB2.out w2 HX2.out.1.up;go_upto_region 5 with fail
  have HX3:Hid (Es w (w2.alloc (.cells #[.slice p.oa n1 p.oc,.int .i8 fi,.int .u8 AA,.slice p.ba n2 p.bc,.int .i64 TH,.int .i64 EL] 25)) (.slice (some ⟨pb,pf,none⟩) ps.length cap)/\Ul (w2.alloc (.cells #[.slice p.oa n1 p.oc,.int .i8 fi,.int .u8 AA,.slice p.ba n2 p.bc,.int .i64 TH,.int .i64 EL] 25)) ia IL/\At (w2.alloc (.cells #[.slice p.oa n1 p.oc,.int .i8 fi,.int .u8 AA,.slice p.ba n2 p.bc,.int .i64 TH,.int .i64 EL] 25)) w2.heap.size #[.slice p.oa n1 p.oc,.int .i8 fi,.int .u8 AA,.slice p.ba n2 p.bc,.int .i64 TH,.int .i64 EL]):=⟨HX2.out.1.next ((Below.refl _ _).alloc (Nat.le_refl _) _),HX2.out.2.1.below ((Below.refl _ _).alloc (Nat.le_refl _) _),At.new _ _ _⟩;generalize w2.alloc (.cells #[.slice p.oa n1 p.oc,.int .i8 fi,.int .u8 AA,.slice p.ba n2 p.bc,.int .i64 TH,.int .i64 EL] 25)=X at *;generalize w2.heap.size=xb at *;obtain ⟨h32,hln⟩:=HX2.out.2.2;clear g0 gl q0 q1 q2 q3 q4 q5 q6 qz HX2;obtain ⟨ib,rfl,il,-⟩:=HX3.out.2.1.is (by omega);have ic':=HX3.out.2.1.at (t:=EL) (by omega);have e2:=HX3.out.2.2.c 2 _ rfl;have e4:=HX3.out.2.2.c 4 _ rfl;have e5:=HX3.out.2.2.c 5 _ rfl;have el:=HX3.out.2.2.lt;have el0:(0:Int)<=(EL:Int):=by omega
  have el1:(EL:Int)<(ps.length:Int):=by omega
  have al0:(0:Int)<=(AA:Int):=by omega
  have al1:(AA:Int)<=32:=by omega
  have hp:=pow_mod hAl;have hor0:=or_nat (inN IL EL) (2^AA) h32 (pow32 hAl);generalize inN IL EL ||| 2^AA=KK at *;generalize inN IL EL=IE at *;have hor:bits .or .u32 (IE:Int) ((2:Int)^AA)=(KK:Int):=by
   have:=hor0
   rw [show ((2^AA:Nat):Int)=(2:Int)^AA by simp] at this;exact this
  clear hor0;go_quiet (fail)
  clear hor hp;generalize (2:Int)^AA%4294967296=jnk at *;have HX4:Hid (Es w (X.drewN nq) (.slice (some ⟨pb,pf,none⟩) ps.length cap)/\At (X.drewN nq) xb #[.slice p.oa n1 p.oc,.int .i8 fi,.int .u8 AA,.slice p.ba n2 p.bc,.int .i64 TH,.int .i64 EL]):=⟨HX3.out.1.next (drewN_e (Below.refl _ _) nq),HX3.out.2.2.below (drewN_e (Below.refl _ _) nq) HX3.out.2.2.lt⟩;generalize X.drewN nq=X2 at *;clear ic' il e2 e4 e5 el HX3;have e4:=HX4.out.2.c 4 _ rfl;have el:=HX4.out.2.lt;have g0:=HX4.out.1.g.c 0 _ rfl;have gl:=HX4.out.1.g.lt;have th0:(0:Int)<=(TH:Int):=by omega
  have th1:(TH:Int)<(ps.length:Int):=by omega
  obtain ⟨-,q6,-,qz⟩:=HB2.out X2 HX4.out.1.up;have HEy:Hid (Ey w X2 (.slice (some ⟨pb,pf,none⟩) ps.length cap) none 0 0):=Ey.start HX4.out.1;go_upto_region 8 with fail
  clear e4 el g0 gl q6 qz;obtain ⟨i0,hi,hi2⟩:=Option.map_eq_some_iff.1 info3e;simp only [Prod.mk.injEq] at hi2;obtain ⟨hz0,hz1,hz2⟩:=hi2;have HI3:Hid (Tryz.prog.info? 3=some i0/\i0.zero=some (.int .i64 0)/\i0.size=1/\i0.bytes=8):=⟨hi,hz0,hz1,hz2⟩;clear hi hz0 hz1 hz2;have hocI:(xs.length:Int)<=(p2.oc:Int):=by omega
  go_upto_region 9 with fail
  case inl=>
   have hMm:2=min xs.length 2:=by omega
   have HMm:Hid (2=min xs.length 2):=hMm;clear hMm
   go_loopw [9,55] (fun l v wr=>∃ (j c:Nat) (a:Option Addr),j<=2/\v=.int .i64 j/\l=.slice a j c/\(∀ i (h:i<xs.length),i<j->hmB KK xs[i]=true)/\Ey w wr (.slice (some ⟨pb,pf,none⟩) ps.length cap) a c j) (fun _ v _=>2-(intOf v).toNat)
   case atStart=>exact ⟨0,0,none,by omega,rfl,rfl,fun i _ hi=>absurd hi (by omega),HEy.out⟩
   case round=>
    rename World=>wr;obtain ⟨j,c1,a1,hj,rfl,rfl,h1,h2⟩:=hrel;have HQ:Hid ((∀ i (h:i<xs.length),i<j->hmB KK xs[i]=true)/\Ey w wr (.slice (some ⟨pb,pf,none⟩) ps.length cap) a1 c1 j):=⟨h1,h2⟩;clear h1 h2 HEy HX4
    by_cases hlt:j<2
    ·have j0:(0:Int)<=(j:Int):=by omega
     have j1:(j:Int)<2:=by omega
     have hj2:(j:Int)<2:=by have:=HMm.out;omega
     have hjx:j<xs.length:=by have:=HMm.out;omega
     have hjy:(j:Int)<(xs.length:Int):=by omega
     obtain ⟨-,-,hO,-⟩:=HB2.out wr HQ.out.2.up;obtain ⟨ob,of,hoa,oz,ox⟩:=hO.is (by omega);rw [hoa];obtain ⟨q0,q1,q2,q3,q4⟩:=ox j hjx;have HH:Hid (∀ W,Calls Tryz.prog 32 #[xs[j].val,.int .u32 KK] W fun e w'=>e=.returned (.bool (hmB KK xs[j]))/\Below W.heap.size W w'):=fun W=>harmless_any _ KK W (HOd.out _ (List.getElem_mem hjx)).1 (HOd.out _ (List.getElem_mem hjx)).2;have HSt:Hid (hmB KK xs[j]=false->erN KK xs=j):=fun e=>erN_stop hjx (by omega) HQ.out.1 e;have HGo:Hid (hmB KK xs[j]=true->∀ i (h:i<xs.length),i<j+1->hmB KK xs[i]=true):=fun e i h hij=>by
      by_cases e':i=j
      ·subst e';exact e
      ·exact HQ.out.1 i h (by omega)
     clear ox hO;generalize xs[j]=o at *
     cases hB:hmB KK o
     ·rw [hB] at HH;have hE:=HSt.out hB;clear hB HSt HGo;go_wp2_with (first
       | (go_at_call 32;refine Calls.mono (HH.out _) ?_;rintro e w5 ⟨rfl,hb5⟩;obtain ⟨-,hb50,hz5⟩:=one_new wr _ _ hb5;have HQ5:Hid (Ey w w5 (.slice (some ⟨pb,pf,none⟩) ps.length cap) a1 c1 j):=HQ.out.2.next hb50;clear hb5 hb50 HH q0 q1 q2 q3 q4 oz))
      go_ret
      refine ⟨_,rfl,?_⟩;rw [<- HR0.out,hE];exact HQ5.out.got
     ·rw [hB] at HH;have HG2:Hid (∀ i (h:i<xs.length),i<j+1->hmB KK xs[i]=true):=HGo.out hB;clear hB HSt HGo;go_upto_region 12 with (first
       | (go_at_call 32;refine Calls.mono (HH.out _) ?_;rintro e w5 ⟨rfl,hb5⟩;obtain ⟨-,hb50,hz5⟩:=one_new wr _ _ hb5;have HQ5:Hid (Ey w w5 (.slice (some ⟨pb,pf,none⟩) ps.length cap) a1 c1 j):=HQ.out.2.next hb50;clear hb5 hb50 HH q0 q1 q2 q3 q4 oz))
      go_wp2_with (first
       | (at_builtin;refine wpList_append_lies _ rfl _ _ 29 rfl (w.heap.size+1) 3 i0 (.int .i64 0) 1 8 Tryz.underlying29 HI3.out.1 HI3.out.2.1 HI3.out.2.2.1 HI3.out.2.2.2 rfl (by decide) (.slice a1 j c1) j ((List.range j).map fun (i:Nat)=>Value.int .i64 (i:Int)) rfl (World.ownsRow.alloc HQ5.out.row _) ⟨w5.heap.size,0,none⟩ 1 1 [.int .i64 (j:Int)] rfl rfl (World.news_of_block (heap_alloc_new w5 _)) (by simp [Value.oneCell']) (by decide) (by unfold maxLen;omega) (by omega) (by have:=HQ5.out.g.lt;simp;omega) (w5.heap.size+1) (by simp) ?_;intro g cp w7 hown hgrow hat hlt3;have HR7:Hid (Ey w w7 (.slice (some ⟨pb,pf,none⟩) ps.length cap) (some ⟨g,0,none⟩) cp (j+1)):=(HQ5.out.next ((Below.refl _ _).alloc (Nat.le_refl _) _)).add hgrow hown;clear hown hgrow hat hlt3))
      go_roundw
      case rel=>exact ⟨j+1,cp,some ⟨g,0,none⟩,by omega,by go_num,rfl,HG2.out,HR7.out⟩
      case measure=>simp [intOf];omega
    ·have hjM:j=2:=by omega
     have hE:=erN_all (hjM.trans HMm.out) HQ.out.1;subst hjM;go_wp2_with fail
     go_ret
     refine ⟨_,rfl,?_⟩;rw [<- HR0.out,hE];exact HQ.out.2.got
  case inr=>
   have hMm:xs.length=min xs.length 2:=by omega
   have HMm:Hid (xs.length=min xs.length 2):=hMm;clear hMm
   go_loopw [9,55] (fun l v wr=>∃ (j c:Nat) (a:Option Addr),j<=xs.length/\v=.int .i64 j/\l=.slice a j c/\(∀ i (h:i<xs.length),i<j->hmB KK xs[i]=true)/\Ey w wr (.slice (some ⟨pb,pf,none⟩) ps.length cap) a c j) (fun _ v _=>xs.length-(intOf v).toNat)
   case atStart=>exact ⟨0,0,none,by omega,rfl,rfl,fun i _ hi=>absurd hi (by omega),HEy.out⟩
   case round=>
    rename World=>wr;obtain ⟨j,c1,a1,hj,rfl,rfl,h1,h2⟩:=hrel;have HQ:Hid ((∀ i (h:i<xs.length),i<j->hmB KK xs[i]=true)/\Ey w wr (.slice (some ⟨pb,pf,none⟩) ps.length cap) a1 c1 j):=⟨h1,h2⟩;clear h1 h2 HEy HX4
    by_cases hlt:j<xs.length
    ·have j0:(0:Int)<=(j:Int):=by omega
     have j1:(j:Int)<(xs.length:Int):=by omega
     have hj2:(j:Int)<2:=by have:=HMm.out;omega
     have hjx:j<xs.length:=by have:=HMm.out;omega
     have hjy:(j:Int)<(xs.length:Int):=by omega
     obtain ⟨-,-,hO,-⟩:=HB2.out wr HQ.out.2.up;obtain ⟨ob,of,hoa,oz,ox⟩:=hO.is (by omega);rw [hoa];obtain ⟨q0,q1,q2,q3,q4⟩:=ox j hjx;have HH:Hid (∀ W,Calls Tryz.prog 32 #[xs[j].val,.int .u32 KK] W fun e w'=>e=.returned (.bool (hmB KK xs[j]))/\Below W.heap.size W w'):=fun W=>harmless_any _ KK W (HOd.out _ (List.getElem_mem hjx)).1 (HOd.out _ (List.getElem_mem hjx)).2;have HSt:Hid (hmB KK xs[j]=false->erN KK xs=j):=fun e=>erN_stop hjx (by omega) HQ.out.1 e;have HGo:Hid (hmB KK xs[j]=true->∀ i (h:i<xs.length),i<j+1->hmB KK xs[i]=true):=fun e i h hij=>by
      by_cases e':i=j
      ·subst e';exact e
      ·exact HQ.out.1 i h (by omega)
     clear ox hO;generalize xs[j]=o at *
     cases hB:hmB KK o
     ·rw [hB] at HH;have hE:=HSt.out hB;clear hB HSt HGo;go_wp2_with (first
       | (go_at_call 32;refine Calls.mono (HH.out _) ?_;rintro e w5 ⟨rfl,hb5⟩;obtain ⟨-,hb50,hz5⟩:=one_new wr _ _ hb5;have HQ5:Hid (Ey w w5 (.slice (some ⟨pb,pf,none⟩) ps.length cap) a1 c1 j):=HQ.out.2.next hb50;clear hb5 hb50 HH q0 q1 q2 q3 q4 oz))
      go_ret
      refine ⟨_,rfl,?_⟩;rw [<- HR0.out,hE];exact HQ5.out.got
     ·rw [hB] at HH;have HG2:Hid (∀ i (h:i<xs.length),i<j+1->hmB KK xs[i]=true):=HGo.out hB;clear hB HSt HGo;go_upto_region 12 with (first
       | (go_at_call 32;refine Calls.mono (HH.out _) ?_;rintro e w5 ⟨rfl,hb5⟩;obtain ⟨-,hb50,hz5⟩:=one_new wr _ _ hb5;have HQ5:Hid (Ey w w5 (.slice (some ⟨pb,pf,none⟩) ps.length cap) a1 c1 j):=HQ.out.2.next hb50;clear hb5 hb50 HH q0 q1 q2 q3 q4 oz))
      go_wp2_with (first
       | (at_builtin;refine wpList_append_lies _ rfl _ _ 29 rfl (w.heap.size+1) 3 i0 (.int .i64 0) 1 8 Tryz.underlying29 HI3.out.1 HI3.out.2.1 HI3.out.2.2.1 HI3.out.2.2.2 rfl (by decide) (.slice a1 j c1) j ((List.range j).map fun (i:Nat)=>Value.int .i64 (i:Int)) rfl (World.ownsRow.alloc HQ5.out.row _) ⟨w5.heap.size,0,none⟩ 1 1 [.int .i64 (j:Int)] rfl rfl (World.news_of_block (heap_alloc_new w5 _)) (by simp [Value.oneCell']) (by decide) (by unfold maxLen;omega) (by omega) (by have:=HQ5.out.g.lt;simp;omega) (w5.heap.size+1) (by simp) ?_;intro g cp w7 hown hgrow hat hlt3;have HR7:Hid (Ey w w7 (.slice (some ⟨pb,pf,none⟩) ps.length cap) (some ⟨g,0,none⟩) cp (j+1)):=(HQ5.out.next ((Below.refl _ _).alloc (Nat.le_refl _) _)).add hgrow hown;clear hown hgrow hat hlt3))
      go_roundw
      case rel=>exact ⟨j+1,cp,some ⟨g,0,none⟩,by omega,by go_num,rfl,HG2.out,HR7.out⟩
      case measure=>simp [intOf];omega
    ·have hjM:j=xs.length:=by omega
     have hE:=erN_all (hjM.trans HMm.out) HQ.out.1;subst hjM;go_wp2_with fail
     go_ret
     refine ⟨_,rfl,?_⟩;rw [<- HR0.out,hE];exact HQ.out.2.got
theorem and_pow (K d:Nat) (hK:K<4294967296) (hd:d<32):(bits .and .u32 (K:Int) ((2^d:Nat):Int)==0) = !K.testBit d:=by
 rw [u32_and_nat K (2^d) hK (pow32 hd)]
 cases h:K.testBit d
 ·have e:K &&& 2^d=0:=by
   apply Nat.eq_of_testBit_eq
   intro i;rw [Nat.testBit_and,Nat.zero_testBit,Nat.testBit_two_pow]
   by_cases hi:d=i
   ·subst hi;simp [h]
   ·simp [hi]
  rw [e];rfl
 ·have e:K &&& 2^d≠0:=by
   intro e;have h1:(K &&& 2^d).testBit d=true:=by rw [Nat.testBit_and,Nat.testBit_two_pow_self,h];rfl
   rw [e,Nat.zero_testBit] at h1
   cases h1
  simpa using e
def rmB (I A:Nat) (o:O):Bool:=decide (o.op<=12) && !(o.d.toNat == A) && !I.testBit o.d.toNat
theorem hm_eq {I A:Nat} {o:O} (hI:I<4294967296) (hA:A<32) (d0:0<=o.d) (d1:o.d<32):hmB (I ||| 2^A) o=rmB I A o:=by
 obtain ⟨d,hd⟩:=Int.eq_ofNat_of_zero_le d0;unfold hmB rmB;rw [hd,Int.toNat_natCast,and_pow _ d (by
  have:I ||| 2^A<2^32:=Nat.or_lt_two_pow (by omega) (pow32 hA)
  omega) (by omega),Nat.testBit_or,Nat.testBit_two_pow]
 by_cases e:A=d
 ·subst e;simp
 ·have e2:(d==A)=false:=by simpa using fun h=>e h.symm
  rw [e2];simp [e]
theorem ahead_mem {ps:List Bk} {k:Nat} (hk:k<ps.length) (hc:ckP ps=0) (hf:ps[k].fin=1) (h0:0<=ps[k].thn) (h1:ps[k].thn<ps.length):(k:Int)∈aheadL ps ps[k].thn:=by
 have hkn:knB ps ps[k].thn=true:=by simp [knB,h0,h1,hc]
 unfold aheadL aheadTo;rw [if_pos hkn,List.mem_map];refine ⟨k,List.mem_filter.2 ⟨List.mem_range.2 hk,?_⟩,rfl⟩;rw [List.getElem?_eq_getElem hk]
 have:ps[k].thn∈turnL ps[k]:=by
  unfold turnL;rw [if_neg (by omega),if_pos hf]
  split
  ·simp
  ·split <;> simp
 simpa using this
theorem ahead_one {ps:List Bk} {k:Nat} (hk:k<ps.length) (hc:ckP ps=0) (hf:ps[k].fin=1) (h0:0<=ps[k].thn) (h1:ps[k].thn<ps.length):aheadL ps ps[k].thn=[(k:Int)]↔(aheadL ps ps[k].thn).length=1:=by
 have hm:=ahead_mem hk hc hf h0 h1;constructor
 ·intro h;rw [h];rfl
 ·intro h;obtain ⟨y,hy⟩:=List.length_eq_one_iff.1 h;rw [hy] at hm ⊢;rw [List.mem_singleton.1 hm]
end Go.Proofs.YtcmlnemokckbdaaGreatDoor.L8.El
namespace Go.Proofs.YtcmlnemokckbdaaGreatDoor.L8.Li
open Go.ChangeShapes Go.WideShapes Go.ChangeAt Go.RowKit Go.Maps
open YtcmlnemokckbdaaGreatDoor.L8.So YtcmlnemokckbdaaGreatDoor.L8.Op YtcmlnemokckbdaaGreatDoor.L8.Fl YtcmlnemokckbdaaGreatDoor.L8.Lv



structure Bw (w W:World) (ao:Option Addr) (cap:Nat) (ps:List Bk):Prop where
 a:Op.At W w.heap.size #[.slice ao ps.length cap]
 b:Below w.heap.size w W
theorem Bw.up {w W W':World} {ao:Option Addr} {cap:Nat} {ps:List Bk} (h:Bw w W ao cap ps) (hb:Below W.heap.size W W'):Bw w W' ao cap ps:=⟨h.a.below hb h.a.lt,h.b.trans (hb.mono h.b.size)⟩
theorem Bw.new (w:World) (ao:Option Addr) (cap:Nat) (ps:List Bk):Bw w (w.alloc (.cells #[.slice ao ps.length cap] 40)) ao cap ps:=⟨Op.At.new _ _ _,below_al _⟩
theorem Bw.cell {w W:World} {ao:Option Addr} {cap:Nat} {ps:List Bk} (h:Bw w W ao cap ps):W.cell? ⟨w.heap.size,0,none⟩=some (.slice ao ps.length cap):=h.a.c 0 _ rfl
end Go.Proofs.YtcmlnemokckbdaaGreatDoor.L8.Li
namespace Go.Proofs.YtcmlnemokckbdaaGreatDoor.L8.Li
open Go.ChangeShapes Go.WideShapes Go.ChangeAt Go.RowKit
open YtcmlnemokckbdaaGreatDoor.L8.So YtcmlnemokckbdaaGreatDoor.L8.Op YtcmlnemokckbdaaGreatDoor.L8.Fl YtcmlnemokckbdaaGreatDoor.L8.Lv


end Go.Proofs.YtcmlnemokckbdaaGreatDoor.L8.Li
