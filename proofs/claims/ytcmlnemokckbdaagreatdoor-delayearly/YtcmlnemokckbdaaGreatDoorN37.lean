/- Parts Ye Yf QVg QWl QWn QLe QDa QDb. -/
import Derived.Test.YtcmlnemokckbdaaGreatDoorN36
import Derived.Test.YtcmlnemokckbdaaGreatDoorN33
set_option maxRecDepth 20000
set_option maxHeartbeats 8000000
namespace Go.Proofs.YtcmlnemokckbdaaGreatDoor.L8.El
open Go.ChangeShapes Go.WideShapes Go.ChangeAt Go.RowKit
open YtcmlnemokckbdaaGreatDoor.L8.Op YtcmlnemokckbdaaGreatDoor.L8.Fl YtcmlnemokckbdaaGreatDoor.L8.Li
open YtcmlnemokckbdaaGreatDoor.L8.Lv (inN pow32)
def bk0:Bk:=⟨[],0,0,[],0,0⟩
def kpN (I:List Nat) (x:Bk):Nat:=inN I x.els.toNat ||| 2^x.a.toNat
def earL (ps:List Bk) (I:List Nat) (k:Nat) (x:Bk):List Int:=if laB ps x k then (List.range (erN (kpN I x) (ps.getD x.thn.toNat bk0).ops)).map fun (i:Nat)=>(i:Int) else []
theorem laB_fin {ps:List Bk} {x:Bk} {k:Int} (h:laB ps x k=true):x.fin=1:=by
 unfold laB at h;simp only [Bool.and_eq_true,decide_eq_true_eq] at h;exact h.1.1.1.1
theorem got_nil {w W:World} (h:Below w.heap.size w W):Got w W (.slice none 0 0) []:=⟨none,0,rfl,Il.nil _ _ _,h⟩
theorem drewN_e {B:Nat} {a w:World} (h:Below B a w) (n:Nat):Below B a (w.drewN n):=⟨h.os,h.tape,h.output,h.size,h.block⟩
theorem early_some (IL:List Nat) (ao:Option Addr) (cap:Nat) (ps:List Bk) (k:Nat) (hk:k<ps.length) (w:World) (hIL:InIs ps IL) (h:PAt w ao ps) (he:Env w) (hc:ckP ps=0) :
  Calls Tryz.prog 16 #[.agg #[.slice ao ps.length cap],.int .i64 k] w fun e w'=>∃ v,e=.returned v/\Got w w' v (earL ps IL k ps[k]):=by
 have hle:ps.length<=4096:=by
  unfold ckP at hc
  split at hc
  ·exact absurd hc (by decide)
  ·omega
 have HI:Hid (∀ W,Below w.heap.size w W->Calls Tryz.prog 30 #[.agg #[.slice ao ps.length cap]] W fun e w'=>∃ a c,e=.returned (.slice a ps.length c)/\Ul w' a IL/\(∀ t,inN IL t<4294967296)/\IL.length=ps.length/\Below W.heap.size W w'):=fun W hb=>(in_is IL ao cap ps W hIL (h.below hb) (he.below hb he.big)).mono fun e w' ⟨a,c,h1,h2,h3,h4⟩=>by
  have hl:IL.length=ps.length:=by rw [h3.len,if_pos hc]
  exact ⟨a,c,by rw [h1,hl],h2,(h3.yes hc).1.fit,hl,h4⟩
 have HLd:Hid (∀ W,Below w.heap.size w W->Calls Tryz.prog 31 #[.agg #[.slice ao ps.length cap],.int .i64 k] W fun e w'=>e=.returned (.bool (laB ps ps[k] k))/\Below W.heap.size W w'):=fun W hb=>leads_any ao cap ps k hk W (h.below hb) (he.below hb he.big) hle;have HS:Hid (Es w (w.alloc (.cells #[.slice ao ps.length cap] 40)) (.slice ao ps.length cap)):=es_new w _;have k0:(0:Int)<=(k:Int):=by omega
 have k1:(k:Int)<(ps.length:Int):=by omega
 have kn:¬ (k:Int)<0:=by omega
 have hd1:decide ((k:Int)<0)=false:=decide_eq_false kn;have hd2:decide (ps.length<=k)=false:=decide_eq_false (by omega);have kl:(ps.length:Int)<=4096:=by omega
 have HP:Hid (PAt w ao ps):=h;have HC:Hid (ckP ps=0):=hc
 cases hla:laB ps ps[k] k
 ·rw [hla] at HLd;rw [show earL ps IL k ps[k]=[] by simp [earL,hla]];clear h he hc hla;go_enter Tryz.func16,Tryz.ntmps16;go_upto_region 1 with fail
  generalize w.alloc (.cells #[.slice ao ps.length cap] 40)=W0 at *;have g0:=HS.out.g.c 0 _ rfl;have gl:=HS.out.g.lt;go_wp2_with (first
   | (go_at_call 30;refine Calls.mono (HI.out _ HS.out.up) ?_;rintro e w1 ⟨a,c,rfl,-,-,-,hb1⟩;have HX:Hid (Es w w1 (.slice ao ps.length cap)):=HS.out.next hb1;clear hb1 HS HI g0 gl;have g0:=HX.out.g.c 0 _ rfl;have gl:=HX.out.g.lt)
   | (go_at_call 31;refine Calls.mono (HLd.out _ HX.out.up) ?_;rintro e w2 ⟨rfl,hb2⟩;have HX2:Hid (Es w w2 (.slice ao ps.length cap)):=HX.out.next hb2;clear hb2 HX HLd g0 gl))
  go_ret
  exact ⟨_,rfl,got_nil HX2.out.up⟩
 ·rw [hla] at HLd;have hfin:=laB_fin hla;have HE:Hid (earL ps IL k ps[k]=(List.range (erN (kpN IL ps[k]) (ps.getD ps[k].thn.toNat bk0).ops)).map fun (i:Nat)=>(i:Int)):=(by unfold earL;rw [hla];rfl:earL ps IL k ps[k]=(List.range (erN (kpN IL ps[k]) (ps.getD ps[k].thn.toNat bk0).ops)).map fun (i:Nat)=>(i:Int));obtain ⟨b1,b2,b3⟩:=br_of hc (List.getElem_mem hk) hfin;obtain ⟨pb,pf,rfl,pz,px⟩:=h.is (by omega);obtain ⟨p,hpb,hpi⟩:=px k hk;have ha0:=hpi.ok.a0;obtain ⟨TH,hTH⟩:∃ TH:Nat,ps[k].thn=TH:=⟨ps[k].thn.toNat,by omega⟩;obtain ⟨EL,hEL⟩:∃ EL:Nat,ps[k].els=EL:=⟨ps[k].els.toNat,by omega⟩;obtain ⟨AA,hAA⟩:∃ AA:Nat,ps[k].a=AA:=⟨ps[k].a.toNat,by omega⟩;have hTl:TH<ps.length:=by omega
  have hEl:EL<ps.length:=by omega
  have hAl:AA<32:=by omega
  obtain ⟨p2,hpb2,hpi2⟩:=px TH hTl;have he2:earL ps IL k ps[k]=(List.range (erN (inN IL EL ||| 2^AA) ps[TH].ops)).map fun (i:Nat)=>(i:Int):=by
   have:=HE.out
   unfold kpN at this;rw [hTH,hEL,hAA] at this;simpa [List.getD_eq_getElem?_getD,hTl] using this
  have HE2:Hid _:=he2;clear he2;have HB1:Hid (∀ W,Below w.heap.size w W->BAt W pb (pf+k*6) ps[k] p/\BAt W pb (pf+TH*6) ps[TH] p2/\OpsAt W p2.oa ps[TH].ops/\pb<W.heap.size):=fun W hb=>⟨hpb.below hb pz,hpb2.below hb pz,hpi2.o.below hb,Nat.lt_of_lt_of_le pz hb.size⟩;have HOd:Hid (∀ o∈ps[TH].ops,0<=o.d/\o.d<32):=fun o ho=>⟨(hpi2.o.ok o ho).d0,ops_d hc (List.getElem_mem hTl) ho⟩;have hol:=hpi2.o.len;have hoc:=hpi2.c;have HV:Hid (ps[k].thn=TH/\ps[k].els=EL/\ps[k].a=AA):=⟨hTH,hEL,hAA⟩;rw [HE2.out];obtain ⟨R,hR⟩:∃ R,((List.range (erN (inN IL EL ||| 2^AA) ps[TH].ops)).map fun (i:Nat)=>(i:Int))=R:=⟨_,rfl⟩;rw [hR];have HR0:Hid (((List.range (erN (inN IL EL ||| 2^AA) ps[TH].ops)).map fun (i:Nat)=>(i:Int))=R):=hR;clear hR;clear HE HE2 h he hc hla px hpb hpi hpb2 hpi2 hTH hEL hAA b1 b2 b3 hfin ha0;have HB2:Hid (∀ W,Below w.heap.size w W->(W.cell? ⟨pb,pf+k*6,none⟩=some (.slice p.oa ps[k].ops.length p.oc)/\W.cell? ⟨pb,pf+k*6+1,none⟩=some (.int .i8 ps[k].fin)/\W.cell? ⟨pb,pf+k*6+2,none⟩=some (.int .u8 AA)/\W.cell? ⟨pb,pf+k*6+3,none⟩=some (.slice p.ba ps[k].body.length p.bc)/\W.cell? ⟨pb,pf+k*6+4,none⟩=some (.int .i64 TH)/\W.cell? ⟨pb,pf+k*6+5,none⟩=some (.int .i64 EL))/\W.cell? ⟨pb,pf+TH*6,none⟩=some (.slice p2.oa ps[TH].ops.length p2.oc)/\OpsAt W p2.oa ps[TH].ops/\pb<W.heap.size):=fun W hb=>by
   obtain ⟨h1,h2,h3,h4⟩:=HB1.out W hb;obtain ⟨v1,v2,v3⟩:=HV.out;refine ⟨⟨h1.c0,h1.c1,?_,h1.c3,?_,?_⟩,h2.c0,h3,h4⟩
   ·rw [<- v3];exact h1.c2
   ·rw [<- v1];exact h1.c4
   ·rw [<- v2];exact h1.c5
  clear HB1 HV;generalize ps[k].ops.length=n1 at *;generalize ps[k].body.length=n2 at *;generalize ps[k].fin=fi at *;generalize ps[TH].ops=xs at *;go_enter Tryz.func16,Tryz.ntmps16;go_upto_region 1 with fail
  generalize w.alloc (.cells #[.slice (some ⟨pb,pf,none⟩) ps.length cap] 40)=W0 at *;have g0:=HS.out.g.c 0 _ rfl;have gl:=HS.out.g.lt;go_upto_region 4 with (first
   | (go_at_call 30;refine Calls.mono (HI.out _ HS.out.up) ?_;rintro e w1 ⟨ia,ic,rfl,hu1,hf1,hn1,hb1⟩;have HX:Hid (Es w w1 (.slice (some ⟨pb,pf,none⟩) ps.length cap)/\Ul w1 ia IL/\inN IL EL<4294967296/\IL.length=ps.length):=⟨HS.out.next hb1,hu1,hf1 EL,hn1⟩;clear hb1 HS HI g0 gl hu1 hf1 hn1;have g0:=HX.out.1.g.c 0 _ rfl;have gl:=HX.out.1.g.lt)
   | (go_at_call 31;refine Calls.mono (HLd.out _ HX.out.1.up) ?_;rintro e w2 ⟨rfl,hb2⟩;have HX2:Hid (Es w w2 (.slice (some ⟨pb,pf,none⟩) ps.length cap)/\Ul w2 ia IL/\inN IL EL<4294967296/\IL.length=ps.length):=⟨HX.out.1.next hb2,HX.out.2.1.below hb2,HX.out.2.2⟩;clear hb2 HX HLd g0 gl))
  have g0:=HX2.out.1.g.c 0 _ rfl;have gl:=HX2.out.1.g.lt;obtain ⟨⟨q0,q1,q2,q3,q4,q5⟩,q6,-,qz⟩:=HB2.out w2 HX2.out.1.up;go_upto_region 5 with fail
  have HX3:Hid (Es w (w2.alloc (.cells #[.slice p.oa n1 p.oc,.int .i8 fi,.int .u8 AA,.slice p.ba n2 p.bc,.int .i64 TH,.int .i64 EL] 25)) (.slice (some ⟨pb,pf,none⟩) ps.length cap)/\Ul (w2.alloc (.cells #[.slice p.oa n1 p.oc,.int .i8 fi,.int .u8 AA,.slice p.ba n2 p.bc,.int .i64 TH,.int .i64 EL] 25)) ia IL/\At (w2.alloc (.cells #[.slice p.oa n1 p.oc,.int .i8 fi,.int .u8 AA,.slice p.ba n2 p.bc,.int .i64 TH,.int .i64 EL] 25)) w2.heap.size #[.slice p.oa n1 p.oc,.int .i8 fi,.int .u8 AA,.slice p.ba n2 p.bc,.int .i64 TH,.int .i64 EL]):=⟨HX2.out.1.next ((Below.refl _ _).alloc (Nat.le_refl _) _),HX2.out.2.1.below ((Below.refl _ _).alloc (Nat.le_refl _) _),At.new _ _ _⟩;generalize w2.alloc (.cells #[.slice p.oa n1 p.oc,.int .i8 fi,.int .u8 AA,.slice p.ba n2 p.bc,.int .i64 TH,.int .i64 EL] 25)=X at *;generalize w2.heap.size=xb at *;obtain ⟨h32,hln⟩:=HX2.out.2.2;clear g0 gl q0 q1 q2 q3 q4 q5 q6 qz HX2;obtain ⟨ib,rfl,il,-⟩:=HX3.out.2.1.is (by omega);have ic':=HX3.out.2.1.at (t:=EL) (by omega);have e2:=HX3.out.2.2.c 2 _ rfl;have e4:=HX3.out.2.2.c 4 _ rfl;have e5:=HX3.out.2.2.c 5 _ rfl;have el:=HX3.out.2.2.lt;have el0:(0:Int)<=(EL:Int):=by omega
  have el1:(EL:Int)<(ps.length:Int):=by omega
  have al0:(0:Int)<=(AA:Int):=by omega
  have al1:(AA:Int)<=32:=by omega
  have hp:=pow_mod hAl;have hor0:=or_nat (inN IL EL) (2^AA) h32 (pow32 hAl);generalize inN IL EL ||| 2^AA=KK at *;generalize inN IL EL=IE at *;have hor:bits .or .u32 (IE:Int) ((2:Int)^AA)=(KK:Int):=by
   have:=hor0
   rw [show ((2^AA:Nat):Int)=(2:Int)^AA by simp] at this;exact this
  clear hor0;go_quiet (fail)
  clear hor hp;generalize (2:Int)^AA%4294967296=jnk at *;have HX4:Hid (Es w (X.drewN nq) (.slice (some ⟨pb,pf,none⟩) ps.length cap)/\At (X.drewN nq) xb #[.slice p.oa n1 p.oc,.int .i8 fi,.int .u8 AA,.slice p.ba n2 p.bc,.int .i64 TH,.int .i64 EL]):=⟨HX3.out.1.next (drewN_e (Below.refl _ _) nq),HX3.out.2.2.below (drewN_e (Below.refl _ _) nq) HX3.out.2.2.lt⟩;generalize X.drewN nq=X2 at *;clear ic' il e2 e4 e5 el HX3;have e4:=HX4.out.2.c 4 _ rfl;have el:=HX4.out.2.lt;have g0:=HX4.out.1.g.c 0 _ rfl;have gl:=HX4.out.1.g.lt;have th0:(0:Int)<=(TH:Int):=by omega
  have th1:(TH:Int)<(ps.length:Int):=by omega
  obtain ⟨-,q6,-,qz⟩:=HB2.out X2 HX4.out.1.up;have HEy:Hid (Ey w X2 (.slice (some ⟨pb,pf,none⟩) ps.length cap) none 0 0):=Ey.start HX4.out.1;go_upto_region 8 with fail
  clear e4 el g0 gl q6 qz;obtain ⟨i0,hi,hi2⟩:=Option.map_eq_some_iff.1 info3e;simp only [Prod.mk.injEq] at hi2;obtain ⟨hz0,hz1,hz2⟩:=hi2;have HI3:Hid (Tryz.prog.info? 3=some i0/\i0.zero=some (.int .i64 0)/\i0.size=1/\i0.bytes=8):=⟨hi,hz0,hz1,hz2⟩;clear hi hz0 hz1 hz2;have hocI:(xs.length:Int)<=(p2.oc:Int):=by omega
  go_upto_region 9 with fail
  case inl=>
   have hMm:2=min xs.length 2:=by omega
   have HMm:Hid (2=min xs.length 2):=hMm;clear hMm
   go_loopw [9,55] (fun l v wr=>∃ (j c:Nat) (a:Option Addr),j<=2/\v=.int .i64 j/\l=.slice a j c/\(∀ i (h:i<xs.length),i<j->hmB KK xs[i]=true)/\Ey w wr (.slice (some ⟨pb,pf,none⟩) ps.length cap) a c j) (fun _ v _=>2-(intOf v).toNat)
   case atStart=>exact ⟨0,0,none,by omega,rfl,rfl,fun i _ hi=>absurd hi (by omega),HEy.out⟩
   case round=>
    rename World=>wr;obtain ⟨j,c1,a1,hj,rfl,rfl,h1,h2⟩:=hrel;have HQ:Hid ((∀ i (h:i<xs.length),i<j->hmB KK xs[i]=true)/\Ey w wr (.slice (some ⟨pb,pf,none⟩) ps.length cap) a1 c1 j):=⟨h1,h2⟩;clear h1 h2 HEy HX4
    by_cases hlt:j<2
    ·have j0:(0:Int)<=(j:Int):=by omega
     have j1:(j:Int)<2:=by omega
     have hj2:(j:Int)<2:=by have:=HMm.out;omega
     have hjx:j<xs.length:=by have:=HMm.out;omega
     have hjy:(j:Int)<(xs.length:Int):=by omega
     obtain ⟨-,-,hO,-⟩:=HB2.out wr HQ.out.2.up;obtain ⟨ob,of,hoa,oz,ox⟩:=hO.is (by omega);rw [hoa];obtain ⟨q0,q1,q2,q3,q4⟩:=ox j hjx;have HH:Hid (∀ W,Calls Tryz.prog 32 #[xs[j].val,.int .u32 KK] W fun e w'=>e=.returned (.bool (hmB KK xs[j]))/\Below W.heap.size W w'):=fun W=>harmless_any _ KK W (HOd.out _ (List.getElem_mem hjx)).1 (HOd.out _ (List.getElem_mem hjx)).2;have HSt:Hid (hmB KK xs[j]=false->erN KK xs=j):=fun e=>erN_stop hjx (by omega) HQ.out.1 e;have HGo:Hid (hmB KK xs[j]=true->∀ i (h:i<xs.length),i<j+1->hmB KK xs[i]=true):=fun e i h hij=>by
      by_cases e':i=j
      ·subst e';exact e
      ·exact HQ.out.1 i h (by omega)
     clear ox hO;generalize xs[j]=o at *
     cases hB:hmB KK o
     ·rw [hB] at HH;have hE:=HSt.out hB;clear hB HSt HGo;go_wp2_with (first
       | (go_at_call 32;refine Calls.mono (HH.out _) ?_;rintro e w5 ⟨rfl,hb5⟩;obtain ⟨-,hb50,hz5⟩:=one_new wr _ _ hb5;have HQ5:Hid (Ey w w5 (.slice (some ⟨pb,pf,none⟩) ps.length cap) a1 c1 j):=HQ.out.2.next hb50;clear hb5 hb50 HH q0 q1 q2 q3 q4 oz))
      go_ret
      refine ⟨_,rfl,?_⟩;rw [<- HR0.out,hE];exact HQ5.out.got
     ·rw [hB] at HH;have HG2:Hid (∀ i (h:i<xs.length),i<j+1->hmB KK xs[i]=true):=HGo.out hB;clear hB HSt HGo;go_upto_region 12 with (first
       | (go_at_call 32;refine Calls.mono (HH.out _) ?_;rintro e w5 ⟨rfl,hb5⟩;obtain ⟨-,hb50,hz5⟩:=one_new wr _ _ hb5;have HQ5:Hid (Ey w w5 (.slice (some ⟨pb,pf,none⟩) ps.length cap) a1 c1 j):=HQ.out.2.next hb50;clear hb5 hb50 HH q0 q1 q2 q3 q4 oz))
      go_wp2_with (first
       | (at_builtin;refine wpList_append_lies _ rfl _ _ 29 rfl (w.heap.size+1) 3 i0 (.int .i64 0) 1 8 Tryz.underlying29 HI3.out.1 HI3.out.2.1 HI3.out.2.2.1 HI3.out.2.2.2 rfl (by decide) (.slice a1 j c1) j ((List.range j).map fun (i:Nat)=>Value.int .i64 (i:Int)) rfl (World.ownsRow.alloc HQ5.out.row _) ⟨w5.heap.size,0,none⟩ 1 1 [.int .i64 (j:Int)] rfl rfl (World.news_of_block (heap_alloc_new w5 _)) (by simp [Value.oneCell']) (by decide) (by unfold maxLen;omega) (by omega) (by have:=HQ5.out.g.lt;simp;omega) (w5.heap.size+1) (by simp) ?_;intro g cp w7 hown hgrow hat hlt3;have HR7:Hid (Ey w w7 (.slice (some ⟨pb,pf,none⟩) ps.length cap) (some ⟨g,0,none⟩) cp (j+1)):=(HQ5.out.next ((Below.refl _ _).alloc (Nat.le_refl _) _)).add hgrow hown;clear hown hgrow hat hlt3))
      go_roundw
      case rel=>exact ⟨j+1,cp,some ⟨g,0,none⟩,by omega,by go_num,rfl,HG2.out,HR7.out⟩
      case measure=>simp [intOf];omega
    ·have hjM:j=2:=by omega
     have hE:=erN_all (hjM.trans HMm.out) HQ.out.1;subst hjM;go_wp2_with fail
     go_ret
     refine ⟨_,rfl,?_⟩;rw [<- HR0.out,hE];exact HQ.out.2.got
  case inr=>
   have hMm:xs.length=min xs.length 2:=by omega
   have HMm:Hid (xs.length=min xs.length 2):=hMm;clear hMm
   go_loopw [9,55] (fun l v wr=>∃ (j c:Nat) (a:Option Addr),j<=xs.length/\v=.int .i64 j/\l=.slice a j c/\(∀ i (h:i<xs.length),i<j->hmB KK xs[i]=true)/\Ey w wr (.slice (some ⟨pb,pf,none⟩) ps.length cap) a c j) (fun _ v _=>xs.length-(intOf v).toNat)
   case atStart=>exact ⟨0,0,none,by omega,rfl,rfl,fun i _ hi=>absurd hi (by omega),HEy.out⟩
   case round=>
    rename World=>wr;obtain ⟨j,c1,a1,hj,rfl,rfl,h1,h2⟩:=hrel;have HQ:Hid ((∀ i (h:i<xs.length),i<j->hmB KK xs[i]=true)/\Ey w wr (.slice (some ⟨pb,pf,none⟩) ps.length cap) a1 c1 j):=⟨h1,h2⟩;clear h1 h2 HEy HX4
    by_cases hlt:j<xs.length
    ·have j0:(0:Int)<=(j:Int):=by omega
     have j1:(j:Int)<(xs.length:Int):=by omega
     have hj2:(j:Int)<2:=by have:=HMm.out;omega
     have hjx:j<xs.length:=by have:=HMm.out;omega
     have hjy:(j:Int)<(xs.length:Int):=by omega
     obtain ⟨-,-,hO,-⟩:=HB2.out wr HQ.out.2.up;obtain ⟨ob,of,hoa,oz,ox⟩:=hO.is (by omega);rw [hoa];obtain ⟨q0,q1,q2,q3,q4⟩:=ox j hjx;have HH:Hid (∀ W,Calls Tryz.prog 32 #[xs[j].val,.int .u32 KK] W fun e w'=>e=.returned (.bool (hmB KK xs[j]))/\Below W.heap.size W w'):=fun W=>harmless_any _ KK W (HOd.out _ (List.getElem_mem hjx)).1 (HOd.out _ (List.getElem_mem hjx)).2;have HSt:Hid (hmB KK xs[j]=false->erN KK xs=j):=fun e=>erN_stop hjx (by omega) HQ.out.1 e;have HGo:Hid (hmB KK xs[j]=true->∀ i (h:i<xs.length),i<j+1->hmB KK xs[i]=true):=fun e i h hij=>by
      by_cases e':i=j
      ·subst e';exact e
      ·exact HQ.out.1 i h (by omega)
     clear ox hO;generalize xs[j]=o at *
     cases hB:hmB KK o
     ·rw [hB] at HH;have hE:=HSt.out hB;clear hB HSt HGo;go_wp2_with (first
       | (go_at_call 32;refine Calls.mono (HH.out _) ?_;rintro e w5 ⟨rfl,hb5⟩;obtain ⟨-,hb50,hz5⟩:=one_new wr _ _ hb5;have HQ5:Hid (Ey w w5 (.slice (some ⟨pb,pf,none⟩) ps.length cap) a1 c1 j):=HQ.out.2.next hb50;clear hb5 hb50 HH q0 q1 q2 q3 q4 oz))
      go_ret
      refine ⟨_,rfl,?_⟩;rw [<- HR0.out,hE];exact HQ5.out.got
     ·rw [hB] at HH;have HG2:Hid (∀ i (h:i<xs.length),i<j+1->hmB KK xs[i]=true):=HGo.out hB;clear hB HSt HGo;go_upto_region 12 with (first
       | (go_at_call 32;refine Calls.mono (HH.out _) ?_;rintro e w5 ⟨rfl,hb5⟩;obtain ⟨-,hb50,hz5⟩:=one_new wr _ _ hb5;have HQ5:Hid (Ey w w5 (.slice (some ⟨pb,pf,none⟩) ps.length cap) a1 c1 j):=HQ.out.2.next hb50;clear hb5 hb50 HH q0 q1 q2 q3 q4 oz))
      go_wp2_with (first
       | (at_builtin;refine wpList_append_lies _ rfl _ _ 29 rfl (w.heap.size+1) 3 i0 (.int .i64 0) 1 8 Tryz.underlying29 HI3.out.1 HI3.out.2.1 HI3.out.2.2.1 HI3.out.2.2.2 rfl (by decide) (.slice a1 j c1) j ((List.range j).map fun (i:Nat)=>Value.int .i64 (i:Int)) rfl (World.ownsRow.alloc HQ5.out.row _) ⟨w5.heap.size,0,none⟩ 1 1 [.int .i64 (j:Int)] rfl rfl (World.news_of_block (heap_alloc_new w5 _)) (by simp [Value.oneCell']) (by decide) (by unfold maxLen;omega) (by omega) (by have:=HQ5.out.g.lt;simp;omega) (w5.heap.size+1) (by simp) ?_;intro g cp w7 hown hgrow hat hlt3;have HR7:Hid (Ey w w7 (.slice (some ⟨pb,pf,none⟩) ps.length cap) (some ⟨g,0,none⟩) cp (j+1)):=(HQ5.out.next ((Below.refl _ _).alloc (Nat.le_refl _) _)).add hgrow hown;clear hown hgrow hat hlt3))
      go_roundw
      case rel=>exact ⟨j+1,cp,some ⟨g,0,none⟩,by omega,by go_num,rfl,HG2.out,HR7.out⟩
      case measure=>simp [intOf];omega
    ·have hjM:j=xs.length:=by omega
     have hE:=erN_all (hjM.trans HMm.out) HQ.out.1;subst hjM;go_wp2_with fail
     go_ret
     refine ⟨_,rfl,?_⟩;rw [<- HR0.out,hE];exact HQ.out.2.got
theorem and_pow (K d:Nat) (hK:K<4294967296) (hd:d<32):(bits .and .u32 (K:Int) ((2^d:Nat):Int)==0) = !K.testBit d:=by
 rw [u32_and_nat K (2^d) hK (pow32 hd)]
 cases h:K.testBit d
 ·have e:K &&& 2^d=0:=by
   apply Nat.eq_of_testBit_eq
   intro i;rw [Nat.testBit_and,Nat.zero_testBit,Nat.testBit_two_pow]
   by_cases hi:d=i
   ·subst hi;simp [h]
   ·simp [hi]
  rw [e];rfl
 ·have e:K &&& 2^d≠0:=by
   intro e;have h1:(K &&& 2^d).testBit d=true:=by rw [Nat.testBit_and,Nat.testBit_two_pow_self,h];rfl
   rw [e,Nat.zero_testBit] at h1
   cases h1
  simpa using e
def rmB (I A:Nat) (o:O):Bool:=decide (o.op<=12) && !(o.d.toNat == A) && !I.testBit o.d.toNat
theorem hm_eq {I A:Nat} {o:O} (hI:I<4294967296) (hA:A<32) (d0:0<=o.d) (d1:o.d<32):hmB (I ||| 2^A) o=rmB I A o:=by
 obtain ⟨d,hd⟩:=Int.eq_ofNat_of_zero_le d0;unfold hmB rmB;rw [hd,Int.toNat_natCast,and_pow _ d (by
  have:I ||| 2^A<2^32:=Nat.or_lt_two_pow (by omega) (pow32 hA)
  omega) (by omega),Nat.testBit_or,Nat.testBit_two_pow]
 by_cases e:A=d
 ·subst e;simp
 ·have e2:(d==A)=false:=by simpa using fun h=>e h.symm
  rw [e2];simp [e]
theorem ahead_mem {ps:List Bk} {k:Nat} (hk:k<ps.length) (hc:ckP ps=0) (hf:ps[k].fin=1) (h0:0<=ps[k].thn) (h1:ps[k].thn<ps.length):(k:Int)∈aheadL ps ps[k].thn:=by
 have hkn:knB ps ps[k].thn=true:=by simp [knB,h0,h1,hc]
 unfold aheadL aheadTo;rw [if_pos hkn,List.mem_map];refine ⟨k,List.mem_filter.2 ⟨List.mem_range.2 hk,?_⟩,rfl⟩;rw [List.getElem?_eq_getElem hk]
 have:ps[k].thn∈turnL ps[k]:=by
  unfold turnL;rw [if_neg (by omega),if_pos hf]
  split
  ·simp
  ·split <;> simp
 simpa using this
theorem ahead_one {ps:List Bk} {k:Nat} (hk:k<ps.length) (hc:ckP ps=0) (hf:ps[k].fin=1) (h0:0<=ps[k].thn) (h1:ps[k].thn<ps.length):aheadL ps ps[k].thn=[(k:Int)]↔(aheadL ps ps[k].thn).length=1:=by
 have hm:=ahead_mem hk hc hf h0 h1;constructor
 ·intro h;rw [h];rfl
 ·intro h;obtain ⟨y,hy⟩:=List.length_eq_one_iff.1 h;rw [hy] at hm ⊢;rw [List.mem_singleton.1 hm]
theorem wr_op {o:O} (h:okP o=true) (h12:o.op<=12):wrB o=true/\wrD o=o.d:=by
 have hb:wrB o=true:=by
  unfold okP okO at h;simp only [Bool.and_eq_true,decide_eq_true_eq] at h;obtain ⟨⟨h1,-⟩,h2⟩:=h;unfold wrB
  split at h2
  ·rename_i k hk
   try rw [hk]
   obtain ⟨n,hn,e,rfl⟩:=kOf_some hk;have hn1:1<=n:=by omega
   have hn2:n<=12:=by omega
   have key:∀ n:Fin 24,1<=n.val->n.val<=12->(kindL[n.val]'(n.isLt)).D=true:=by decide
   have hD:=key ⟨n,hn⟩ hn1 hn2;simp only at hD
   show (okF _ o&&_)=true;rw [h2,hD];rfl
  ·cases h2
 exact ⟨hb,by unfold wrD;rw [hb];rfl⟩
end Go.Proofs.YtcmlnemokckbdaaGreatDoor.L8.El
namespace Go.Proofs.YtcmlnemokckbdaaGreatDoor.L8.Li
open Go.ChangeShapes Go.WideShapes Go.ChangeAt Go.RowKit Go.Maps
open YtcmlnemokckbdaaGreatDoor.L8.So YtcmlnemokckbdaaGreatDoor.L8.Op YtcmlnemokckbdaaGreatDoor.L8.Fl YtcmlnemokckbdaaGreatDoor.L8.Lv



structure Bw (w W:World) (ao:Option Addr) (cap:Nat) (ps:List Bk):Prop where
 a:Op.At W w.heap.size #[.slice ao ps.length cap]
 b:Below w.heap.size w W
theorem Bw.up {w W W':World} {ao:Option Addr} {cap:Nat} {ps:List Bk} (h:Bw w W ao cap ps) (hb:Below W.heap.size W W'):Bw w W' ao cap ps:=⟨h.a.below hb h.a.lt,h.b.trans (hb.mono h.b.size)⟩
theorem Bw.new (w:World) (ao:Option Addr) (cap:Nat) (ps:List Bk):Bw w (w.alloc (.cells #[.slice ao ps.length cap] 40)) ao cap ps:=⟨Op.At.new _ _ _,below_al _⟩
theorem Bw.cell {w W:World} {ao:Option Addr} {cap:Nat} {ps:List Bk} (h:Bw w W ao cap ps):W.cell? ⟨w.heap.size,0,none⟩=some (.slice ao ps.length cap):=h.a.c 0 _ rfl
theorem put_mod {x d:Nat} (hx:x<4294967296) (hd:d<32):bits .or .u32 (x:Int) ((2:Int)^d%4294967296)=((put x d:Nat):Int):=by rw [pow_mod hd];exact u32_or_nat x (2^d) hx (pow32 hd)
theorem clr_mod {x d:Nat} (hx:x<4294967296) (hd:d<32):bits .andNot .u32 (x:Int) ((2:Int)^d%4294967296)=((clr x d:Nat):Int):=by rw [pow_mod hd];exact u32_andNot_nat x (2^d) hx (pow32 hd)
end Go.Proofs.YtcmlnemokckbdaaGreatDoor.L8.Li
namespace Go.Proofs.YtcmlnemokckbdaaGreatDoor.L8.Li
open Go.ChangeShapes Go.WideShapes Go.ChangeAt Go.RowKit
open YtcmlnemokckbdaaGreatDoor.L8.So YtcmlnemokckbdaaGreatDoor.L8.Op YtcmlnemokckbdaaGreatDoor.L8.Fl YtcmlnemokckbdaaGreatDoor.L8.Lv
theorem ba_all:(kindL.all fun k=>!k.B || k.A)=true:=by decide
theorem b_a {d:Int} {k:K} (h:kOf d=some k) (hA:k.A=false):k.B=false:=by
 obtain ⟨n,hn,-,rfl⟩:=kOf_some h
 have:=List.all_eq_true.1 ba_all _ (List.getElem_mem (l:=kindL) hn)
 simp [hA] at this
 exact this
theorem sl_rl {w:World} {v:Value} {n:Nat} {f:Nat->Int} {xs:List Nat} (h:SlAt w v n f) (hn:xs.length=n) (hf:∀ (j:Nat) (hj:j<xs.length),((xs[j]:Nat):Int)=f j):∃ a c,v=.slice a xs.length c/\Rl w a xs:=by
 subst hn;rcases h with ⟨h0,p,c,rfl⟩|⟨b,c,rfl,hb,hc⟩
 ·exact ⟨p,c,by rw [h0],⟨fun h=>by omega⟩⟩
 ·exact ⟨_,c,rfl,⟨fun _=>⟨b,rfl,hb,fun i hi=>by rw [hf i hi];exact hc i hi⟩⟩⟩
theorem refReads_sl (o:O) (w:World) (ho:o.Ok):Calls Tryz.prog 129 #[o.val] w fun e w'=>∃ a c,e=.returned (.slice a (rdL o).length c)/\Rl w' a (rdL o)/\Below w.heap.size w w':=by
 cases hO:okO o with
 | false=>
  refine (refReads_no o w ho hO).mono ?_;rintro e w' ⟨rfl,hb⟩;rw [rd_no hO];exact ⟨none,0,rfl,⟨fun h=>by simp at h⟩,hb⟩
 | true=>
  cases hk:kOf o.op with
  | none=>rw [okO_none hk] at hO;cases hO
  | some k=>
   have hf:okF k o=true:=by rw [<- okO_some hk];exact hO
   refine (refReads_yes o k w ho hk hf (b_a hk)).mono ?_;rintro e w' ⟨v,rfl,hS,hb⟩;have h2:=rc_two k o;have hl:(rdL o).length=rcN k o:=by rw [rd_yes hk hf,List.length_take];simp;omega
   obtain ⟨_,_,_,_,ha,_,hb',_,_,_⟩:=ho;obtain ⟨a,c,rfl,hR⟩:=sl_rl (xs:=rdL o) hS hl (fun j hj=>by
    rw [hl] at hj;have e:(rdL o)[j]?=[o.a.toNat,o.b.toNat][j]?:=by rw [rd_yes hk hf,List.getElem?_take,if_pos hj]
    rcases (show j=0\/j=1 by omega) with rfl|rfl
    ·have:(rdL o)[0]=o.a.toNat:=(List.getElem?_eq_some_iff.1 e).2
     rw [this];simp only [rf,if_true];omega
    ·have:(rdL o)[1]=o.b.toNat:=(List.getElem?_eq_some_iff.1 e).2
     rw [this];simp [rf];omega)
   exact ⟨a,c,rfl,hR,hb⟩
theorem refAhead_any (o:O) (x:Nat) (w:World) (ho:o.Ok) (hx:x<4294967296):Calls Tryz.prog 109 #[o.val,.int .u32 x] w fun e w'=>e=.returned (.int .u32 (aheadN (wOf o) x:Nat))/\Below w.heap.size w w':=by
 have hs:=Lv.small_of o ho;have HR:Hid _:=fun w=>refReads_sl o w ho;have HW0:=fun w=>refWrites_any o w ho;have hrd:∀ r∈rdL o,r<32:=hs.1;have hyl:wipe (wOf o) x<4294967296:=wipe_lt hx;have hdef:aheadN (wOf o) x=(rdL o).foldl put (wipe (wOf o) x):=rfl;rw [hdef];have hll:(rdL o).length<=2:=by unfold rdL;split <;> (try split) <;> (try split) <;> simp
 generalize hxs:rdL o=xs at *
 cases hw:wrB o with
 | false=>
  have e0:wipe (wOf o) x=x:=by simp [wipe,wOf,hw]
  rw [e0];rw [hw] at HW0;have HW:Hid _:=HW0;clear HW0 hs hdef hw e0 hyl ho hxs;go_enter Tryz.func109,Tryz.ntmps109;go_wp2_with (first
   | (go_at_call 36;refine Calls.mono (HW.out _) ?_;rintro e w1 ⟨rfl,hb⟩;obtain ⟨a1,hb0,hz⟩:=one_new w _ _ hb;obtain ⟨o0,o1,o2,o3,o4⟩:=a1.o5;have HB:Hid (Below w.heap.size w w1):=hb0;clear hb hb0 a1 HW)
   | (go_at_call 129;refine Calls.mono (HR.out _) ?_;rintro e w2 ⟨a,c,rfl,hl,hb⟩;have HL:Hid (Rl w2 a xs):=hl;have HB2:Hid (Below w.heap.size w w2):=HB.out.trans (hb.mono (Nat.le_of_lt hz));clear hb hl HR o0 o1 o2 o3 o4))
  go_loop [1,8] (fun b i=>∃ k:Nat,k<=xs.length/\i=.int .i64 k/\b=.int .u32 (((xs.take k).foldl put x:Nat):Int)) (fun _ i=>xs.length-(intOf i).toNat)
  case atStart=>exact ⟨0,by omega,rfl,rfl⟩
  case round=>
   obtain ⟨k,hk,rfl,rfl⟩:=hrel
   by_cases hlt:k<xs.length
   ·obtain ⟨b,rfl,hb,hc⟩:=HL.out.is (by omega);have cc:=hc k hlt;have hr:xs[k]<32:=hrd _ (List.getElem_mem hlt);have hr1:((xs[k]:Nat):Int)<=32:=by omega
    have hr2:(0:Int)<=((xs[k]:Nat):Int):=by omega
    have hkz:(k:Int)<(xs.length:Int):=by omega
    have hb1:(xs.take k).foldl put x<4294967296:=take_lt hx hrd;have HE:Hid _:=put_mod hb1 hr;have HT:Hid _:=take_put (y:=x) hlt;generalize xs[k]=r at *;generalize (xs.take k).foldl put x=y at *;clear hc HL hb1;go_wp2
    go_roundw
    case rel=>exact ⟨k+1,by omega,by go_num,by rw [HT.out,HE.out]⟩
    case measure=>simp [intOf];omega
   ·obtain rfl:k=xs.length:=by omega
    rw [List.take_length];go_wp2
    go_ret
    exact ⟨rfl,HB2.out⟩
 | true=>
  have hd0:wrD o=((o.d.toNat : Nat):Int):=by
   obtain ⟨_,_,hd,_⟩:=ho;simp only [wrD,hw,if_true];omega
  have hd1:o.d.toNat<32:=hs.2 _ (by simp [wOf,hw]);have e0:wipe (wOf o) x=clr x o.d.toNat:=by simp [wipe,wOf,hw]
  rw [e0] at hyl ⊢;rw [hw,hd0] at HW0;have HW:Hid _:=HW0;have HC:Hid _:=clr_mod hx hd1;have hd2:((o.d.toNat : Nat):Int)<=32:=by omega
  have hd3:(0:Int)<=((o.d.toNat : Nat):Int):=by omega
  generalize o.d.toNat = d at *;clear HW0 hs hdef hw e0 ho hd0 hxs;go_enter Tryz.func109,Tryz.ntmps109;go_wp2_with (first
   | (go_at_call 36;refine Calls.mono (HW.out _) ?_;rintro e w1 ⟨rfl,hb⟩;obtain ⟨a1,hb0,hz⟩:=one_new w _ _ hb;obtain ⟨o0,o1,o2,o3,o4⟩:=a1.o5;have HB:Hid (Below w.heap.size w w1):=hb0;clear hb hb0 a1 HW)
   | (go_at_call 129;refine Calls.mono (HR.out _) ?_;rintro e w2 ⟨a,c,rfl,hl,hb⟩;have HL:Hid (Rl w2 a xs):=hl;have HB2:Hid (Below w.heap.size w w2):=HB.out.trans (hb.mono (Nat.le_of_lt hz));clear hb hl HR o0 o1 o2 o3 o4))
  go_loop [1,8] (fun b i=>∃ k:Nat,k<=xs.length/\i=.int .i64 k/\b=.int .u32 (((xs.take k).foldl put (clr x d):Nat):Int)) (fun _ i=>xs.length-(intOf i).toNat)
  case atStart=>exact ⟨0,by omega,rfl,by rw [HC.out];rfl⟩
  case round=>
   obtain ⟨k,hk,rfl,rfl⟩:=hrel
   by_cases hlt:k<xs.length
   ·obtain ⟨b,rfl,hb,hc⟩:=HL.out.is (by omega);have cc:=hc k hlt;have hr:xs[k]<32:=hrd _ (List.getElem_mem hlt);have hr1:((xs[k]:Nat):Int)<=32:=by omega
    have hr2:(0:Int)<=((xs[k]:Nat):Int):=by omega
    have hkz:(k:Int)<(xs.length:Int):=by omega
    have hb1:(xs.take k).foldl put (clr x d)<4294967296:=take_lt hyl hrd;have HE:Hid _:=put_mod hb1 hr;have HT:Hid _:=take_put (y:=clr x d) hlt;generalize xs[k]=r at *;generalize (xs.take k).foldl put (clr x d)=y at *;clear hc HL hb1;go_wp2
    go_roundw
    case rel=>exact ⟨k+1,by omega,by go_num,by rw [HT.out,HE.out]⟩
    case measure=>simp [intOf];omega
   ·obtain rfl:k=xs.length:=by omega
    rw [List.take_length];go_wp2
    go_ret
    exact ⟨rfl,HB2.out⟩
theorem refList_any (ao:Option Addr) (cap:Nat) (xs:List O) (fr x:Nat) (w:World) (h:OpsAt w ao xs) (hx:x<4294967296) (hfr:fr<=xs.length) :
  Calls Tryz.prog 64 #[.slice ao xs.length cap,.int .i64 fr,.int .u32 x] w fun e w'=>e=.returned (.int .u32 (aheadNL ((xs.drop fr).map wOf) x:Nat))/\Below w.heap.size w w':=by
 have hlen:=h.len;have HO:Hid (OpsAt w ao xs):=h;clear h;go_enter Tryz.func64,Tryz.ntmps64;go_wp2
 go_loopw [2,7] (fun b i wr=>∃ k:Nat,fr<=k/\k<=xs.length/\i=.int .i64 ((k:Int)-1)/\b=.int .u32 ((aheadNL ((xs.drop k).map wOf) x:Nat):Int)/\Below w.heap.size w wr) (fun _ i _=>(intOf i+1).toNat)
 case atStart=>exact ⟨xs.length,hfr,Nat.le_refl _,by go_num,by rw [List.drop_length];rfl,Below.refl _ _⟩
 case round=>
  rename_i wr;obtain ⟨k,hkf,hk,rfl,rfl,hbw⟩:=hrel
  by_cases hz0:k=fr
  ·subst hz0;have i3:¬ ((k:Int)<=(k:Int)-1):=by omega
   go_wp2
   go_ret
   exact ⟨rfl,hbw⟩
  ·obtain ⟨k,rfl⟩:∃ j,k=j+1:=⟨k-1,by omega⟩;obtain ⟨b,f,rfl,hz,hc⟩:=HO.out.is (by omega);obtain ⟨c0,c1,c2,c3,c4⟩:=(hc k (by omega)).below hbw hz;have hb1:aheadNL ((xs.drop (k+1)).map wOf) x<4294967296:=drop_lt hx HO.out.ok;have HT:Hid _:=drop_put (x:=x) (show k<xs.length by omega);have HA:Hid _:=fun w'=>refAhead_any xs[k] _ w' (HO.out.ok _ (List.getElem_mem _)) hb1;have e1:((k+1:Nat):Int)-1=(k:Int):=by omega
   rw [e1];have i1:(0:Int)<=(k:Int):=by omega
   have i3:(fr:Int)<=(k:Int):=by omega
   have i2:(k:Int)<(xs.length:Int):=by omega
   generalize xs[k]=o at *;generalize aheadNL ((xs.drop (k+1)).map wOf) x=y at *;clear hc HO e1 hb1;go_wp2_with (first|(go_at_call 109;refine Calls.mono (HA.out _) ?_;rintro e w3 ⟨rfl,hb3⟩))
   go_roundw
   case rel=>exact ⟨k,by omega,by omega,by go_num,by rw [HT.out],hbw.trans (hb3.mono hbw.size)⟩
   case measure=>simp [intOf]
theorem or_mod {a y:Nat} (ha:a<32) (hy:y<4294967296):bits .or .u32 ((2:Int)^a%4294967296) (y:Int)=((2^a ||| y:Nat):Int):=by rw [pow_mod ha];exact u32_or_nat (2^a) y (pow32 ha) hy
theorem refHalt_any (x:Bk) (p:Pl) (v:Value) (w:World) (ha0:0<=x.a) (ha:x.a<32) (h0:x.fin=2) :
  Calls Tryz.prog 65 #[x.val p,v] w fun e w'=>e=.returned (.int .u32 ((2^x.a.toNat : Nat):Int))/\Below w.heap.size w w':=by
 obtain ⟨xo,xf,xa,xb,xt,xe⟩:=x;simp only at h0 ha0 ha
 obtain ⟨a,rfl⟩:∃ a:Nat,xa=a:=⟨xa.toNat,by omega⟩;subst h0;have h2:(a:Int)<=32:=by omega
 have hp:=pow_mod (r:=a) (by omega);have HP:Hid _:=hp;clear hp;go_enter Tryz.func65,Tryz.ntmps65;go_wp2
 go_ret
 exact ⟨ret_int HP.out,by go_grown⟩
theorem refJump_any (x:Bk) (p:Pl) (b c:Nat) (xs:List Nat) (w:World) (hU:Ul w (some ⟨b,0,none⟩) xs) (ht0:0<=x.thn) (ht:x.thn<xs.length) (h0:x.fin=0) :
  Calls Tryz.prog 65 #[x.val p,.slice (some ⟨b,0,none⟩) xs.length c] w fun e w'=>e=.returned (.int .u32 ((inN xs x.thn.toNat : Nat):Int))/\Below w.heap.size w w':=by
 obtain ⟨xo,xf,xa,xb,xt,xe⟩:=x;simp only at h0 ht0 ht
 obtain ⟨t,rfl⟩:∃ t:Nat,xt=t:=⟨xt.toNat,by omega⟩;subst h0;have cc:=hU.at (t:=t) (by omega);obtain ⟨b',e,hb⟩:=hU.addr (by omega)
 cases e
 clear hU;go_enter Tryz.func65,Tryz.ntmps65;go_wp2
 go_ret
 exact ⟨rfl,by go_grown⟩
theorem refBranch_any (x:Bk) (p:Pl) (b c:Nat) (xs:List Nat) (w:World) (hU:Ul w (some ⟨b,0,none⟩) xs) (hF:Fit xs) (ha0:0<=x.a) (ha:x.a<32) (ht0:0<=x.thn) (ht:x.thn<xs.length) (he0:0<=x.els) (he:x.els<xs.length) (h0:x.fin=1) :
  Calls Tryz.prog 65 #[x.val p,.slice (some ⟨b,0,none⟩) xs.length c] w fun e w'=>e=.returned (.int .u32 ((2^x.a.toNat ||| inN xs x.thn.toNat ||| inN xs x.els.toNat : Nat):Int))/\Below w.heap.size w w':=by
 obtain ⟨xo,xf,xa,xb,xt,xe⟩:=x;simp only at h0 ht0 ht he0 he ha0 ha
 obtain ⟨t,rfl⟩:∃ t:Nat,xt=t:=⟨xt.toNat,by omega⟩;obtain ⟨u,rfl⟩:∃ u:Nat,xe=u:=⟨xe.toNat,by omega⟩;obtain ⟨a,rfl⟩:∃ a:Nat,xa=a:=⟨xa.toNat,by omega⟩;subst h0;have c1:=hU.at (t:=t) (by omega);have c2:=hU.at (t:=u) (by omega);obtain ⟨b',e,hb⟩:=hU.addr (by omega)
 cases e
 simp only [Int.toNat_natCast];have h2:(a:Int)<=32:=by omega
 have f1:2^a<4294967296:=pow32 (by omega);have HE1:Hid (bits .or .u32 ((2:Int)^a%4294967296) ((inN xs t:Nat):Int)=((2^a ||| inN xs t:Nat):Int)):=or_mod (by omega) (hF t);have HE2:Hid (bits .or .u32 ((2^a ||| inN xs t:Nat):Int) ((inN xs u:Nat):Int)=((2^a ||| inN xs t ||| inN xs u:Nat):Int)):=or_u32 (Nat.or_lt_two_pow (n:=32) f1 (hF t)) (hF u);generalize inN xs t=y1 at *;generalize inN xs u=y2 at *;clear hU hF f1;go_enter Tryz.func65,Tryz.ntmps65;go_wp2_with fail
 go_quiet (fail)
 go_wp2_with fail
 go_ret
 refine ⟨ret_int ?_,?_⟩
 ·rw [HE1.out,HE2.out]
 ·exact drewN_below (by go_grown) _
def lpN (l:List W) (x k:Nat):Nat:=if k=0 then x else loopN l x
theorem lpN_step {l:List W} {x:Nat} (hx:x<4294967296) (hl:∀ o∈l,Lv.Small o) (k:Nat):loopN l (lpN l x k)=lpN l x (k+1):=by
 unfold lpN;rw [if_neg (show ¬ k+1=0 by omega)]
 by_cases h:k=0
 ·rw [if_pos h]
 ·rw [if_neg h,loopN_again hx hl]
theorem lpN_lt {l:List W} {x:Nat} (hx:x<4294967296) (hl:∀ o∈l,Lv.Small o) (k:Nat):lpN l x k<4294967296:=by
 unfold lpN
 split
 ·exact hx
 ·exact loopN_lt hx hl
theorem refLoop_any (x:Bk) (p:Pl) (b c:Nat) (xs:List Nat) (w:World) (hB:OpsAt w p.ba x.body) (hU:Ul w (some ⟨b,0,none⟩) xs) (hF:Fit xs) (ha0:0<=x.a) (ha:x.a<32) (ht0:0<=x.thn) (ht:x.thn<xs.length) (h0:x.fin=3) :
  Calls Tryz.prog 65 #[x.val p,.slice (some ⟨b,0,none⟩) xs.length c] w fun e w'=>e=.returned (.int .u32 ((2^x.a.toNat ||| loopN (x.body.map wOf) (inN xs x.thn.toNat):Nat):Int))/\Below w.heap.size w w':=by
 obtain ⟨xo,xf,xa,xb,xt,xe⟩:=x;simp only at h0 ht0 ht ha0 ha hB
 obtain ⟨t,rfl⟩:∃ t:Nat,xt=t:=⟨xt.toNat,by omega⟩;obtain ⟨a,rfl⟩:∃ a:Nat,xa=a:=⟨xa.toNat,by omega⟩;subst h0;have c1:=hU.at (t:=t) (by omega);obtain ⟨b',e,hb⟩:=hU.addr (by omega)
 cases e
 simp only [Int.toNat_natCast];have h2:(a:Int)<=32:=by omega
 have h3:(0:Int)<=(a:Int):=by omega
 have hsm:=map_small hB.ok;have hx0:=hF t;have HE1:Hid (bits .or .u32 ((2:Int)^a%4294967296) ((loopN (xb.map wOf) (inN xs t):Nat):Int)=((2^a ||| loopN (xb.map wOf) (inN xs t):Nat):Int)):=or_mod (by omega) (loopN_lt hx0 hsm);have HL:Hid (∀ k W,Below w.heap.size w W->Calls Tryz.prog 64 #[.slice p.ba xb.length p.bc,.int .i64 0,.int .u32 ((lpN (xb.map wOf) (inN xs t) k:Nat):Int)] W fun e w'=>e=.returned (.int .u32 ((aheadNL (xb.map wOf) (lpN (xb.map wOf) (inN xs t) k):Nat):Int))/\Below W.heap.size W w'):=fun k W hW=>refList_any p.ba p.bc xb 0 _ W (hB.below hW) (lpN_lt hx0 hsm k) (Nat.zero_le _);have HS:Hid (∀ k,bits .or .u32 ((lpN (xb.map wOf) (inN xs t) k:Nat):Int) ((aheadNL (xb.map wOf) (lpN (xb.map wOf) (inN xs t) k):Nat):Int)=((lpN (xb.map wOf) (inN xs t) (k+1):Nat):Int)):=fun k=>by
  rw [<- lpN_step hx0 hsm];exact or_u32 (lpN_lt hx0 hsm k) (aheadNL_lt (lpN_lt hx0 hsm k) hsm)
 have HA:Hid (Op.At (w.alloc (.cells #[.slice p.oa xo.length p.oc,.int .i8 3,.int .u8 a,.slice p.ba xb.length p.bc,.int .i64 t,.int .i64 xe] 25)) w.heap.size #[.slice p.oa xo.length p.oc,.int .i8 3,.int .u8 a,.slice p.ba xb.length p.bc,.int .i64 t,.int .i64 xe]/\Below w.heap.size w (w.alloc (.cells #[.slice p.oa xo.length p.oc,.int .i8 3,.int .u8 a,.slice p.ba xb.length p.bc,.int .i64 t,.int .i64 xe] 25))):=⟨Op.At.new _ _ _,below_al _⟩;have HLast:Hid (lpN (xb.map wOf) (inN xs t) 33=loopN (xb.map wOf) (inN xs t)):=rfl;have HFirst:Hid (lpN (xb.map wOf) (inN xs t) 0=inN xs t):=rfl;clear hU hB hF hsm hx0 ha0 ha;go_enter Tryz.func65,Tryz.ntmps65;go_wp2
 generalize w.alloc (.cells #[.slice p.oa xo.length p.oc,.int .i8 3,.int .u8 a,.slice p.ba xb.length p.bc,.int .i64 t,.int .i64 xe] 25)=V at *
 go_loopw [5,6] (fun v i wr=>∃ k:Nat,k<=33/\i=.int .i64 k/\v=.int .u32 ((lpN (xb.map wOf) (inN xs t) k:Nat):Int)/\Hid (Op.At wr w.heap.size #[.slice p.oa xo.length p.oc,.int .i8 3,.int .u8 a,.slice p.ba xb.length p.bc,.int .i64 t,.int .i64 xe]/\Below w.heap.size w wr)) (fun _ i _=>33-(intOf i).toNat)
 case atStart=>exact ⟨0,by omega,rfl,by rw [HFirst.out],HA.out⟩
 case round=>
  rename_i wr;clear HA;obtain ⟨k,hk,rfl,rfl,H1⟩:=hrel;have k2:=H1.out.1.c 2 _ rfl;have k3:=H1.out.1.c 3 _ rfl
  by_cases hlt:k<=32
  ·have hlz:(k:Int)<=32:=by omega
   have HL1:Hid _:=HL.out k wr H1.out.2;have HS1:Hid _:=HS.out k;generalize aheadNL (xb.map wOf) (lpN (xb.map wOf) (inN xs t) k)=y1 at *;generalize lpN (xb.map wOf) (inN xs t) k=y0 at *;clear HL HS;go_wp2_with (first
    | (go_at_call 64;refine Calls.mono HL1.out ?_;rintro e w3 ⟨rfl,hb3⟩))
   go_roundw
   case rel=>exact ⟨k+1,by omega,by go_num,by rw [HS1.out],H1.out.1.below hb3 H1.out.1.lt,H1.out.2.trans (hb3.mono H1.out.2.size)⟩
   case measure=>simp [intOf];omega
  ·obtain rfl:k=33:=by omega
   rw [HLast.out];clear HL HS HLast HFirst;go_wp2
   go_ret
   exact ⟨ret_int HE1.out,H1.out.2⟩
theorem refEnd8_any (x:Bk) (p:Pl) (a:Option Addr) (c:Nat) (xs:List Nat) (w:World) (hx:BIn w x p) (hU:Ul w a xs) (hF:Fit xs) (h0:0<xs.length) (he:endB x xs.length=true) :
  Calls Tryz.prog 65 #[x.val p,.slice a xs.length c] w fun e w'=>e=.returned (.int .u32 ((endN (bOf x) xs:Nat):Int))/\Below w.heap.size w w':=by
 obtain ⟨b,rfl,hb⟩:=hU.addr h0;have ha0:=hx.ok.a0;rcases end_fin he with h|h|h|h
 ·have ht:=end_thn he (by omega);have e:endN (bOf x) xs=inN xs x.thn.toNat:=by simp [endN,bOf,eOf,h]
  rw [e];exact refJump_any x p b c xs w hU ht.1 ht.2 h
 ·have ht:=end_thn he (by omega);have hl:=end_els he h;have e:endN (bOf x) xs=2^x.a.toNat ||| inN xs x.thn.toNat ||| inN xs x.els.toNat:=by simp [endN,bOf,eOf,h]
  rw [e];exact refBranch_any x p b c xs w hU hF ha0 (end_reg he (by omega)) ht.1 ht.2 hl.1 hl.2 h
 ·have e:endN (bOf x) xs=2^x.a.toNat:=by simp [endN,bOf,eOf,h]
  rw [e];exact refHalt_any x p _ w ha0 (end_reg he (by omega)) h
 ·have ht:=end_thn he (by omega);have e:endN (bOf x) xs=2^x.a.toNat ||| loopN (x.body.map wOf) (inN xs x.thn.toNat):=by simp [endN,bOf,eOf,h]
  rw [e];exact refLoop_any x p b c xs w hx.b hU hF ha0 (end_reg he (by omega)) ht.1 ht.2 h
end Go.Proofs.YtcmlnemokckbdaaGreatDoor.L8.Li
