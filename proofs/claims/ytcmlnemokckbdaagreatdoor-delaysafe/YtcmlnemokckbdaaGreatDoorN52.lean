/- Parts Xl Xm QOh. -/
import Derived.Test.YtcmlnemokckbdaaGreatDoorN51
import Derived.BigQuiet
import Derived.Test.YtcmlnemokckbdaaGreatDoorN38
import Derived.ChangeSlices
import Derived.Test.YtcmlnemokckbdaaGreatDoorN00
set_option maxRecDepth 20000
set_option maxHeartbeats 8000000
namespace Go.Proofs.YtcmlnemokckbdaaGreatDoor.L8.El
open Go.ChangeShapes Go.WideShapes Go.ChangeAt Go.RowKit
open YtcmlnemokckbdaaGreatDoor.L8.So YtcmlnemokckbdaaGreatDoor.L8.Op YtcmlnemokckbdaaGreatDoor.L8.Fl YtcmlnemokckbdaaGreatDoor.L8.Li
open YtcmlnemokckbdaaGreatDoor.L8.Lv (inN pow32 IsIn psOk_of)
open YtcmlnemokckbdaaGreatDoor.L8.Sm (Bx Sn In64 NL NewPost' RunPost' D2 Z2 MM ptr Ma runM initM outMem memL Dn NoK)
theorem small_ck {w:World} {ao:Option Addr} {ps:List Bk} (h:PAt w ao ps) (h300:opsN ps<=300):Small ps:=by
 refine small_of h ?_;have h1:ps.length<=opsN ps:=by unfold opsN sumTo;omega
 unfold greatB;simp
 omega
def Ro (w:World) (q:Nat) (ps:List Bk) (T:Nat->Prop) (M':Ma) (E V:Int) (p k:List Int) (S:Int) (e:Ending) (w':World):Prop:=∃ a m c d T',e=.returned (.agg #[.int .i64 E,.int .i64 V,.slice a p.length c,.slice m k.length d,.int .i64 S])/\YtcmlnemokckbdaaGreatDoor.L8.Sm.Own w w' a p/\YtcmlnemokckbdaaGreatDoor.L8.Sm.Own w w' m k/\MM w' q ps T' M'/\YtcmlnemokckbdaaGreatDoor.L8.Sm.Tn w T w' T'/\p.length<=10000/\k.length<=256
theorem ro_of {w:World} {q:Nat} {ps:List Bk} {T:Nat->Prop} {M0:Ma} {f:Nat} {e:Ending} {w':World} (hf:f<=7000) (h0:M0.s=0) (h:YtcmlnemokckbdaaGreatDoor.L8.Sm.RunPost w q ps T (runM ps f M0) e w'):Ro w q ps T (runM ps f M0) (runM ps f M0).e (if (runM ps f M0).e=0 then (runM ps f M0).v else 0) (runM ps f M0).pr (outMem (runM ps f M0)) ((runM ps f M0).s:Int) e w':=by
 obtain ⟨a,m,c,d,T',e1,h1,h2,h3,h4⟩:=YtcmlnemokckbdaaGreatDoor.L8.Sm.run_post' h;refine ⟨a,m,c,d,T',e1,h1,h2,h3,h4,?_,?_⟩
 ·have i1:=h3.inv.p;have i2:=YtcmlnemokckbdaaGreatDoor.L8.Sm.trail_len ps f M0;have i3:=YtcmlnemokckbdaaGreatDoor.L8.Sm.trail_le ps f M0;omega
 ·unfold outMem
  split
  ·rw [_root_.Go.Proofs.YtcmlnemokckbdaaGreatDoor.L8.Sm.memL_len];omega
  ·simp
theorem dn_out {M N:Ma} (h:Dn M N):N.e=M.e/\(if N.e=0 then N.v else 0)=(if M.e=0 then M.v else 0)/\N.pr=M.pr/\outMem N=outMem M:=by
 obtain ⟨h1,h2,h3⟩:=h;refine ⟨h1,?_,h2,?_⟩
 ·rw [h1]
  split
  ·rename_i q;exact (h3 q).1
  ·rfl
 ·unfold outMem;rw [h1]
  split
  ·rename_i q;unfold memL;rw [(h3 q).2]
  ·rfl
theorem safe_main (I:List Nat) (ao ra ma:Option Addr) (cap rc mc:Nat) (ps:List Bk) (rs ms:List Int) (block steps:Int) (w:World) (h:PAt w ao ps) (he:Env w) (hB:YtcmlnemokckbdaaGreatDoor.Tb.Bnds w) (hI:InIs ps I) (hc:ckP ps=0) (h300:opsN ps<=300) (hs:Sn w ra ma rs ms) (h32:rs.length<=32) (h256:ms.length<=256) (hr:∀ x∈rs,In64 x) (hm:∀ x∈ms,In64 x) (hn:earR ps I block≠[]) :
  Calls Tryz.prog 5 #[.agg #[.slice ao ps.length cap],.int .i64 block,.agg #[.slice ra rs.length rc,.slice ma ms.length mc],.int .i64 steps] w fun e w'=>e=.returned (.bool true)/\Below w.heap.size w w':=by
 have hIn:IsIn ps I:=by
  obtain ⟨xs,hx⟩:=isIn_have (psOk_of h) hc;exact hI xs hx ▸ hx
 obtain ⟨k,T,n,hk,hT,rfl,hTH,hne,hn1,hn2,hnl,hkl,hear,hcq,hsim⟩:=safe_facts (psOk_of h) hc h300 hIn (_root_.Go.Proofs.YtcmlnemokckbdaaGreatDoor.L8.Sm.psM_of (_root_.Go.Proofs.YtcmlnemokckbdaaGreatDoor.L8.Sm.psOk_of h) hc) hn rs ms;have HQ:Hid (Bx w ((w.alloc (.cells #[.slice ao ps.length cap] 40)).alloc (.cells #[.slice ra rs.length rc,.slice ma ms.length mc] 50)) ao ps.length cap ra ma rs.length rc ms.length mc):=by
  obtain ⟨a1,a2,hb,-,-⟩:=two_new w #[.slice ao ps.length cap] #[.slice ra rs.length rc,.slice ma ms.length mc] 40 50 (Below.refl _ _);exact ⟨a1,a2,hb⟩
 have HK:Hid (∀ W,Below w.heap.size w W->Calls Tryz.prog 6 #[] W fun e w'=>e=.returned (.bool true)/\Below W.heap.size W w'):=fun W hb=>YtcmlnemokckbdaaGreatDoor.Dl.wakes_any W (hB.below hb hB.big);have HC0:=fun W (hb:Below w.heap.size w W)=>checkP_any ao cap ps W (h.below hb) (he.up hb);rw [hc] at HC0;have HC:Hid _:=HC0;have HO:Hid (∀ W,Below w.heap.size w W->Calls Tryz.prog 14 #[.agg #[.slice ao ps.length cap]] W fun e w'=>e=.returned (.int .i64 ((opsN ps:Nat):Int))/\Below W.heap.size W w'):=fun W hb=>ops_any ao cap ps W (h.below hb) (len_le hc);have HE:Hid (∀ W,Below w.heap.size w W->Calls Tryz.prog 16 #[.agg #[.slice ao ps.length cap],.int .i64 k] W fun e w'=>∃ b c,e=.returned (.slice (some ⟨b,0,none⟩) n c)/\b<w'.heap.size/\w'.cell? ⟨b,0,none⟩=some (.int .i64 0)/\Below W.heap.size W w'):=fun W hb=>(early_all I ao cap ps k W hI (h.below hb) (he.up hb)).mono fun e w' ⟨v,h1,a,c,h2,h3,h4⟩=>by
  rw [hear] at h2 h3;obtain ⟨b,rfl,-,hl,hcl⟩:=h3.is (by simp;omega);refine ⟨b,c,by rw [h1,h2];simp,hl,?_,h4⟩;rw [hcl 0 (by simp;omega)];simp
 have HN1:Hid (∀ W,Below w.heap.size w W->Calls Tryz.prog 19 #[.agg #[.slice ao ps.length cap],.agg #[.slice ra rs.length rc,.slice ma ms.length mc]] W (NewPost' W ps rs ms)):=fun W hb=>YtcmlnemokckbdaaGreatDoor.L8.Sm.new_ok' ao ra ma cap rc mc ps rs ms W (h.below hb) (he.up hb) hc (hs.up hb) h32 h256 hr hm;have hql:(mvL ps k T n ps[k] ps[T]).length=ps.length:=by unfold mvL;simp
 have HMv:Hid (∀ W,Below w.heap.size w W->Calls Tryz.prog 20 #[.agg #[.slice ao ps.length cap],.int .i64 k,.int .i64 n] W fun e w'=>∃ a c,e=.returned (.agg #[.slice a ps.length c])/\PAt w' a (mvL ps k T n ps[k] ps[T])/\Below W.heap.size W w'):=fun W hb=>moved_any ao cap ps k T n W (h.below hb) (small_ck h h300) hk hT hTH hne hn1 hn2 hnl hkl;have HN2:Hid (∀ W a c,Below w.heap.size w W->PAt W a (mvL ps k T n ps[k] ps[T])->Calls Tryz.prog 19 #[.agg #[.slice a ps.length c],.agg #[.slice ra rs.length rc,.slice ma ms.length mc]] W (NewPost' W (mvL ps k T n ps[k] ps[T]) rs ms)):=fun W a c hb hp=>by
  have:=YtcmlnemokckbdaaGreatDoor.L8.Sm.new_ok' a ra ma c rc mc _ rs ms W hp (he.up hb) hcq (hs.up hb) h32 h256 hr hm
  rw [hql] at this;exact this
 obtain ⟨f,hf⟩:∃ f:Nat,min (max steps 0) 2000=(f:Int):=⟨(min (max steps 0) 2000).toNat,by omega⟩;have hf2:f<=2000:=by omega
 have HSim:Hid ((runM ps f (initM rs ms)).e≠100->Dn (runM ps f (initM rs ms)) (runM (mvL ps k T n ps[k] ps[T]) (3*f+10) (initM rs ms))):=fun hx=>hsim f _ (by omega) hx;obtain ⟨pb,pf,rfl,pz,px⟩:=h.is (by omega);obtain ⟨p,hpb,hpi⟩:=px k hk;obtain ⟨p2,hpb2,hpi2⟩:=px T hT;have hol:=hpi2.o.len;have HP:Hid (∀ W,Below w.heap.size w W->W.cell? ⟨pb,pf+k*6+4,none⟩=some (.int .i64 T)/\W.cell? ⟨pb,pf+T*6,none⟩=some (.slice p2.oa ps[T].ops.length p2.oc)/\pb<W.heap.size):=fun W hb=>by
  have h1:=(hpb.below hb pz).c4;rw [hTH] at h1;exact ⟨h1,(hpb2.below hb pz).c0,Nat.lt_of_lt_of_le pz hb.size⟩
 have hll:=h.len;clear h he hB HC0 hc hn hI hIn hear hcq hsim hs hr hm px hpb hpi hpb2 hpi2 hne;generalize hqs:mvL ps k T n ps[k] ps[T]=qs at *;clear hqs;have o1:¬ (300:Int)<((opsN ps:Nat):Int):=by omega
 have o2:¬ (32:Int)<(rs.length:Int):=by omega
 have o3:¬ (256:Int)<(ms.length:Int):=by omega
 have HR1:Hid (∀ W q T,MM W q ps T (initM rs ms)->Calls Tryz.prog 21 #[ptr q,.int .i64 (f:Int)] W (_root_.Go.Proofs.YtcmlnemokckbdaaGreatDoor.L8.Sm.RunPost W q ps T (runM ps f (initM rs ms)))):=fun W q T hm=>by
  have:=YtcmlnemokckbdaaGreatDoor.L8.Sm.run_any (f:Int) hm (by rw [show (initM rs ms).s=0 from rfl];omega)
  rw [show (min (max (f:Int) 0) 1048576).toNat = f by omega] at this;exact this
 have HR2:Hid (∀ W q T,MM W q qs T (initM rs ms)->Calls Tryz.prog 21 #[ptr q,.int .i64 (3*(f:Int)+10)] W (_root_.Go.Proofs.YtcmlnemokckbdaaGreatDoor.L8.Sm.RunPost W q qs T (runM qs (3*f+10) (initM rs ms)))):=fun W q T hm=>by
  have hg:3*f+10<=7000:=by omega
  rw [show (3*(f:Int)+10)=((3*f+10:Nat):Int) by omega];generalize 3*f+10=g at *
  have:=YtcmlnemokckbdaaGreatDoor.L8.Sm.run_any (g:Int) hm (by rw [show (initM rs ms).s=0 from rfl];omega)
  rw [show (min (max (g:Int) 0) 1048576).toNat = g by omega] at this;exact this
 have HO1:Hid (∀ W q T,MM W q ps T (initM rs ms)->Calls Tryz.prog 21 #[ptr q,.int .i64 (f:Int)] W (Ro W q ps T (runM ps f (initM rs ms)) (runM ps f (initM rs ms)).e (if (runM ps f (initM rs ms)).e=0 then (runM ps f (initM rs ms)).v else 0) (runM ps f (initM rs ms)).pr (outMem (runM ps f (initM rs ms))) ((runM ps f (initM rs ms)).s:Int))):=fun W q T hm=>(HR1.out W q T hm).mono fun e w' hh=>ro_of (by omega) rfl hh;have HO2:Hid (∀ W q T,MM W q qs T (initM rs ms)->Calls Tryz.prog 21 #[ptr q,.int .i64 (3*(f:Int)+10)] W (Ro W q qs T (runM qs (3*f+10) (initM rs ms)) (runM qs (3*f+10) (initM rs ms)).e (if (runM qs (3*f+10) (initM rs ms)).e=0 then (runM qs (3*f+10) (initM rs ms)).v else 0) (runM qs (3*f+10) (initM rs ms)).pr (outMem (runM qs (3*f+10) (initM rs ms))) ((runM qs (3*f+10) (initM rs ms)).s:Int))):=fun W q T hm=>(HR2.out W q T hm).mono fun e w' hh=>ro_of (by omega) rfl hh;have HS:Hid ((runM ps f (initM rs ms)).e≠100->_):=fun hx=>dn_out (HSim.out hx);clear HR1 HR2 HSim;generalize hM0:initM rs ms=M0 at *;generalize runM ps f M0=M1 at *;generalize runM qs (3*f+10) M0=M2 at *;generalize (if M1.e=0 then M1.v else 0)=V1 at *;generalize (if M2.e=0 then M2.v else 0)=V2 at *;generalize M1.e=E1 at *;generalize M2.e=E2 at *;generalize (M1.s:Int)=S1 at *;generalize (M2.s:Int)=S2 at *;generalize outMem M1=k1 at *;generalize outMem M2=k2 at *;generalize M1.pr=p1 at *;generalize M2.pr=p2 at *;have HM0:Hid (initM rs ms=M0):=hM0;clear hM0;generalize opsN ps=on at *;generalize rs.length=rl at *;generalize ms.length=ml at *;generalize ps[T].ops.length=tl at *;clear hTH hkl;generalize ps.length=pl at *;have k0:(0:Int)<=(k:Int):=by omega
 have kk1:(k:Int)<(pl:Int):=by omega
 have t0:(0:Int)<=(T:Int):=by omega
 have t1:(T:Int)<(pl:Int):=by omega
 have n1:¬ (n:Int)=0:=by omega
 have n1':((n:Int)==0)=false:=by simpa using n1
 have u1:¬ n=0:=by omega
 have u2:¬ pl<=k:=by omega
 have u3:¬ pl<=T:=by omega
 have u4:¬ tl<n:=by omega
 have u5:¬ (k:Int)<0:=by omega
 have u6:¬ (T:Int)<0:=by omega
 have d2:decide (pl<=k)=false:=decide_eq_false u2;have d3:decide (pl<=T)=false:=decide_eq_false u3;have d4:decide (tl<n)=false:=decide_eq_false u4;have d5:decide ((k:Int)<0)=false:=decide_eq_false u5;have d6:decide ((T:Int)<0)=false:=decide_eq_false u6;have n2:¬ (2:Int)<(n:Int):=by omega
 have n3:¬ (tl:Int)<(n:Int):=by omega
 go_enter Tryz.func5,Tryz.ntmps5;go_upto_region 1 with fail
 generalize (w.alloc (.cells #[.slice (some ⟨pb,pf,none⟩) pl cap] 40)).alloc (.cells #[.slice ra rl rc,.slice ma ml mc] 50)=W0 at *;have c0:=HQ.out.p.c 0 _ rfl;have cl:=HQ.out.p.lt;go_upto_region 11 with (first
  | (go_at_call 13;refine Calls.mono (HC.out _ HQ.out.b) ?_;rintro e w1 ⟨rfl,b1⟩;have H1:Hid _:=HQ.out.up b1;clear b1 HQ HC c0 cl;have c0:=H1.out.p.c 0 _ rfl;have cl:=H1.out.p.lt)
  | (go_at_call 14;refine Calls.mono (HO.out _ H1.out.b) ?_;rintro e w2 ⟨rfl,b2⟩;have H2:Hid _:=H1.out.up b2;clear b2 H1 HO c0 cl;have c0:=H2.out.p.c 0 _ rfl;have cl:=H2.out.p.lt;have s0:=H2.out.s.c 0 _ rfl;have s1:=H2.out.s.c 1 _ rfl;have sl:=H2.out.s.lt)
  | (go_at_call 16;refine Calls.mono (HE.out _ H2.out.b) ?_;rintro e w4 ⟨eb,ec,rfl,el,e0,b4⟩;have H4:Hid _:=H2.out.up b4;clear b4 H2 HE c0 cl s0 s1 sl;have c0:=H4.out.p.c 0 _ rfl;have cl:=H4.out.p.lt;obtain ⟨r4,r0,rz⟩:=HP.out w4 H4.out.b))
 clear e0 el c0 cl r4 r0 rz;have c0:=H4.out.p.c 0 _ rfl;have cl:=H4.out.p.lt;have s0:=H4.out.s.c 0 _ rfl;have s1:=H4.out.s.c 1 _ rfl;have sl:=H4.out.s.lt;go_upto_region 12 with (first
  | (go_at_call 19;refine Calls.mono (HN1.out _ H4.out.b) ?_;rintro e w5 ⟨q1,rfl,hm5,b5,hq5,hk5⟩;rw [HM0.out] at hm5;have H5:Hid (Bx w w5 (some ⟨pb,pf,none⟩) pl cap ra ma rl rc ml mc/\MM w5 q1 ps (_root_.Go.Proofs.YtcmlnemokckbdaaGreatDoor.L8.So.One q1) M0/\NoK w5 q1/\w.heap.size+2<=q1):=⟨H4.out.up b5,hm5,hk5,Nat.le_trans H4.out.s.lt hq5⟩;clear b5 hm5 hk5 hq5 H4 HN1 c0 cl s0 s1 sl))
 have H5d:Hid (Bx w w5.drew (some ⟨pb,pf,none⟩) pl cap ra ma rl rc ml mc/\MM w5.drew q1 ps (_root_.Go.Proofs.YtcmlnemokckbdaaGreatDoor.L8.So.One q1) M0/\NoK w5.drew q1/\w.heap.size+2<=q1):=⟨H5.out.1.up (Below.refl _ _).drew,H5.out.2.1.up (Below.refl _ _).drew,H5.out.2.2.1,H5.out.2.2.2⟩;clear H5;refine wp_region_held_drew (S:=fun W'=>At W' w.heap.size #[.slice (some ⟨pb,pf,none⟩) pl cap]/\At W' (w.heap.size+1) #[.slice ra rl rc,.slice ma ml mc]) (by kernel_rfl) ⟨H5d.out.1.p,H5d.out.1.s⟩ (fun zH=>?_);generalize w5.drew=XD at *;refine wt 0 (.agg #[.slice (some ⟨pb,pf,none⟩) pl cap]) rfl (fun w' hSw=>by (have g0:=hSw.1.c 0 _ rfl;have gl:=hSw.1.lt;clear hSw;go_simp)) zH ?_;simp only [pq];refine wg 1 (.int .i64 (k:Int)) rfl zH ?_;simp only [pq];refine wg 2 (.int .i64 (n:Int)) rfl zH ?_;simp only [pq];refine wt 4 (.agg #[.slice ra rl rc,.slice ma ml mc]) rfl (fun w' hSw=>by (have g0:=hSw.2.c 0 _ rfl;have g1:=hSw.2.c 1 _ rfl;have gl:=hSw.2.lt;clear hSw;go_simp)) zH ?_;simp only [pq];refine wpAnyH_ready (rs:=[3]) (by kernel_rfl) (by simp) ?_;refine AllReadyH.cons rfl (fun K hK=>?_) AllReadyH.nil;go_simp
 refine Calls.mono (HMv.out _ H5d.out.1.b) ?_;rintro e w6 ⟨qa,qc,rfl,hp6,b6⟩;have H6:Hid (Bx w w6 (some ⟨pb,pf,none⟩) pl cap ra ma rl rc ml mc/\MM w6 q1 ps (_root_.Go.Proofs.YtcmlnemokckbdaaGreatDoor.L8.So.One q1) M0/\NoK w6 q1/\w.heap.size+2<=q1/\PAt w6 qa qs):=⟨H5d.out.1.up b6,H5d.out.2.1.up b6,YtcmlnemokckbdaaGreatDoor.L8.Sm.nok_up H5d.out.2.2.1 (H5d.out.2.1.mr.tl q1 rfl) b6,H5d.out.2.2.2,hp6⟩;clear hp6 b6 H5d;refine hK.out _ _ ⟨H6.out.1.p,H6.out.1.s⟩ (fun zH=>?_);clear hK K;refine wpAnyH_ready (rs:=[5]) (by kernel_rfl) (by simp) ?_;refine AllReadyH.cons rfl (fun K hK=>?_) AllReadyH.nil;go_simp
 refine Calls.mono (HN2.out _ _ _ H6.out.1.b H6.out.2.2.2.2) ?_;rintro e w7 ⟨q2,rfl,hm7,b7,hq7,hk7⟩;rw [HM0.out] at hm7;have HD:Hid (D2 w w7 (some ⟨pb,pf,none⟩) pl cap ra ma rl rc ml mc q1 q2 w7.heap.size ps qs (_root_.Go.Proofs.YtcmlnemokckbdaaGreatDoor.L8.So.One q1) M0 M0):=YtcmlnemokckbdaaGreatDoor.L8.Sm.D2.start H6.out.1 H6.out.2.1 H6.out.2.2.1 H6.out.2.2.2.1 b7 hm7 hq7;clear hm7 b7 hq7 hk7 H6;refine hK.out _ _ ⟨HD.out.bx.p,HD.out.bx.s⟩ (fun zH=>?_);clear hK K;refine wg 6 (.tuple #[ptr q2,.int .i64 0]) rfl zH ?_;simp only [pq];refine wg 7 (ptr q2) rfl zH ?_;simp only [pq];refine wg 8 (.int .i64 0) rfl zH ?_;simp only [pq];refine wg 9 (ptr q2) rfl zH ?_;simp only [pq];refine wg 10 (.int .i64 0) rfl zH ?_;simp only [pq];refine wpAnyH_done (by kernel_rfl) ?_ _;clear zH HM0 HMv HN2 HP hf hn1 hn2 hnl h32 h256 h300 o1 o2 o3 n1 n1' u1 u2 u3 u4 u5 u6 d2 d3 d4 d5 d6 n2 n3;go_upto_region 16 with (first
  | (go_at_call 21;refine Calls.mono (HO1.out _ _ _ HD.out.m) ?_;rintro e w8 ⟨a1,m1,c1,e1,T1,rfl,v1,v2,hm8,ht8,hp1,hk1⟩;have HD8:Hid (D2 w w8 (some ⟨pb,pf,none⟩) pl cap ra ma rl rc ml mc q1 q2 w7.heap.size ps qs T1 M1 M0/\YtcmlnemokckbdaaGreatDoor.L8.Sm.Own w7 w8 a1 p1/\YtcmlnemokckbdaaGreatDoor.L8.Sm.Own w7 w8 m1 k1):=⟨HD.out.go hm8 ht8,v1,v2⟩;clear hm8 ht8 v1 v2 HO1 HD))
 have HX:Hid (D2 w (w8.alloc (.cells #[.int .i64 E1,.int .i64 V1,.slice a1 p1.length c1,.slice m1 k1.length e1,.int .i64 S1] 56)) (some ⟨pb,pf,none⟩) pl cap ra ma rl rc ml mc q1 q2 w7.heap.size ps qs T1 M1 M0/\YtcmlnemokckbdaaGreatDoor.L8.Sm.Own w7 (w8.alloc (.cells #[.int .i64 E1,.int .i64 V1,.slice a1 p1.length c1,.slice m1 k1.length e1,.int .i64 S1] 56)) a1 p1/\YtcmlnemokckbdaaGreatDoor.L8.Sm.Own w7 (w8.alloc (.cells #[.int .i64 E1,.int .i64 V1,.slice a1 p1.length c1,.slice m1 k1.length e1,.int .i64 S1] 56)) m1 k1/\At (w8.alloc (.cells #[.int .i64 E1,.int .i64 V1,.slice a1 p1.length c1,.slice m1 k1.length e1,.int .i64 S1] 56)) w8.heap.size #[.int .i64 E1,.int .i64 V1,.slice a1 p1.length c1,.slice m1 k1.length e1,.int .i64 S1]/\w7.heap.size<=w8.heap.size):=by
  have a:Below w8.heap.size w8 (w8.alloc (.cells #[.int .i64 E1,.int .i64 V1,.slice a1 p1.length c1,.slice m1 k1.length e1,.int .i64 S1] 56)):=(Below.refl _ _).alloc (Nat.le_refl _) _;exact ⟨HD8.out.1.up a,HD8.out.2.1.up a,HD8.out.2.2.up a,At.new _ _ _,HD8.out.1.q.2.2.2⟩
 clear HD8;generalize w8.alloc (.cells #[.int .i64 E1,.int .i64 V1,.slice a1 p1.length c1,.slice m1 k1.length e1,.int .i64 S1] 56)=X at *;generalize w8.heap.size=xb at *;have hf0:(0:Int)<=(f:Int):=by omega
 have hfi:(f:Int)<=2000:=by omega
 go_upto_region 17 with (first
  | (go_at_call 21;refine Calls.mono (HO2.out _ _ _ HX.out.1.n') ?_;rintro e w9 ⟨a2,m2,c2,e2,T2,rfl,v3,v4,hm9,ht9,hp2,hk2⟩;have HZ:Hid (Z2 w (w9.alloc (.cells #[.int .i64 E2,.int .i64 V2,.slice a2 p2.length c2,.slice m2 k2.length e2,.int .i64 S2] 56)) (some ⟨pb,pf,none⟩) pl cap ra ma rl rc ml mc xb w9.heap.size #[.int .i64 E1,.int .i64 V1,.slice a1 p1.length c1,.slice m1 k1.length e1,.int .i64 S1] #[.int .i64 E2,.int .i64 V2,.slice a2 p2.length c2,.slice m2 k2.length e2,.int .i64 S2] a1 m1 a2 m2 p1 k1 p2 k2):=YtcmlnemokckbdaaGreatDoor.L8.Sm.D2.both HX.out.1 (Nat.le_refl _) HX.out.2.1 HX.out.2.2.1 HX.out.2.2.2.1 HX.out.2.2.2.2 ht9 v3 v4;clear hm9 ht9 v3 v4 HO2 HX hp2 hk2))
 generalize w9.alloc (.cells #[.int .i64 E2,.int .i64 V2,.slice a2 p2.length c2,.slice m2 k2.length e2,.int .i64 S2] 56)=Y at *;generalize w9.heap.size=yb at *;have x0:=HZ.out.x1.c 0 _ rfl;have xl:=HZ.out.x1.lt
 by_cases hE:E1=100
 ·subst hE;go_wp2_with (first
   | (go_at_call 6;refine Calls.mono (HK.out _ HZ.out.bx.b) ?_;rintro e w10 ⟨rfl,b10⟩;have HF:Hid (Below w.heap.size w w10):=HZ.out.bx.b.trans (b10.mono HZ.out.bx.b.size);clear b10 HK HZ x0 xl))
  go_ret
  exact ⟨rfl,HF.out⟩
 ·obtain ⟨rfl,rfl,rfl,rfl⟩:=HS.out hE;have hE':(E2==100)=false:=by simpa using hE
  have x1:=HZ.out.x1.c 1 _ rfl;have x2:=HZ.out.x1.c 2 _ rfl;have x3:=HZ.out.x1.c 3 _ rfl;have y0:=HZ.out.x2.c 0 _ rfl;have y1:=HZ.out.x2.c 1 _ rfl;have y2:=HZ.out.x2.c 2 _ rfl;have y3:=HZ.out.x2.c 3 _ rfl;have yl:=HZ.out.x2.lt;have hpi:(p2.length:Int)<=10000:=by omega
  have hki:(k2.length:Int)<=256:=by omega
  go_wp2_with fail
  clear x0 x1 x2 x3 xl y0 y1 y2 y3 yl
  go_loopw [19] (fun i wr=>∃ j:Nat,j<=p2.length/\i=.int .i64 j/\Z2 w wr (some ⟨pb,pf,none⟩) pl cap ra ma rl rc ml mc xb yb #[.int .i64 E2,.int .i64 V2,.slice a1 p2.length c1,.slice m1 k2.length e1,.int .i64 S1] #[.int .i64 E2,.int .i64 V2,.slice a2 p2.length c2,.slice m2 k2.length e2,.int .i64 S2] a1 m1 a2 m2 p2 k2 p2 k2) (fun i _=>p2.length-(intOf i).toNat)
  case atStart=>exact ⟨0,by omega,rfl,HZ.out⟩
  case round=>
   rename_i wr;obtain ⟨j,hj,rfl,hz⟩:=hrel;have HZ:Hid (Z2 w wr (some ⟨pb,pf,none⟩) pl cap ra ma rl rc ml mc xb yb #[.int .i64 E2,.int .i64 V2,.slice a1 p2.length c1,.slice m1 k2.length e1,.int .i64 S1] #[.int .i64 E2,.int .i64 V2,.slice a2 p2.length c2,.slice m2 k2.length e2,.int .i64 S2] a1 m1 a2 m2 p2 k2 p2 k2):=hz;have g1:=hz.x1.c 2 _ rfl;have gl1:=hz.x1.lt;have g2:=hz.x2.c 2 _ rfl;have gl2:=hz.x2.lt
   by_cases hlt:j<p2.length
   ·obtain ⟨b1,f1,rfl,z1,i1⟩:=hz.a1.is (by omega);obtain ⟨b2,f2,rfl,z2,i2⟩:=hz.a2.is (by omega);have r1:=i1 j hlt;have r2:=i2 j hlt;have hji:(j:Int)<(p2.length:Int):=by omega
    have hj0:(0:Int)<=(j:Int):=by omega
    clear i1 i2 hz;generalize p2[j]=vv at *;go_wp2_with fail
    go_quiet (fail)
    go_wp2_with fail
    go_roundw
    case rel=>exact ⟨j+1,by omega,by go_num,HZ.out.up (drewN_below (Below.refl _ _) _)⟩
    case measure=>simp [intOf];omega
   ·obtain rfl:j=p2.length:=by omega
    clear hz;go_wp2_with fail
    clear g1 g2 gl1 gl2
    go_loopw [20] (fun i wr=>∃ j:Nat,j<=k2.length/\i=.int .i64 j/\Z2 w wr (some ⟨pb,pf,none⟩) pl cap ra ma rl rc ml mc xb yb #[.int .i64 E2,.int .i64 V2,.slice a1 p2.length c1,.slice m1 k2.length e1,.int .i64 S1] #[.int .i64 E2,.int .i64 V2,.slice a2 p2.length c2,.slice m2 k2.length e2,.int .i64 S2] a1 m1 a2 m2 p2 k2 p2 k2) (fun i _=>k2.length-(intOf i).toNat)
    case atStart=>exact ⟨0,by omega,rfl,HZ.out⟩
    case round=>
     rename_i wr;obtain ⟨j,hj,rfl,hz⟩:=hrel;have HZ:Hid (Z2 w wr (some ⟨pb,pf,none⟩) pl cap ra ma rl rc ml mc xb yb #[.int .i64 E2,.int .i64 V2,.slice a1 p2.length c1,.slice m1 k2.length e1,.int .i64 S1] #[.int .i64 E2,.int .i64 V2,.slice a2 p2.length c2,.slice m2 k2.length e2,.int .i64 S2] a1 m1 a2 m2 p2 k2 p2 k2):=hz;have g1:=hz.x1.c 3 _ rfl;have gl1:=hz.x1.lt;have g2:=hz.x2.c 3 _ rfl;have gl2:=hz.x2.lt
     by_cases hlt:j<k2.length
     ·obtain ⟨b1,f1,rfl,z1,i1⟩:=hz.m1.is (by omega);obtain ⟨b2,f2,rfl,z2,i2⟩:=hz.m2.is (by omega);have r1:=i1 j hlt;have r2:=i2 j hlt;have hji:(j:Int)<(k2.length:Int):=by omega
      have hj0:(0:Int)<=(j:Int):=by omega
      clear i1 i2 hz;generalize k2[j]=vv at *;go_wp2_with fail
      go_quiet (fail)
      go_wp2_with fail
      go_roundw
      case rel=>exact ⟨j+1,by omega,by go_num,HZ.out.up (drewN_below (Below.refl _ _) _)⟩
      case measure=>simp [intOf];omega
     ·obtain rfl:j=k2.length:=by omega
      clear hz;go_wp2_with (first
       | (go_at_call 6;refine Calls.mono (HK.out _ HZ.out.bx.b) ?_;rintro e w10 ⟨rfl,b10⟩;have HF:Hid (Below w.heap.size w w10):=HZ.out.bx.b.trans (b10.mono HZ.out.bx.b.size);clear b10 HK HZ g1 g2 gl1 gl2))
      go_ret
      exact ⟨rfl,HF.out⟩
end Go.Proofs.YtcmlnemokckbdaaGreatDoor.L8.El
namespace Go.Proofs.YtcmlnemokckbdaaGreatDoor.L8.El
open Go.ChangeShapes Go.WideShapes Go.ChangeAt Go.RowKit
open YtcmlnemokckbdaaGreatDoor.L8.So YtcmlnemokckbdaaGreatDoor.L8.Op YtcmlnemokckbdaaGreatDoor.L8.Fl YtcmlnemokckbdaaGreatDoor.L8.Li
open YtcmlnemokckbdaaGreatDoor.L8.Lv (psOk_of)
open YtcmlnemokckbdaaGreatDoor.L8.Sm (Sn In64)
theorem law_safe (ao ra ma:Option Addr) (cap rc mc:Nat) (ps:List Bk) (rs ms:List Int) (block steps:Int) (w:World) (h:PAt w ao ps) (he:Env w) (hB:YtcmlnemokckbdaaGreatDoor.Tb.Bnds w) (hs:Sn w ra ma rs ms) (hr:∀ x∈rs,In64 x) (hm:∀ x∈ms,In64 x) :
  Calls Tryz.prog 5 #[.agg #[.slice ao ps.length cap],.int .i64 block,.agg #[.slice ra rs.length rc,.slice ma ms.length mc],.int .i64 steps] w fun e w'=>e=.returned (.bool true)/\Below w.heap.size w w':=by
 obtain ⟨I,hI⟩:=in_ex (psOk_of h)
 by_cases hn:ckP ps≠0\/300<opsN ps\/32<rs.length\/256<ms.length
 ·exact safe_no ao ra ma cap rc mc ps rs ms block steps w h he hB hn
 ·have hc:ckP ps=0:=Classical.byContradiction fun q=>hn (.inl q)
  by_cases hl:earR ps I block=[]
  ·exact safe_none I ao ra ma cap rc mc ps rs ms block steps w h he hB hI hc (by omega) (by omega) (by omega) hl
  ·exact safe_main I ao ra ma cap rc mc ps rs ms block steps w h he hB hI hc (by omega) hs (by omega) (by omega) hr hm hl
end Go.Proofs.YtcmlnemokckbdaaGreatDoor.L8.El
namespace Go.Proofs.YtcmlnemokckbdaaGreatDoor.L8.Sm
open Go.ChangeShapes Go.WideShapes Go.ChangeAt Go.RowKit
open YtcmlnemokckbdaaGreatDoor.L8.Op YtcmlnemokckbdaaGreatDoor.L8.So
open YtcmlnemokckbdaaGreatDoor.Op (wf64)
theorem cell_spot {w:World} {a:Addr} {v:Value} (h:w.cell? a=some v):a=⟨a.block,a.off,none⟩:=by
 obtain ⟨b,f,s⟩:=a
 cases s with
 | none=>rfl
 | some s=>
  unfold World.cell? at h
  split at h
  ·simp at h
  ·cases h
theorem open_nums {H:Type} {enc:TypeId×Value->H} {W:World} {fuel:Nat} {held:Bool} {c:Value} {y:DataW H×List MemPlace} (h:DataW.trod enc Tryz.prog W 0 (fun _=>true) held fuel 48 [c]=some y) :
  ∃ (ao:Option Addr) (cap:Nat) (l:List Int),c=.slice ao l.length cap/\NL W ao l/\(∀ x∈l,In64 x):=by
 rcases open_ints (P:=Tryz.prog) Tryz.underlying48 Tryz.underlying2 (by kernel_rfl) h with ⟨e,-⟩|⟨a,len,cap,zs,e,-,hl,hc,hz,-,hcell,hwf⟩
 ·exact ⟨none,0,[],by simpa using e,⟨fun h=>by simp at h⟩,fun x hx=>by simp at hx⟩
 ·have hz:zs.length=cap:=by simpa using hz
  refine ⟨some a,cap,zs.take len,by simp at e;rw [e];congr;simp;omega,⟨fun h0=>?_⟩,fun x hx=>?_⟩
  ·have hlen:0<len:=by simp at h0;omega
   have h1:=hcell 0 (by omega);rw [show a.add 0=a by unfold Addr.add;simp] at h1;have ha:=cell_spot h1;refine ⟨a.block,a.off,by rw [<- ha],World.block_lt_of_cell? W a h1,fun i hi=>?_⟩;have hi':i<zs.length:=by simp at hi;omega
   have h2:=hcell i hi';rw [ha,add_at'] at h2;rw [h2];simp [List.getD,List.getElem?_eq_getElem hi']
  ·have:=wf64 (hwf x (List.mem_of_mem_take hx))
   exact this
theorem open_state {H:Type} {enc:TypeId×Value->H} {W:World} {r:Reach} {b0:Nat} {held:Bool} {v:Value} {d:DataW H} {p:List MemPlace} (hv:Value.okWide Tryz.prog W r b0 50 v) (h:DataW.Trod enc Tryz.prog W 0 (fun _=>true) held 50 v d p) :
  ∃ (ra ma:Option Addr) (rc mc:Nat) (rs ms:List Int),v=.agg #[.slice ra rs.length rc,.slice ma ms.length mc]/\Sn W ra ma rs ms/\(∀ x∈rs,In64 x)/\(∀ x∈ms,In64 x):=by
 obtain ⟨cs,rfl,hsz⟩:=okWide_struct Tryz.underlying50 hv;have k27:Tryz.prog.cellsOf 50=2:=by kernel_rfl
 have k25:Tryz.prog.cellsOf 48=1:=by kernel_rfl
 rw [k27] at hsz;obtain ⟨l⟩:=cs;clear hv
 match l,hsz with
 | [c0,c1],_=>
  obtain ⟨fuel,hf⟩:=h;obtain ⟨xs,n,_,hx,_,hlen,hff⟩:=DataW.trod_struct Tryz.underlying50 hf
  match xs,hlen with
  | [y0,y1],_=>
   have h0:DataW.trod enc Tryz.prog W 0 (fun _=>true) held n 48 ((([c0,c1]:List Value).drop 0).take (Tryz.prog.cellsOf 48))=some y0:=hff 0 _ rfl;have h1:DataW.trod enc Tryz.prog W 0 (fun _=>true) held n 48 ((([c0,c1]:List Value).drop 1).take (Tryz.prog.cellsOf 48))=some y1:=hff 1 _ rfl;rw [k25] at h0 h1;obtain ⟨ra,rc,rs,e0,n0,i0⟩:=open_nums (c:=c0) h0;obtain ⟨ma,mc,ms,e1,n1,i1⟩:=open_nums (c:=c1) h1;subst e0 e1;exact ⟨ra,ma,rc,mc,rs,ms,rfl,⟨n0,n1⟩,i0,i1⟩
end Go.Proofs.YtcmlnemokckbdaaGreatDoor.L8.Sm
