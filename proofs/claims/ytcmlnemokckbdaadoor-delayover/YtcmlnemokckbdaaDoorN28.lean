/- Parts Jh. -/
import Derived.Test.YtcmlnemokckbdaaDoorN27
import Derived.OwnWalk
set_option maxRecDepth 20000
set_option maxHeartbeats 32000000
namespace Go.Proofs.YtcmlnemokckbdaaDoor.Dl
open Go.ChangeShapes Go.WideShapes Go.ChangeAt Go.RowKit Go.Great
open YtcmlnemokckbdaaDoor.Op YtcmlnemokckbdaaDoor.So YtcmlnemokckbdaaDoor.Dp YtcmlnemokckbdaaDoor.Ls
open YtcmlnemokckbdaaDoor.Tb (Tab TabAt Bnds)
theorem over_ok1 (x:Bk) (p:Pl) (t:Tab) (w:World) (h:OpsAt w p.oa x.ops) (hcap:x.ops.length<=p.oc) (hx:x.Ok) (hG:Bnds w) (hn:x.ops.length<=60) (hli:lisE t x.ops=0) (hhv:hvU t x.ops=true) (he:erI t x x.ops.length (cyL t x.ops)=0) (hfin:x.fin=1) :
  Calls Tryd.prog 3 #[x.val p,t.val] w fun e w'=>e=.returned (.bool true)/\Below w.heap.size w w':=by
 have ha0:=hx.a0;obtain ⟨hok,hu3,hen,hck⟩:=er_parts he;obtain ⟨_,_,_,hrg⟩:=ck_parts hck;obtain ⟨_,_,hal⟩:=lis_all hli;have hkp:kpE (ofE t x.ops) (cyL t x.ops)=true:=by
  unfold ckB at hck;simp only [Bool.and_eq_true] at hck;exact hck.2.1.2
 have HW:Hid (∀ W,Below w.heap.size w W->Calls Tryd.prog 4 #[] W fun e w'=>e=.returned (.bool true)/\Below W.heap.size W w'):=fun W hb=>wakes_any W (hG.below hb hG.big);have HS:Hid (Rf w ((w.alloc (.cells (x.cells p) 25)).alloc (.cells t.cells 28)) t x p):=rf_new w t x p;have HC:Hid (∀ W,Below w.heap.size w W->Calls Tryd.prog 5 #[.slice p.oa x.ops.length p.oc,.agg #[.int .i64 (t.u 0),.int .i64 (t.u 1),.int .i64 (t.u 2),.int .i64 (t.u 3),.int .i64 (t.l 0),.int .i64 (t.l 1),.int .i64 (t.l 2),.int .i64 (t.l 3),.int .i64 (t.b 0),.int .i64 (t.b 1),.int .i64 (t.b 2),.int .i64 (t.b 3),.int .i64 t.d]] W (HtOut W x.ops.length (cyL t x.ops))):=fun W hb=>cycles_ok p.oa p.oc x.ops t W (h.below hb) hcap (hG.below hb hG.big) hli hhv;have HE:Hid (∀ W hb,Below w.heap.size w W->Ir W hb x.ops.length (cyL t x.ops)->Calls Tryd.prog 6 #[.agg #[.slice p.oa x.ops.length p.oc,.int .i8 x.fin,.int .u8 x.a,.slice p.ba x.body.length p.bc,.int .i64 x.thn,.int .i64 x.els],.agg #[.int .i64 (t.u 0),.int .i64 (t.u 1),.int .i64 (t.u 2),.int .i64 (t.u 3),.int .i64 (t.l 0),.int .i64 (t.l 1),.int .i64 (t.l 2),.int .i64 (t.l 3),.int .i64 (t.b 0),.int .i64 (t.b 1),.int .i64 (t.b 2),.int .i64 (t.b 3),.int .i64 t.d],.slice (some ⟨hb,0,none⟩) x.ops.length x.ops.length] W fun e w'=>e=.returned (.tuple #[.int .i64 (atI t x (cyL t x.ops)),.int .i64 (loI t x (cyL t x.ops)),.int .i64 0])/\Below W.heap.size W w'):=fun W hb hu hi=>by
  have:=end_any x p t (some ⟨hb,0,none⟩) x.ops.length x.ops.length (cyL t x.ops) W (h.below hu) hcap (cy_nl h.ok hli hhv hi) (Nat.le_trans h.len (by decide)) (hG.below hu hG.big) ha0
  rw [if_pos he,if_pos he,he] at this;exact this
 have HT:Hid (∀ k,k<4->(1<=t.l k/\t.l k<=8)/\1<=t.b k/\t.b k<=4):=fun k hk=>⟨Tb.inB_iff ((Tb.ok_parts hok).2 k hk).2.1,Tb.inB_iff ((Tb.ok_parts hok).2 k hk).2.2⟩;have hdi:=Tb.inB_iff (Tb.ok_parts hok).1;have hbi:=Tb.inB_iff ((Tb.ok_parts hok).2 3 (by decide)).2.2;have HRg:Hid (∀ k,k<x.ops.length->0<=cyL t x.ops k/\cyL t x.ops k<=65536):=hrg;have HO:Hid (OpsAt w p.oa x.ops):=h;have HAl:Hid (∀ o∈x.ops,okL o=true):=hal;have HDr:Hid (∀ i,i<x.ops.length->laI t x.ops (cyL t x.ops) i<=drI t x.ops (cyL t x.ops) x.ops.length/\frI t x.ops (cyL t x.ops) i<=drI t x.ops (cyL t x.ops) x.ops.length/\laI t x.ops (cyL t x.ops) i<=rsI t x.ops (cyL t x.ops) x.ops.length):=fun i hi=>dr_last _ i hi;have HLs:Hid (∀ (i:Nat) (hi:i<x.ops.length),x.ops[i].op<=15->x.ops[i].d=(x.a.toNat : Nat)->laI t x.ops (cyL t x.ops) i<=lnI t x.ops (cyL t x.ops) x.ops.length x.a.toNat):=fun i hi h15 hd=>ln_last hkp h.ok hal x.a.toNat _ (Nat.le_refl _) i hi hi h15 hd;obtain ⟨hD,hRs,hLn⟩:=dr_in (g:=cyL t x.ops) (xs:=x.ops) hok hrg x.ops.length (Nat.le_refl _);have hLa:=hLn x.a.toNat;have hle:leI t=max 0 (t.b 3-1-t.d):=rfl;obtain ⟨aT,haT⟩:∃ v,atI t x (cyL t x.ops)=v:=⟨_,rfl⟩;obtain ⟨nN,hnN⟩:∃ v,loI t x (cyL t x.ops)=v:=⟨_,rfl⟩;rw [haT,hnN] at HE;have haT2:aT=tuL (max (leI t) (lnI t x.ops (cyL t x.ops) x.ops.length x.a.toNat)) (drI t x.ops (cyL t x.ops) x.ops.length) t.d-1-t.d:=by rw [<- haT];unfold atI;rw [if_neg (by omega),if_pos hfin]
 have hnN2:nN=tuL (max (leI t) (lnI t x.ops (cyL t x.ops) x.ops.length x.a.toNat)) (drI t x.ops (cyL t x.ops) x.ops.length) t.d:=by rw [<- hnN];unfold loI;rw [if_neg (by omega),if_pos hfin]
 have hge:max 0 (t.b 3-1-t.d)<=aT/\nN=aT+1+t.d/\aT<=100000/\drI t x.ops (cyL t x.ops) x.ops.length<=nN/\lnI t x.ops (cyL t x.ops) x.ops.length x.a.toNat<=aT:=by unfold tuL at haT2 hnN2;omega
 have HGe:Hid (max 0 (t.b 3-1-t.d)<=aT/\nN=aT+1+t.d/\0<=aT/\aT<=100000):=⟨hge.1,hge.2.1,by omega,hge.2.2.1⟩;have hdn:=hge.2.2.2.1;have hdm:=hge.2.2.2.2;clear hge haT2 hnN2;have HFr:Hid (∀ (i:Nat) (hi:i<x.ops.length),cyL t x.ops i+max (t.l (clD x.ops[i].op)) (t.b (clD x.ops[i].op))<=nN):=fun i hi=>by
  have a1:=HDr.out i hi;unfold laI frI at a1;rw [oAt_at hi] at a1;omega
 have HWr:Hid (∀ (i:Nat) (hi:i<x.ops.length),x.ops[i].op<=15->x.ops[i].d=x.a->cyL t x.ops i+t.l (clD x.ops[i].op)<=aT):=fun i hi h15 hd=>by
  have a1:=HLs.out i hi h15 (by rw [hd];omega);unfold laI at a1;rw [oAt_at hi] at a1;omega
 have hn':¬ (60:Int)<(x.ops.length:Int):=by omega
 have hn60:(x.ops.length:Int)<=60:=by omega
 clear hG hn h hcap hli hhv he hck hrg hal hkp hen hu3 hok HDr HLs hD hRs hLn hLa haT hnN hx hle hdn hdm;obtain ⟨ops,fin,xa,body,thn,els⟩:=x;obtain ⟨poa,poc,pba,pbc⟩:=p;simp only at hfin ha0 hn' hn60
 dsimp only at HC HE HO HAl HRg HFr HWr;subst hfin;unfold Tab.val;go_enter Tryd.func3,Tryd.ntmps3;go_upto_region 1 with fail
 generalize hW0:(w.alloc (.cells ((⟨ops,1,xa,body,thn,els⟩:Bk).cells ⟨poa,poc,pba,pbc⟩) 25)).alloc (.cells t.cells 28)=W0 at *;clear hW0;have qu0:=HS.out.t.cu 0 (by decide);have qu1:=HS.out.t.cu 1 (by decide);have qu2:=HS.out.t.cu 2 (by decide);have qu3:=HS.out.t.cu 3 (by decide);have ql0:=HS.out.t.cl 0 (by decide);have ql1:=HS.out.t.cl 1 (by decide);have ql2:=HS.out.t.cl 2 (by decide);have ql3:=HS.out.t.cl 3 (by decide);have qb0:=HS.out.t.cb 0 (by decide);have qb1:=HS.out.t.cb 1 (by decide);have qb2:=HS.out.t.cb 2 (by decide);have qb3:=HS.out.t.cb 3 (by decide);have qd:=HS.out.t.cd;have ql:=HS.out.t.lt;have e0:=HS.out.b.c 0 _ rfl;have e1:=HS.out.b.c 1 _ rfl;have e2:=HS.out.b.c 2 _ rfl;have e3:=HS.out.b.c 3 _ rfl;have e4:=HS.out.b.c 4 _ rfl;have e5:=HS.out.b.c 5 _ rfl;have el:=HS.out.b.lt;go_upto_region 9 with (first
  | (go_at_call 5;refine Calls.mono (HC.out _ HS.out.up) ?_;rintro e w1 ⟨hb,rfl,hi,_,hb1⟩;have HX:Hid (Lv w w1 t ⟨ops,1,xa,body,thn,els⟩ ⟨poa,poc,pba,pbc⟩ hb ops.length (cyL t ops)):=⟨HS.out.next hb1,hi⟩;clear hb1 hi HS HC qu0 qu1 qu2 qu3 ql0 ql1 ql2 ql3 qb0 qb1 qb2 qb3 qd ql e0 e1 e2 e3 e4 e5 el;have qu0:=HX.out.r.t.cu 0 (by decide);have qu1:=HX.out.r.t.cu 1 (by decide);have qu2:=HX.out.r.t.cu 2 (by decide);have qu3:=HX.out.r.t.cu 3 (by decide);have ql0:=HX.out.r.t.cl 0 (by decide);have ql1:=HX.out.r.t.cl 1 (by decide);have ql2:=HX.out.r.t.cl 2 (by decide);have ql3:=HX.out.r.t.cl 3 (by decide);have qb0:=HX.out.r.t.cb 0 (by decide);have qb1:=HX.out.r.t.cb 1 (by decide);have qb2:=HX.out.r.t.cb 2 (by decide);have qb3:=HX.out.r.t.cb 3 (by decide);have qd:=HX.out.r.t.cd;have ql:=HX.out.r.t.lt;have e0:=HX.out.r.b.c 0 _ rfl;have e1:=HX.out.r.b.c 1 _ rfl;have e2:=HX.out.r.b.c 2 _ rfl;have e3:=HX.out.r.b.c 3 _ rfl;have e4:=HX.out.r.b.c 4 _ rfl;have e5:=HX.out.r.b.c 5 _ rfl;have el:=HX.out.r.b.lt)
  | (go_at_call 6;refine Calls.mono (HE.out _ _ HX.out.r.up HX.out.c) ?_;rintro e w2 ⟨rfl,hb2⟩;have HY:Hid (Lv w w2 t ⟨ops,1,xa,body,thn,els⟩ ⟨poa,poc,pba,pbc⟩ hb ops.length (cyL t ops)):=HX.out.next hb2;clear hb2 HX HE qu0 qu1 qu2 qu3 ql0 ql1 ql2 ql3 qb0 qb1 qb2 qb3 qd ql e0 e1 e2 e3 e4 e5 el))
 rename World=>w2;have e1:=HY.out.r.b.c 1 _ rfl;have el:=HY.out.r.b.lt;go_wp2_with fail
 clear e1 el
 go_loopw [11] (fun v wr=>∃ k:Nat,k<=ops.length/\v=.int .i64 k/\Lv w wr t ⟨ops,1,xa,body,thn,els⟩ ⟨poa,poc,pba,pbc⟩ hb ops.length (cyL t ops)) (fun v _=>ops.length-(intOf v).toNat)
 case atStart=>exact ⟨0,by omega,rfl,HY.out⟩
 case round=>
  rename World=>wr;obtain ⟨k,hk,rfl,hs⟩:=hrel;have HQ:Hid (Lv w wr t ⟨ops,1,xa,body,thn,els⟩ ⟨poa,poc,pba,pbc⟩ hb ops.length (cyL t ops)):=hs;clear hs HY;have e0:=HQ.out.r.b.c 0 _ rfl;have e1:=HQ.out.r.b.c 1 _ rfl;have el:=HQ.out.r.b.lt
  by_cases hlt:k<ops.length
  ·have k0:(0:Int)<=(k:Int):=by omega
   have k1:(k:Int)<(ops.length:Int):=by omega
   obtain ⟨b,f,rfl,hz2,hx⟩:=(HO.out.below HQ.out.r.up).is (by show 0<ops.length;omega);have q:=hx k hlt;obtain ⟨q0,q1,q2,q3,q4⟩:=q;have hop:=HO.out.ok _ (List.getElem_mem hlt);have hol:=HAl.out _ (List.getElem_mem hlt);have HCl:Hid (∀ W,Calls Tryd.prog 7 #[.int .i8 ops[k].op] W fun e w'=>e=.returned (.tuple #[.int .i64 (clD ops[k].op:Int),.bool (clB ops[k].op)])/\Below W.heap.size W w'):=fun W=>by
    rw [<- clV_D hol];exact class_any _ W hop.op0 hop.op1
   have HWt:Hid (∀ W,Calls Tryd.prog 8 #[.agg #[.int .i8 ops[k].op,.int .u8 ops[k].d,.int .u8 ops[k].a,.int .u8 ops[k].b,.int .i64 ops[k].im]] W fun e w'=>e=.returned (.tuple #[.int .u8 (wrD ops[k]),.bool (wrB ops[k])])/\Below W.heap.size W w'):=fun W=>Op.writes_any ops[k] W hop;have hfr:=HFr.out k hlt;have HWk:Hid (wrB ops[k]=true->wrD ops[k]=xa->cyL t ops k+t.l (clD ops[k].op)<=aT):=fun h1 h2=>by
    rw [wrB_L hol] at h1;have h15:ops[k].op<=15:=by simpa using h1
    refine HWr.out k hlt h15 ?_;rw [<- h2];unfold wrD;rw [wrB_L hol,if_pos h1]
   have hgk:=HRg.out k hlt;have cg:=HQ.out.c.c k hlt;have cgl:=HQ.out.c.lt;clear hx hop hol;obtain ⟨c,hc⟩:∃ c,clD ops[k].op=c:=⟨_,rfl⟩;have c4:c<4:=by rw [<- hc];exact clD_lt _
   have htc:=HT.out c c4;simp only [hc] at HCl hfr HWk;clear hc;generalize hob:wrB ops[k]=wb at *;generalize hod:wrD ops[k]=wd at *;generalize clB ops[k].op=cb at *;clear hob hod;generalize ops[k]=o at *;obtain ⟨oo,od,oa,ob',oi⟩:=o;generalize hgg:cyL t ops k=gk at *;obtain ⟨lc,hlc⟩:∃ d,t.l c=d:=⟨_,rfl⟩;obtain ⟨bc,hbc⟩:∃ d,t.b c=d:=⟨_,rfl⟩;have HL:Hid (t.l c=lc/\t.b c=bc):=⟨hlc,hbc⟩;simp only [hlc,hbc] at hfr HWk htc;clear hlc hbc;have HU:Hid (∀ W,Below wr.heap.size wr W->Lv w W t ⟨ops,1,xa,body,thn,els⟩ ⟨some ⟨b,f,none⟩,poc,pba,pbc⟩ hb ops.length (cyL t ops)/\OAt W b (f+k*5) ⟨oo,od,oa,ob',oi⟩/\W.cell? ⟨hb,k,none⟩=some (.int .i64 gk)):=fun W hbw=>⟨HQ.out.next hbw,(⟨q0,q1,q2,q3,q4⟩:OAt wr b (f+k*5) ⟨oo,od,oa,ob',oi⟩).below hbw hz2,by rw [(bcell hbw).1 _ _ cgl];exact cg⟩;have c0:(0:Int)<=(c:Int):=by omega
   have c3:(c:Int)<4:=by omega
   have w1:IntKind.i64.wrap (gk+lc)=gk+lc:=by rw [IntKind.wrap_i64];omega
   have w2':IntKind.i64.wrap (gk+max lc bc)=gk+max lc bc:=by rw [IntKind.wrap_i64];omega
   go_upto_region 14 with (first
    | (go_at_call 7;refine Calls.mono (HCl.out _) ?_;rintro e w4 ⟨rfl,hb4⟩;have HV:Hid (Below wr.heap.size wr w4):=hb4;clear hb4 HCl q0 q1 q2 q3 q4 e0 e1 el cg cgl;obtain ⟨v1,v2,v3⟩:=HU.out _ HV.out;have tl:=v1.r.t.cl c c4;have tb:=v1.r.t.cb c c4;rw [HL.out.1] at tl;rw [HL.out.2] at tb;have tlt:=v1.r.t.lt;have cl:=v1.c.lt;clear v1 v2))
   go_quiet (fail)
   rename World=>w4;have HV2:Hid (Below wr.heap.size wr (w4.drewN nq)):=HV.out.trans ((drewN_dl _ _).mono HV.out.size);generalize w4.drewN nq=Y at *;clear v3 tl tb tlt cl HV;obtain ⟨v1,v2,v3⟩:=HU.out _ HV2.out;have e0:=v1.r.b.c 0 _ rfl;have e1:=v1.r.b.c 1 _ rfl;have el:=v1.r.b.lt;obtain ⟨q0,q1,q2,q3,q4⟩:=v2;clear v1 v3;go_upto_region 18 with (first
    | (go_at_call 8;refine Calls.mono (HWt.out _) ?_;rintro e w5 ⟨rfl,hb5⟩;have HV3:Hid (Below wr.heap.size wr w5):=HV2.out.trans (hb5.mono HV2.out.size);clear hb5 HWt HV2 q0 q1 q2 q3 q4 e0 e1 el))
   rename World=>w5;obtain ⟨v1,v2,v3⟩:=HU.out _ HV3.out;have e1:=v1.r.b.c 1 _ rfl;have e2:=v1.r.b.c 2 _ rfl;have el:=v1.r.b.lt;have tl:=v1.r.t.cl c c4;rw [HL.out.1] at tl;have tlt:=v1.r.t.lt;have cl:=v1.c.lt;have HN:Hid (Lv w w5 t ⟨ops,1,xa,body,thn,els⟩ ⟨some ⟨b,f,none⟩,poc,pba,pbc⟩ hb ops.length (cyL t ops)):=v1;clear v1 v2 HU HV3;have hfb:¬ nN<gk+max lc bc:=by omega
   cases wb
   ·clear HWk;go_quiet (fail)
    rename World=>wz;have HN2:Hid (Lv w (wz.drewN nq) t ⟨ops,1,xa,body,thn,els⟩ ⟨some ⟨b,f,none⟩,poc,pba,pbc⟩ hb ops.length (cyL t ops)):=HN.out.next (drewN_dl _ _);go_wp2_with fail
    go_roundw
    case rel=>exact ⟨k+1,by omega,by go_num,HN2.out⟩
    case measure=>simp [intOf];omega
   ·by_cases hwd:wd=xa
    ·have hlw:¬ aT<gk+lc:=by have:=HWk.out rfl hwd;omega
     clear HWk;have hwb:(wd==xa)=true:=by simpa using hwd
     clear hwd;go_quiet (fail)
     rename World=>wz;have HN2:Hid (Lv w (wz.drewN nq) t ⟨ops,1,xa,body,thn,els⟩ ⟨some ⟨b,f,none⟩,poc,pba,pbc⟩ hb ops.length (cyL t ops)):=HN.out.next (drewN_dl _ _);go_wp2_with fail
     go_roundw
     case rel=>exact ⟨k+1,by omega,by go_num,HN2.out⟩
     case measure=>simp [intOf];omega
    ·have hwb:(wd==xa)=false:=by simpa using hwd
     clear HWk hwd;go_quiet (fail)
     rename World=>wz;have HN2:Hid (Lv w (wz.drewN nq) t ⟨ops,1,xa,body,thn,els⟩ ⟨some ⟨b,f,none⟩,poc,pba,pbc⟩ hb ops.length (cyL t ops)):=HN.out.next (drewN_dl _ _);go_wp2_with fail
     go_roundw
     case rel=>exact ⟨k+1,by omega,by go_num,HN2.out⟩
     case measure=>simp [intOf];omega
  ·obtain rfl:k=ops.length:=by omega
   have k1:¬ (ops.length:Int)<(ops.length:Int):=by omega
   have tb3:=HQ.out.r.t.cb 3 (by decide);have td:=HQ.out.r.t.cd;have tlt:=HQ.out.r.t.lt;have w6:IntKind.i64.wrap (t.b 3-1)=t.b 3-1:=by rw [IntKind.wrap_i64];omega
   have w7:IntKind.i64.wrap (t.b 3-1-t.d)=t.b 3-1-t.d:=by rw [IntKind.wrap_i64];omega
   have x1:=HGe.out.1;have x2:(nN==aT+1+t.d)=true:=by have:=HGe.out.2.1;simpa using this
   have x3:=HGe.out.2.2;have w8:IntKind.i64.wrap (aT+1)=aT+1:=by rw [IntKind.wrap_i64];omega
   have w9:IntKind.i64.wrap (aT+1+t.d)=aT+1+t.d:=by rw [IntKind.wrap_i64];omega
   clear x3;go_wp2_with (first
    | (go_at_call 4;refine Calls.mono (HW.out _ HQ.out.r.up) ?_;rintro e w3 ⟨rfl,hb3⟩;have HZ:Hid (Below w.heap.size w w3):=HQ.out.r.up.trans (hb3.mono HQ.out.r.up.size);clear hb3 HW))
   go_ret
   exact ⟨rfl,HZ.out⟩
theorem over_ok2 (x:Bk) (p:Pl) (t:Tab) (w:World) (h:OpsAt w p.oa x.ops) (hcap:x.ops.length<=p.oc) (hx:x.Ok) (hG:Bnds w) (hn:x.ops.length<=60) (hli:lisE t x.ops=0) (hhv:hvU t x.ops=true) (he:erI t x x.ops.length (cyL t x.ops)=0) (hfin:x.fin=2) :
  Calls Tryd.prog 3 #[x.val p,t.val] w fun e w'=>e=.returned (.bool true)/\Below w.heap.size w w':=by
 have ha0:=hx.a0;obtain ⟨hok,hu3,hen,hck⟩:=er_parts he;obtain ⟨_,_,_,hrg⟩:=ck_parts hck;obtain ⟨_,_,hal⟩:=lis_all hli;have hkp:kpE (ofE t x.ops) (cyL t x.ops)=true:=by
  unfold ckB at hck;simp only [Bool.and_eq_true] at hck;exact hck.2.1.2
 have HW:Hid (∀ W,Below w.heap.size w W->Calls Tryd.prog 4 #[] W fun e w'=>e=.returned (.bool true)/\Below W.heap.size W w'):=fun W hb=>wakes_any W (hG.below hb hG.big);have HS:Hid (Rf w ((w.alloc (.cells (x.cells p) 25)).alloc (.cells t.cells 28)) t x p):=rf_new w t x p;have HC:Hid (∀ W,Below w.heap.size w W->Calls Tryd.prog 5 #[.slice p.oa x.ops.length p.oc,.agg #[.int .i64 (t.u 0),.int .i64 (t.u 1),.int .i64 (t.u 2),.int .i64 (t.u 3),.int .i64 (t.l 0),.int .i64 (t.l 1),.int .i64 (t.l 2),.int .i64 (t.l 3),.int .i64 (t.b 0),.int .i64 (t.b 1),.int .i64 (t.b 2),.int .i64 (t.b 3),.int .i64 t.d]] W (HtOut W x.ops.length (cyL t x.ops))):=fun W hb=>cycles_ok p.oa p.oc x.ops t W (h.below hb) hcap (hG.below hb hG.big) hli hhv;have HE:Hid (∀ W hb,Below w.heap.size w W->Ir W hb x.ops.length (cyL t x.ops)->Calls Tryd.prog 6 #[.agg #[.slice p.oa x.ops.length p.oc,.int .i8 x.fin,.int .u8 x.a,.slice p.ba x.body.length p.bc,.int .i64 x.thn,.int .i64 x.els],.agg #[.int .i64 (t.u 0),.int .i64 (t.u 1),.int .i64 (t.u 2),.int .i64 (t.u 3),.int .i64 (t.l 0),.int .i64 (t.l 1),.int .i64 (t.l 2),.int .i64 (t.l 3),.int .i64 (t.b 0),.int .i64 (t.b 1),.int .i64 (t.b 2),.int .i64 (t.b 3),.int .i64 t.d],.slice (some ⟨hb,0,none⟩) x.ops.length x.ops.length] W fun e w'=>e=.returned (.tuple #[.int .i64 (atI t x (cyL t x.ops)),.int .i64 (loI t x (cyL t x.ops)),.int .i64 0])/\Below W.heap.size W w'):=fun W hb hu hi=>by
  have:=end_any x p t (some ⟨hb,0,none⟩) x.ops.length x.ops.length (cyL t x.ops) W (h.below hu) hcap (cy_nl h.ok hli hhv hi) (Nat.le_trans h.len (by decide)) (hG.below hu hG.big) ha0
  rw [if_pos he,if_pos he,he] at this;exact this
 have HT:Hid (∀ k,k<4->(1<=t.l k/\t.l k<=8)/\1<=t.b k/\t.b k<=4):=fun k hk=>⟨Tb.inB_iff ((Tb.ok_parts hok).2 k hk).2.1,Tb.inB_iff ((Tb.ok_parts hok).2 k hk).2.2⟩;have hdi:=Tb.inB_iff (Tb.ok_parts hok).1;have hbi:=Tb.inB_iff ((Tb.ok_parts hok).2 3 (by decide)).2.2;have HRg:Hid (∀ k,k<x.ops.length->0<=cyL t x.ops k/\cyL t x.ops k<=65536):=hrg;have HO:Hid (OpsAt w p.oa x.ops):=h;have HAl:Hid (∀ o∈x.ops,okL o=true):=hal;have HDr:Hid (∀ i,i<x.ops.length->laI t x.ops (cyL t x.ops) i<=drI t x.ops (cyL t x.ops) x.ops.length/\frI t x.ops (cyL t x.ops) i<=drI t x.ops (cyL t x.ops) x.ops.length/\laI t x.ops (cyL t x.ops) i<=rsI t x.ops (cyL t x.ops) x.ops.length):=fun i hi=>dr_last _ i hi;have HLs:Hid (∀ (i:Nat) (hi:i<x.ops.length),x.ops[i].op<=15->x.ops[i].d=(x.a.toNat : Nat)->laI t x.ops (cyL t x.ops) i<=lnI t x.ops (cyL t x.ops) x.ops.length x.a.toNat):=fun i hi h15 hd=>ln_last hkp h.ok hal x.a.toNat _ (Nat.le_refl _) i hi hi h15 hd;obtain ⟨hD,hRs,hLn⟩:=dr_in (g:=cyL t x.ops) (xs:=x.ops) hok hrg x.ops.length (Nat.le_refl _);have hLa:=hLn x.a.toNat;have hle:leI t=max 0 (t.b 3-1-t.d):=rfl;obtain ⟨aT,haT⟩:∃ v,atI t x (cyL t x.ops)=v:=⟨_,rfl⟩;obtain ⟨nN,hnN⟩:∃ v,loI t x (cyL t x.ops)=v:=⟨_,rfl⟩;rw [haT,hnN] at HE;have haT2:aT=max (leI t) (rsI t x.ops (cyL t x.ops) x.ops.length):=by rw [<- haT];unfold atI;rw [if_neg (by omega),if_neg (by omega),if_pos hfin]
 have hnN2:nN=max (leI t) (rsI t x.ops (cyL t x.ops) x.ops.length)+1:=by rw [<- hnN];unfold loI;rw [if_neg (by omega),if_neg (by omega),if_pos hfin]
 have hge:max 0 (t.b 3-1-t.d)<=aT/\nN=aT+1/\aT<=100000/\rsI t x.ops (cyL t x.ops) x.ops.length<=aT:=by omega
 have HGe:Hid (max 0 (t.b 3-1-t.d)<=aT/\nN=aT+1/\0<=aT/\aT<=100000):=⟨hge.1,hge.2.1,by omega,hge.2.2.1⟩;have hdn:=hge.2.2.2;clear hge haT2 hnN2;have HFr:Hid (∀ (i:Nat) (hi:i<x.ops.length),cyL t x.ops i+t.l (clD x.ops[i].op)<=aT):=fun i hi=>by
  have a1:=HDr.out i hi;unfold laI frI at a1;rw [oAt_at hi] at a1;omega
 have HWr:Hid (∀ (i:Nat) (hi:i<x.ops.length),x.ops[i].op<=15->x.ops[i].d=x.a->cyL t x.ops i+t.l (clD x.ops[i].op)<=aT):=fun i hi h15 hd=>by
  have a1:=HDr.out i hi;unfold laI at a1;rw [oAt_at hi] at a1;omega
 have hn':¬ (60:Int)<(x.ops.length:Int):=by omega
 have hn60:(x.ops.length:Int)<=60:=by omega
 clear hG hn h hcap hli hhv he hck hrg hal hkp hen hu3 hok HDr HLs hD hRs hLn hLa haT hnN hx hle hdn;obtain ⟨ops,fin,xa,body,thn,els⟩:=x;obtain ⟨poa,poc,pba,pbc⟩:=p;simp only at hfin ha0 hn' hn60
 dsimp only at HC HE HO HAl HRg HFr HWr;subst hfin;unfold Tab.val;go_enter Tryd.func3,Tryd.ntmps3;go_upto_region 1 with fail
 generalize hW0:(w.alloc (.cells ((⟨ops,2,xa,body,thn,els⟩:Bk).cells ⟨poa,poc,pba,pbc⟩) 25)).alloc (.cells t.cells 28)=W0 at *;clear hW0;have qu0:=HS.out.t.cu 0 (by decide);have qu1:=HS.out.t.cu 1 (by decide);have qu2:=HS.out.t.cu 2 (by decide);have qu3:=HS.out.t.cu 3 (by decide);have ql0:=HS.out.t.cl 0 (by decide);have ql1:=HS.out.t.cl 1 (by decide);have ql2:=HS.out.t.cl 2 (by decide);have ql3:=HS.out.t.cl 3 (by decide);have qb0:=HS.out.t.cb 0 (by decide);have qb1:=HS.out.t.cb 1 (by decide);have qb2:=HS.out.t.cb 2 (by decide);have qb3:=HS.out.t.cb 3 (by decide);have qd:=HS.out.t.cd;have ql:=HS.out.t.lt;have e0:=HS.out.b.c 0 _ rfl;have e1:=HS.out.b.c 1 _ rfl;have e2:=HS.out.b.c 2 _ rfl;have e3:=HS.out.b.c 3 _ rfl;have e4:=HS.out.b.c 4 _ rfl;have e5:=HS.out.b.c 5 _ rfl;have el:=HS.out.b.lt;go_upto_region 9 with (first
  | (go_at_call 5;refine Calls.mono (HC.out _ HS.out.up) ?_;rintro e w1 ⟨hb,rfl,hi,_,hb1⟩;have HX:Hid (Lv w w1 t ⟨ops,2,xa,body,thn,els⟩ ⟨poa,poc,pba,pbc⟩ hb ops.length (cyL t ops)):=⟨HS.out.next hb1,hi⟩;clear hb1 hi HS HC qu0 qu1 qu2 qu3 ql0 ql1 ql2 ql3 qb0 qb1 qb2 qb3 qd ql e0 e1 e2 e3 e4 e5 el;have qu0:=HX.out.r.t.cu 0 (by decide);have qu1:=HX.out.r.t.cu 1 (by decide);have qu2:=HX.out.r.t.cu 2 (by decide);have qu3:=HX.out.r.t.cu 3 (by decide);have ql0:=HX.out.r.t.cl 0 (by decide);have ql1:=HX.out.r.t.cl 1 (by decide);have ql2:=HX.out.r.t.cl 2 (by decide);have ql3:=HX.out.r.t.cl 3 (by decide);have qb0:=HX.out.r.t.cb 0 (by decide);have qb1:=HX.out.r.t.cb 1 (by decide);have qb2:=HX.out.r.t.cb 2 (by decide);have qb3:=HX.out.r.t.cb 3 (by decide);have qd:=HX.out.r.t.cd;have ql:=HX.out.r.t.lt;have e0:=HX.out.r.b.c 0 _ rfl;have e1:=HX.out.r.b.c 1 _ rfl;have e2:=HX.out.r.b.c 2 _ rfl;have e3:=HX.out.r.b.c 3 _ rfl;have e4:=HX.out.r.b.c 4 _ rfl;have e5:=HX.out.r.b.c 5 _ rfl;have el:=HX.out.r.b.lt)
  | (go_at_call 6;refine Calls.mono (HE.out _ _ HX.out.r.up HX.out.c) ?_;rintro e w2 ⟨rfl,hb2⟩;have HY:Hid (Lv w w2 t ⟨ops,2,xa,body,thn,els⟩ ⟨poa,poc,pba,pbc⟩ hb ops.length (cyL t ops)):=HX.out.next hb2;clear hb2 HX HE qu0 qu1 qu2 qu3 ql0 ql1 ql2 ql3 qb0 qb1 qb2 qb3 qd ql e0 e1 e2 e3 e4 e5 el))
 rename World=>w2;have e1:=HY.out.r.b.c 1 _ rfl;have el:=HY.out.r.b.lt;go_wp2_with fail
 clear e1 el
 go_loopw [11] (fun v wr=>∃ k:Nat,k<=ops.length/\v=.int .i64 k/\Lv w wr t ⟨ops,2,xa,body,thn,els⟩ ⟨poa,poc,pba,pbc⟩ hb ops.length (cyL t ops)) (fun v _=>ops.length-(intOf v).toNat)
 case atStart=>exact ⟨0,by omega,rfl,HY.out⟩
 case round=>
  rename World=>wr;obtain ⟨k,hk,rfl,hs⟩:=hrel;have HQ:Hid (Lv w wr t ⟨ops,2,xa,body,thn,els⟩ ⟨poa,poc,pba,pbc⟩ hb ops.length (cyL t ops)):=hs;clear hs HY;have e0:=HQ.out.r.b.c 0 _ rfl;have e1:=HQ.out.r.b.c 1 _ rfl;have el:=HQ.out.r.b.lt
  by_cases hlt:k<ops.length
  ·have k0:(0:Int)<=(k:Int):=by omega
   have k1:(k:Int)<(ops.length:Int):=by omega
   obtain ⟨b,f,rfl,hz2,hx⟩:=(HO.out.below HQ.out.r.up).is (by show 0<ops.length;omega);have q:=hx k hlt;obtain ⟨q0,q1,q2,q3,q4⟩:=q;have hop:=HO.out.ok _ (List.getElem_mem hlt);have hol:=HAl.out _ (List.getElem_mem hlt);have HCl:Hid (∀ W,Calls Tryd.prog 7 #[.int .i8 ops[k].op] W fun e w'=>e=.returned (.tuple #[.int .i64 (clD ops[k].op:Int),.bool (clB ops[k].op)])/\Below W.heap.size W w'):=fun W=>by
    rw [<- clV_D hol];exact class_any _ W hop.op0 hop.op1
   have HWt:Hid (∀ W,Calls Tryd.prog 8 #[.agg #[.int .i8 ops[k].op,.int .u8 ops[k].d,.int .u8 ops[k].a,.int .u8 ops[k].b,.int .i64 ops[k].im]] W fun e w'=>e=.returned (.tuple #[.int .u8 (wrD ops[k]),.bool (wrB ops[k])])/\Below W.heap.size W w'):=fun W=>Op.writes_any ops[k] W hop;have hfr:=HFr.out k hlt;have HWk:Hid (wrB ops[k]=true->wrD ops[k]=xa->cyL t ops k+t.l (clD ops[k].op)<=aT):=fun h1 h2=>by
    rw [wrB_L hol] at h1;have h15:ops[k].op<=15:=by simpa using h1
    refine HWr.out k hlt h15 ?_;rw [<- h2];unfold wrD;rw [wrB_L hol,if_pos h1]
   have hgk:=HRg.out k hlt;have cg:=HQ.out.c.c k hlt;have cgl:=HQ.out.c.lt;clear hx hop hol;obtain ⟨c,hc⟩:∃ c,clD ops[k].op=c:=⟨_,rfl⟩;have c4:c<4:=by rw [<- hc];exact clD_lt _
   have htc:=HT.out c c4;simp only [hc] at HCl hfr HWk;clear hc;generalize hob:wrB ops[k]=wb at *;generalize hod:wrD ops[k]=wd at *;generalize clB ops[k].op=cb at *;clear hob hod;generalize ops[k]=o at *;obtain ⟨oo,od,oa,ob',oi⟩:=o;generalize hgg:cyL t ops k=gk at *;obtain ⟨lc,hlc⟩:∃ d,t.l c=d:=⟨_,rfl⟩;obtain ⟨bc,hbc⟩:∃ d,t.b c=d:=⟨_,rfl⟩;have HL:Hid (t.l c=lc/\t.b c=bc):=⟨hlc,hbc⟩;simp only [hlc,hbc] at hfr HWk htc;clear hlc hbc;have HU:Hid (∀ W,Below wr.heap.size wr W->Lv w W t ⟨ops,2,xa,body,thn,els⟩ ⟨some ⟨b,f,none⟩,poc,pba,pbc⟩ hb ops.length (cyL t ops)/\OAt W b (f+k*5) ⟨oo,od,oa,ob',oi⟩/\W.cell? ⟨hb,k,none⟩=some (.int .i64 gk)):=fun W hbw=>⟨HQ.out.next hbw,(⟨q0,q1,q2,q3,q4⟩:OAt wr b (f+k*5) ⟨oo,od,oa,ob',oi⟩).below hbw hz2,by rw [(bcell hbw).1 _ _ cgl];exact cg⟩;have c0:(0:Int)<=(c:Int):=by omega
   have c3:(c:Int)<4:=by omega
   have w1:IntKind.i64.wrap (gk+lc)=gk+lc:=by rw [IntKind.wrap_i64];omega
   have w2':IntKind.i64.wrap (gk+max lc bc)=gk+max lc bc:=by rw [IntKind.wrap_i64];omega
   go_upto_region 14 with (first
    | (go_at_call 7;refine Calls.mono (HCl.out _) ?_;rintro e w4 ⟨rfl,hb4⟩;have HV:Hid (Below wr.heap.size wr w4):=hb4;clear hb4 HCl q0 q1 q2 q3 q4 e0 e1 el cg cgl;obtain ⟨v1,v2,v3⟩:=HU.out _ HV.out;have tl:=v1.r.t.cl c c4;have tb:=v1.r.t.cb c c4;rw [HL.out.1] at tl;rw [HL.out.2] at tb;have tlt:=v1.r.t.lt;have cl:=v1.c.lt;clear v1 v2))
   go_quiet (fail)
   rename World=>w4;have HV2:Hid (Below wr.heap.size wr (w4.drewN nq)):=HV.out.trans ((drewN_dl _ _).mono HV.out.size);generalize w4.drewN nq=Y at *;clear v3 tl tb tlt cl HV;obtain ⟨v1,v2,v3⟩:=HU.out _ HV2.out;have e0:=v1.r.b.c 0 _ rfl;have e1:=v1.r.b.c 1 _ rfl;have el:=v1.r.b.lt;obtain ⟨q0,q1,q2,q3,q4⟩:=v2;have tl:=v1.r.t.cl c c4;rw [HL.out.1] at tl;have tlt:=v1.r.t.lt;have cl:=v1.c.lt;clear v1;go_upto_region 16 with fail
   go_quiet (fail)
   have HV4:Hid (Below wr.heap.size wr (Y.drewN nq)):=HV2.out.trans ((drewN_dl _ _).mono HV2.out.size);generalize Y.drewN nq=Y2 at *;clear v3 tl tlt cl HV2 q0 q1 q2 q3 q4 e0 e1 el;have HV2:Hid (Below wr.heap.size wr Y2):=HV4.out;clear HV4;obtain ⟨v1,v2,v3⟩:=HU.out _ HV2.out;have e0:=v1.r.b.c 0 _ rfl;have e1:=v1.r.b.c 1 _ rfl;have el:=v1.r.b.lt;obtain ⟨q0,q1,q2,q3,q4⟩:=v2;clear v1 v3;go_upto_region 18 with (first
    | (go_at_call 8;refine Calls.mono (HWt.out _) ?_;rintro e w5 ⟨rfl,hb5⟩;have HV3:Hid (Below wr.heap.size wr w5):=HV2.out.trans (hb5.mono HV2.out.size);clear hb5 HWt HV2 q0 q1 q2 q3 q4 e0 e1 el))
   rename World=>w5;obtain ⟨v1,v2,v3⟩:=HU.out _ HV3.out;have e1:=v1.r.b.c 1 _ rfl;have e2:=v1.r.b.c 2 _ rfl;have el:=v1.r.b.lt;have tl:=v1.r.t.cl c c4;rw [HL.out.1] at tl;have tlt:=v1.r.t.lt;have cl:=v1.c.lt;have HN:Hid (Lv w w5 t ⟨ops,2,xa,body,thn,els⟩ ⟨some ⟨b,f,none⟩,poc,pba,pbc⟩ hb ops.length (cyL t ops)):=v1;clear v1 v2 HU HV3;have hfb:¬ aT<gk+lc:=by omega
   cases wb
   ·clear HWk;go_quiet (fail)
    rename World=>wz;have HN2:Hid (Lv w (wz.drewN nq) t ⟨ops,2,xa,body,thn,els⟩ ⟨some ⟨b,f,none⟩,poc,pba,pbc⟩ hb ops.length (cyL t ops)):=HN.out.next (drewN_dl _ _);go_wp2_with fail
    go_roundw
    case rel=>exact ⟨k+1,by omega,by go_num,HN2.out⟩
    case measure=>simp [intOf];omega
   ·by_cases hwd:wd=xa
    ·clear HWk;have hwb:(wd==xa)=true:=by simpa using hwd
     clear hwd;go_quiet (fail)
     rename World=>wz;have HN2:Hid (Lv w (wz.drewN nq) t ⟨ops,2,xa,body,thn,els⟩ ⟨some ⟨b,f,none⟩,poc,pba,pbc⟩ hb ops.length (cyL t ops)):=HN.out.next (drewN_dl _ _);go_wp2_with fail
     go_roundw
     case rel=>exact ⟨k+1,by omega,by go_num,HN2.out⟩
     case measure=>simp [intOf];omega
    ·have hwb:(wd==xa)=false:=by simpa using hwd
     clear HWk hwd;go_quiet (fail)
     rename World=>wz;have HN2:Hid (Lv w (wz.drewN nq) t ⟨ops,2,xa,body,thn,els⟩ ⟨some ⟨b,f,none⟩,poc,pba,pbc⟩ hb ops.length (cyL t ops)):=HN.out.next (drewN_dl _ _);go_wp2_with fail
     go_roundw
     case rel=>exact ⟨k+1,by omega,by go_num,HN2.out⟩
     case measure=>simp [intOf];omega
  ·obtain rfl:k=ops.length:=by omega
   have k1:¬ (ops.length:Int)<(ops.length:Int):=by omega
   have tb3:=HQ.out.r.t.cb 3 (by decide);have td:=HQ.out.r.t.cd;have tlt:=HQ.out.r.t.lt;have w6:IntKind.i64.wrap (t.b 3-1)=t.b 3-1:=by rw [IntKind.wrap_i64];omega
   have w7:IntKind.i64.wrap (t.b 3-1-t.d)=t.b 3-1-t.d:=by rw [IntKind.wrap_i64];omega
   have x1:=HGe.out.1;have x2:(nN==aT+1)=true:=by have:=HGe.out.2.1;simpa using this
   have x3:=HGe.out.2.2;have w8:IntKind.i64.wrap (aT+1)=aT+1:=by rw [IntKind.wrap_i64];omega
   clear x3;go_wp2_with (first
    | (go_at_call 4;refine Calls.mono (HW.out _ HQ.out.r.up) ?_;rintro e w3 ⟨rfl,hb3⟩;have HZ:Hid (Below w.heap.size w w3):=HQ.out.r.up.trans (hb3.mono HQ.out.r.up.size);clear hb3 HW))
   go_ret
   exact ⟨rfl,HZ.out⟩
theorem over_ok3 (x:Bk) (p:Pl) (t:Tab) (w:World) (h:OpsAt w p.oa x.ops) (hcap:x.ops.length<=p.oc) (hx:x.Ok) (hG:Bnds w) (hn:x.ops.length<=60) (hli:lisE t x.ops=0) (hhv:hvU t x.ops=true) (he:erI t x x.ops.length (cyL t x.ops)=0) (hfin:x.fin=3) :
  Calls Tryd.prog 3 #[x.val p,t.val] w fun e w'=>e=.returned (.bool true)/\Below w.heap.size w w':=by
 have ha0:=hx.a0;obtain ⟨hok,hu3,hen,hck⟩:=er_parts he;obtain ⟨_,_,_,hrg⟩:=ck_parts hck;obtain ⟨_,_,hal⟩:=lis_all hli;have hkp:kpE (ofE t x.ops) (cyL t x.ops)=true:=by
  unfold ckB at hck;simp only [Bool.and_eq_true] at hck;exact hck.2.1.2
 have HW:Hid (∀ W,Below w.heap.size w W->Calls Tryd.prog 4 #[] W fun e w'=>e=.returned (.bool true)/\Below W.heap.size W w'):=fun W hb=>wakes_any W (hG.below hb hG.big);have HS:Hid (Rf w ((w.alloc (.cells (x.cells p) 25)).alloc (.cells t.cells 28)) t x p):=rf_new w t x p;have HC:Hid (∀ W,Below w.heap.size w W->Calls Tryd.prog 5 #[.slice p.oa x.ops.length p.oc,.agg #[.int .i64 (t.u 0),.int .i64 (t.u 1),.int .i64 (t.u 2),.int .i64 (t.u 3),.int .i64 (t.l 0),.int .i64 (t.l 1),.int .i64 (t.l 2),.int .i64 (t.l 3),.int .i64 (t.b 0),.int .i64 (t.b 1),.int .i64 (t.b 2),.int .i64 (t.b 3),.int .i64 t.d]] W (HtOut W x.ops.length (cyL t x.ops))):=fun W hb=>cycles_ok p.oa p.oc x.ops t W (h.below hb) hcap (hG.below hb hG.big) hli hhv;have HE:Hid (∀ W hb,Below w.heap.size w W->Ir W hb x.ops.length (cyL t x.ops)->Calls Tryd.prog 6 #[.agg #[.slice p.oa x.ops.length p.oc,.int .i8 x.fin,.int .u8 x.a,.slice p.ba x.body.length p.bc,.int .i64 x.thn,.int .i64 x.els],.agg #[.int .i64 (t.u 0),.int .i64 (t.u 1),.int .i64 (t.u 2),.int .i64 (t.u 3),.int .i64 (t.l 0),.int .i64 (t.l 1),.int .i64 (t.l 2),.int .i64 (t.l 3),.int .i64 (t.b 0),.int .i64 (t.b 1),.int .i64 (t.b 2),.int .i64 (t.b 3),.int .i64 t.d],.slice (some ⟨hb,0,none⟩) x.ops.length x.ops.length] W fun e w'=>e=.returned (.tuple #[.int .i64 (atI t x (cyL t x.ops)),.int .i64 (loI t x (cyL t x.ops)),.int .i64 0])/\Below W.heap.size W w'):=fun W hb hu hi=>by
  have:=end_any x p t (some ⟨hb,0,none⟩) x.ops.length x.ops.length (cyL t x.ops) W (h.below hu) hcap (cy_nl h.ok hli hhv hi) (Nat.le_trans h.len (by decide)) (hG.below hu hG.big) ha0
  rw [if_pos he,if_pos he,he] at this;exact this
 have HT:Hid (∀ k,k<4->(1<=t.l k/\t.l k<=8)/\1<=t.b k/\t.b k<=4):=fun k hk=>⟨Tb.inB_iff ((Tb.ok_parts hok).2 k hk).2.1,Tb.inB_iff ((Tb.ok_parts hok).2 k hk).2.2⟩;have hdi:=Tb.inB_iff (Tb.ok_parts hok).1;have hbi:=Tb.inB_iff ((Tb.ok_parts hok).2 3 (by decide)).2.2;have HRg:Hid (∀ k,k<x.ops.length->0<=cyL t x.ops k/\cyL t x.ops k<=65536):=hrg;have HO:Hid (OpsAt w p.oa x.ops):=h;have HAl:Hid (∀ o∈x.ops,okL o=true):=hal;have HDr:Hid (∀ i,i<x.ops.length->laI t x.ops (cyL t x.ops) i<=drI t x.ops (cyL t x.ops) x.ops.length/\frI t x.ops (cyL t x.ops) i<=drI t x.ops (cyL t x.ops) x.ops.length/\laI t x.ops (cyL t x.ops) i<=rsI t x.ops (cyL t x.ops) x.ops.length):=fun i hi=>dr_last _ i hi;have HLs:Hid (∀ (i:Nat) (hi:i<x.ops.length),x.ops[i].op<=15->x.ops[i].d=(x.a.toNat : Nat)->laI t x.ops (cyL t x.ops) i<=lnI t x.ops (cyL t x.ops) x.ops.length x.a.toNat):=fun i hi h15 hd=>ln_last hkp h.ok hal x.a.toNat _ (Nat.le_refl _) i hi hi h15 hd;obtain ⟨hD,hRs,hLn⟩:=dr_in (g:=cyL t x.ops) (xs:=x.ops) hok hrg x.ops.length (Nat.le_refl _);have hLa:=hLn x.a.toNat;have hle:leI t=max 0 (t.b 3-1-t.d):=rfl;obtain ⟨aT,haT⟩:∃ v,atI t x (cyL t x.ops)=v:=⟨_,rfl⟩;obtain ⟨nN,hnN⟩:∃ v,loI t x (cyL t x.ops)=v:=⟨_,rfl⟩;rw [haT,hnN] at HE;have haT2:aT = -1:=by rw [<- haT];unfold atI;rw [if_neg (by omega),if_neg (by omega),if_neg (by omega)]
 have hnN2:nN=drI t x.ops (cyL t x.ops) x.ops.length:=by rw [<- hnN];unfold loI;rw [if_neg (by omega),if_neg (by omega),if_neg (by omega)]
 have HGe:Hid (aT = -1):=haT2;have hdn:drI t x.ops (cyL t x.ops) x.ops.length<=nN:=by omega
 clear haT2 hnN2;have HFr:Hid (∀ (i:Nat) (hi:i<x.ops.length),cyL t x.ops i+max (t.l (clD x.ops[i].op)) (t.b (clD x.ops[i].op))<=nN):=fun i hi=>by
  have a1:=HDr.out i hi;unfold laI frI at a1;rw [oAt_at hi] at a1;omega
 have HWr:Hid (∀ (i:Nat) (hi:i<x.ops.length),x.ops[i].op<=15->x.ops[i].d=x.a->True):=fun i hi h15 hd=>by
  trivial
 have hn':¬ (60:Int)<(x.ops.length:Int):=by omega
 have hn60:(x.ops.length:Int)<=60:=by omega
 clear hG hn h hcap hli hhv he hck hrg hal hkp hen hu3 hok HDr HLs hD hRs hLn hLa haT hnN hx hle hdn;obtain ⟨ops,fin,xa,body,thn,els⟩:=x;obtain ⟨poa,poc,pba,pbc⟩:=p;simp only at hfin ha0 hn' hn60
 dsimp only at HC HE HO HAl HRg HFr HWr;subst hfin;unfold Tab.val;go_enter Tryd.func3,Tryd.ntmps3;go_upto_region 1 with fail
 generalize hW0:(w.alloc (.cells ((⟨ops,3,xa,body,thn,els⟩:Bk).cells ⟨poa,poc,pba,pbc⟩) 25)).alloc (.cells t.cells 28)=W0 at *;clear hW0;have qu0:=HS.out.t.cu 0 (by decide);have qu1:=HS.out.t.cu 1 (by decide);have qu2:=HS.out.t.cu 2 (by decide);have qu3:=HS.out.t.cu 3 (by decide);have ql0:=HS.out.t.cl 0 (by decide);have ql1:=HS.out.t.cl 1 (by decide);have ql2:=HS.out.t.cl 2 (by decide);have ql3:=HS.out.t.cl 3 (by decide);have qb0:=HS.out.t.cb 0 (by decide);have qb1:=HS.out.t.cb 1 (by decide);have qb2:=HS.out.t.cb 2 (by decide);have qb3:=HS.out.t.cb 3 (by decide);have qd:=HS.out.t.cd;have ql:=HS.out.t.lt;have e0:=HS.out.b.c 0 _ rfl;have e1:=HS.out.b.c 1 _ rfl;have e2:=HS.out.b.c 2 _ rfl;have e3:=HS.out.b.c 3 _ rfl;have e4:=HS.out.b.c 4 _ rfl;have e5:=HS.out.b.c 5 _ rfl;have el:=HS.out.b.lt;go_upto_region 9 with (first
  | (go_at_call 5;refine Calls.mono (HC.out _ HS.out.up) ?_;rintro e w1 ⟨hb,rfl,hi,_,hb1⟩;have HX:Hid (Lv w w1 t ⟨ops,3,xa,body,thn,els⟩ ⟨poa,poc,pba,pbc⟩ hb ops.length (cyL t ops)):=⟨HS.out.next hb1,hi⟩;clear hb1 hi HS HC qu0 qu1 qu2 qu3 ql0 ql1 ql2 ql3 qb0 qb1 qb2 qb3 qd ql e0 e1 e2 e3 e4 e5 el;have qu0:=HX.out.r.t.cu 0 (by decide);have qu1:=HX.out.r.t.cu 1 (by decide);have qu2:=HX.out.r.t.cu 2 (by decide);have qu3:=HX.out.r.t.cu 3 (by decide);have ql0:=HX.out.r.t.cl 0 (by decide);have ql1:=HX.out.r.t.cl 1 (by decide);have ql2:=HX.out.r.t.cl 2 (by decide);have ql3:=HX.out.r.t.cl 3 (by decide);have qb0:=HX.out.r.t.cb 0 (by decide);have qb1:=HX.out.r.t.cb 1 (by decide);have qb2:=HX.out.r.t.cb 2 (by decide);have qb3:=HX.out.r.t.cb 3 (by decide);have qd:=HX.out.r.t.cd;have ql:=HX.out.r.t.lt;have e0:=HX.out.r.b.c 0 _ rfl;have e1:=HX.out.r.b.c 1 _ rfl;have e2:=HX.out.r.b.c 2 _ rfl;have e3:=HX.out.r.b.c 3 _ rfl;have e4:=HX.out.r.b.c 4 _ rfl;have e5:=HX.out.r.b.c 5 _ rfl;have el:=HX.out.r.b.lt)
  | (go_at_call 6;refine Calls.mono (HE.out _ _ HX.out.r.up HX.out.c) ?_;rintro e w2 ⟨rfl,hb2⟩;have HY:Hid (Lv w w2 t ⟨ops,3,xa,body,thn,els⟩ ⟨poa,poc,pba,pbc⟩ hb ops.length (cyL t ops)):=HX.out.next hb2;clear hb2 HX HE qu0 qu1 qu2 qu3 ql0 ql1 ql2 ql3 qb0 qb1 qb2 qb3 qd ql e0 e1 e2 e3 e4 e5 el))
 rename World=>w2;have e1:=HY.out.r.b.c 1 _ rfl;have el:=HY.out.r.b.lt;go_wp2_with fail
 clear e1 el
 go_loopw [11] (fun v wr=>∃ k:Nat,k<=ops.length/\v=.int .i64 k/\Lv w wr t ⟨ops,3,xa,body,thn,els⟩ ⟨poa,poc,pba,pbc⟩ hb ops.length (cyL t ops)) (fun v _=>ops.length-(intOf v).toNat)
 case atStart=>exact ⟨0,by omega,rfl,HY.out⟩
 case round=>
  rename World=>wr;obtain ⟨k,hk,rfl,hs⟩:=hrel;have HQ:Hid (Lv w wr t ⟨ops,3,xa,body,thn,els⟩ ⟨poa,poc,pba,pbc⟩ hb ops.length (cyL t ops)):=hs;clear hs HY;have e0:=HQ.out.r.b.c 0 _ rfl;have e1:=HQ.out.r.b.c 1 _ rfl;have el:=HQ.out.r.b.lt
  by_cases hlt:k<ops.length
  ·have k0:(0:Int)<=(k:Int):=by omega
   have k1:(k:Int)<(ops.length:Int):=by omega
   obtain ⟨b,f,rfl,hz2,hx⟩:=(HO.out.below HQ.out.r.up).is (by show 0<ops.length;omega);have q:=hx k hlt;obtain ⟨q0,q1,q2,q3,q4⟩:=q;have hop:=HO.out.ok _ (List.getElem_mem hlt);have hol:=HAl.out _ (List.getElem_mem hlt);have HCl:Hid (∀ W,Calls Tryd.prog 7 #[.int .i8 ops[k].op] W fun e w'=>e=.returned (.tuple #[.int .i64 (clD ops[k].op:Int),.bool (clB ops[k].op)])/\Below W.heap.size W w'):=fun W=>by
    rw [<- clV_D hol];exact class_any _ W hop.op0 hop.op1
   have HWt:Hid (∀ W,Calls Tryd.prog 8 #[.agg #[.int .i8 ops[k].op,.int .u8 ops[k].d,.int .u8 ops[k].a,.int .u8 ops[k].b,.int .i64 ops[k].im]] W fun e w'=>e=.returned (.tuple #[.int .u8 (wrD ops[k]),.bool (wrB ops[k])])/\Below W.heap.size W w'):=fun W=>Op.writes_any ops[k] W hop;have hfr:=HFr.out k hlt;have HWk:Hid (wrB ops[k]=true->wrD ops[k]=xa->True):=fun h1 h2=>by
    rw [wrB_L hol] at h1;have h15:ops[k].op<=15:=by simpa using h1
    refine HWr.out k hlt h15 ?_;rw [<- h2];unfold wrD;rw [wrB_L hol,if_pos h1]
   have hgk:=HRg.out k hlt;have cg:=HQ.out.c.c k hlt;have cgl:=HQ.out.c.lt;clear hx hop hol;obtain ⟨c,hc⟩:∃ c,clD ops[k].op=c:=⟨_,rfl⟩;have c4:c<4:=by rw [<- hc];exact clD_lt _
   have htc:=HT.out c c4;simp only [hc] at HCl hfr HWk;clear hc;generalize hob:wrB ops[k]=wb at *;generalize hod:wrD ops[k]=wd at *;generalize clB ops[k].op=cb at *;clear hob hod;generalize ops[k]=o at *;obtain ⟨oo,od,oa,ob',oi⟩:=o;generalize hgg:cyL t ops k=gk at *;obtain ⟨lc,hlc⟩:∃ d,t.l c=d:=⟨_,rfl⟩;obtain ⟨bc,hbc⟩:∃ d,t.b c=d:=⟨_,rfl⟩;have HL:Hid (t.l c=lc/\t.b c=bc):=⟨hlc,hbc⟩;simp only [hlc,hbc] at hfr HWk htc;clear hlc hbc;have HU:Hid (∀ W,Below wr.heap.size wr W->Lv w W t ⟨ops,3,xa,body,thn,els⟩ ⟨some ⟨b,f,none⟩,poc,pba,pbc⟩ hb ops.length (cyL t ops)/\OAt W b (f+k*5) ⟨oo,od,oa,ob',oi⟩/\W.cell? ⟨hb,k,none⟩=some (.int .i64 gk)):=fun W hbw=>⟨HQ.out.next hbw,(⟨q0,q1,q2,q3,q4⟩:OAt wr b (f+k*5) ⟨oo,od,oa,ob',oi⟩).below hbw hz2,by rw [(bcell hbw).1 _ _ cgl];exact cg⟩;have c0:(0:Int)<=(c:Int):=by omega
   have c3:(c:Int)<4:=by omega
   have w1:IntKind.i64.wrap (gk+lc)=gk+lc:=by rw [IntKind.wrap_i64];omega
   have w2':IntKind.i64.wrap (gk+max lc bc)=gk+max lc bc:=by rw [IntKind.wrap_i64];omega
   go_upto_region 14 with (first
    | (go_at_call 7;refine Calls.mono (HCl.out _) ?_;rintro e w4 ⟨rfl,hb4⟩;have HV:Hid (Below wr.heap.size wr w4):=hb4;clear hb4 HCl q0 q1 q2 q3 q4 e0 e1 el cg cgl;obtain ⟨v1,v2,v3⟩:=HU.out _ HV.out;have tl:=v1.r.t.cl c c4;have tb:=v1.r.t.cb c c4;rw [HL.out.1] at tl;rw [HL.out.2] at tb;have tlt:=v1.r.t.lt;have cl:=v1.c.lt;clear v1 v2))
   go_quiet (fail)
   rename World=>w4;have HV2:Hid (Below wr.heap.size wr (w4.drewN nq)):=HV.out.trans ((drewN_dl _ _).mono HV.out.size);generalize w4.drewN nq=Y at *;clear v3 tl tb tlt cl HV;obtain ⟨v1,v2,v3⟩:=HU.out _ HV2.out;have e0:=v1.r.b.c 0 _ rfl;have e1:=v1.r.b.c 1 _ rfl;have el:=v1.r.b.lt;obtain ⟨q0,q1,q2,q3,q4⟩:=v2;clear v1 v3;go_upto_region 18 with (first
    | (go_at_call 8;refine Calls.mono (HWt.out _) ?_;rintro e w5 ⟨rfl,hb5⟩;have HV3:Hid (Below wr.heap.size wr w5):=HV2.out.trans (hb5.mono HV2.out.size);clear hb5 HWt HV2 q0 q1 q2 q3 q4 e0 e1 el))
   rename World=>w5;obtain ⟨v1,v2,v3⟩:=HU.out _ HV3.out;have e1:=v1.r.b.c 1 _ rfl;have e2:=v1.r.b.c 2 _ rfl;have el:=v1.r.b.lt;have tl:=v1.r.t.cl c c4;rw [HL.out.1] at tl;have tlt:=v1.r.t.lt;have cl:=v1.c.lt;have HN:Hid (Lv w w5 t ⟨ops,3,xa,body,thn,els⟩ ⟨some ⟨b,f,none⟩,poc,pba,pbc⟩ hb ops.length (cyL t ops)):=v1;clear v1 v2 HU HV3;have hfb:¬ nN<gk+max lc bc:=by omega
   clear HWk;go_quiet (fail)
   rename World=>wz;have HN2:Hid (Lv w (wz.drewN nq) t ⟨ops,3,xa,body,thn,els⟩ ⟨some ⟨b,f,none⟩,poc,pba,pbc⟩ hb ops.length (cyL t ops)):=HN.out.next (drewN_dl _ _);go_wp2_with fail
   go_roundw
   case rel=>exact ⟨k+1,by omega,by go_num,HN2.out⟩
   case measure=>simp [intOf];omega
  ·obtain rfl:k=ops.length:=by omega
   have k1:¬ (ops.length:Int)<(ops.length:Int):=by omega
   have tb3:=HQ.out.r.t.cb 3 (by decide);have td:=HQ.out.r.t.cd;have tlt:=HQ.out.r.t.lt;have w6:IntKind.i64.wrap (t.b 3-1)=t.b 3-1:=by rw [IntKind.wrap_i64];omega
   have w7:IntKind.i64.wrap (t.b 3-1-t.d)=t.b 3-1-t.d:=by rw [IntKind.wrap_i64];omega
   have x1:(aT == -1)=true:=by have:=HGe.out;simpa using this
   go_wp2_with (first
    | (go_at_call 4;refine Calls.mono (HW.out _ HQ.out.r.up) ?_;rintro e w3 ⟨rfl,hb3⟩;have HZ:Hid (Below w.heap.size w w3):=HQ.out.r.up.trans (hb3.mono HQ.out.r.up.size);clear hb3 HW))
   go_ret
   exact ⟨rfl,HZ.out⟩
theorem er_is {t:Tab} {x:Bk} (hok':∀ o∈x.ops,o.Ok) (hli:lisE t x.ops=0) (hhv:hvU t x.ops=true) (h:¬ erI t x x.ops.length (cyL t x.ops)=0):erI t x x.ops.length (cyL t x.ops)=21\/erI t x x.ops.length (cyL t x.ops)=50:=by
 have ht:=(lis_all hli).1;have hc:=ckB_cyL hok' hli hhv;unfold erI at h ⊢;rw [if_neg (by rw [ht];decide)] at h ⊢
 by_cases h2:t.u 3=0
 ·rw [if_pos h2];exact .inl rfl
 ·rw [if_neg h2] at h ⊢
  by_cases h3:enB x=false
  ·rw [if_pos h3];exact .inr rfl
  ·rw [if_neg h3,if_neg (by rw [hc];decide)] at h;exact absurd rfl h
theorem law_over (x:Bk) (p:Pl) (t:Tab) (w:World) (hx:x.Ok) (h:OpsAt w p.oa x.ops) (hcap:x.ops.length<=p.oc) (hG:Bnds w) :
  Calls Tryd.prog 3 #[x.val p,t.val] w fun e w'=>e=.returned (.bool true)/\Below w.heap.size w w':=by
 by_cases hn:60<x.ops.length
 ·exact over_long x p t w h.len hG hn
 ·by_cases hli:lisE t x.ops=0
  ·cases hhv:hvU t x.ops
   ·exact over_bad x p t w 21 (by decide) hG (by omega) fun W hb=>cycles_unit p.oa p.oc x.ops t W (h.below hb) hcap (hG.below hb hG.big) hli hhv
   ·by_cases he:erI t x x.ops.length (cyL t x.ops)=0
    ·obtain ⟨_,_,hen,_⟩:=er_parts he;have hf:x.fin=0\/x.fin=1\/x.fin=2\/x.fin=3:=by
      by_cases h0:x.fin=0
      ·exact .inl h0
      ·by_cases h1:x.fin=1
       ·exact .inr (.inl h1)
       ·by_cases h2:x.fin=2
        ·exact .inr (.inr (.inl h2))
        ·by_cases h3:x.fin=3
         ·exact .inr (.inr (.inr h3))
         ·simp [enB,h0,h1,h2,h3] at hen
     rcases hf with hf|hf|hf|hf
     ·exact over_ok0 x p t w h hcap hx hG (by omega) hli hhv he hf
     ·exact over_ok1 x p t w h hcap hx hG (by omega) hli hhv he hf
     ·exact over_ok2 x p t w h hcap hx hG (by omega) hli hhv he hf
     ·exact over_ok3 x p t w h hcap hx hG (by omega) hli hhv he hf
    ·exact over_no x p t w h hcap hx.a0 hG (by omega) hli hhv _ rfl (er_is h.ok hli hhv he)
  ·exact over_bad x p t w _ hli hG (by omega) fun W hb=>cycles_no p.oa p.oc x.ops t W (h.below hb) hcap (hG.below hb hG.big) hli
end Go.Proofs.YtcmlnemokckbdaaDoor.Dl
