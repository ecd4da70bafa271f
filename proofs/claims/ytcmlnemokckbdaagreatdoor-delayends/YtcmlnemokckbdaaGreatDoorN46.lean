/- Parts Ra. -/
import Derived.Test.YtcmlnemokckbdaaGreatDoorN35
import Derived.Test.YtcmlnemokckbdaaGreatDoorN45
set_option maxRecDepth 20000
set_option maxHeartbeats 16000000
namespace Go.Proofs.YtcmlnemokckbdaaGreatDoor.Dl
open Go.ChangeShapes Go.WideShapes Go.ChangeAt Go.RowKit Go.Great
open YtcmlnemokckbdaaGreatDoor.Op YtcmlnemokckbdaaGreatDoor.So YtcmlnemokckbdaaGreatDoor.Dp YtcmlnemokckbdaaGreatDoor.Ls
open YtcmlnemokckbdaaGreatDoor.Tb (Tab TabAt Bnds)
theorem lead_any (t:Tab) (w:World) (ht:t.ok=true):Calls Tryz.prog 27 #[t.val] w fun e w'=>e=.returned (.int .i64 (leI t))/\Below w.heap.size w w':=by
 have hb3:=Tb.inB_iff ((Tb.ok_parts ht).2 3 (by decide)).2.2;have hd3:=Tb.inB_iff (Tb.ok_parts ht).1;have w1:IntKind.i64.wrap (t.b 3-1)=t.b 3-1:=by rw [IntKind.wrap_i64];omega
 have w2:IntKind.i64.wrap (t.b 3-1-t.d)=t.b 3-1-t.d:=by rw [IntKind.wrap_i64];omega
 unfold Tab.val leI;go_enter Tryz.func27,Tryz.ntmps27;go_wp2
 go_ret
 exact ⟨rfl,by go_grown⟩
theorem clV_clD:∀ n:Nat,n<18->1<=(n:Int)->clV (n:Int)=(clD (n:Int):Int)/\clB (n:Int)=true:=by decide
theorem okL_op {o:O} (h:okL o=true):1<=o.op/\o.op<=17/\okO o=true:=by
 simp only [okL,Bool.and_eq_true,decide_eq_true_eq] at h;exact ⟨h.1.1,h.1.2,h.2⟩
theorem clV_D {o:O} (h:okL o=true):clV o.op=(clD o.op:Int):=by
 obtain ⟨h1,h2,_⟩:=okL_op h;have e:((o.op.toNat : Nat):Int)=o.op:=by omega
 rw [<- e];exact (clV_clD o.op.toNat (by omega) (by omega)).1
theorem kD:∀ n:Nat,n<18->1<=(n:Int)->∀ k,kOf (n:Int)=some k->k.D=decide ((n:Int)<=15):=by decide
theorem wrB_L {o:O} (h:okL o=true):wrB o=decide (o.op<=15):=by
 obtain ⟨h1,h2,h3⟩:=okL_op h;have e:((o.op.toNat : Nat):Int)=o.op:=by omega
 cases hk:kOf o.op with
 | none=>rw [okO_none hk] at h3;cases h3
 | some k=>
  rw [wr_yes hk (by rw [<- okO_some hk];exact h3)];rw [<- e] at hk ⊢;exact kD o.op.toNat (by omega) (by omega) k hk
structure Td (w W:World) (t:Tab):Prop where
 t:TabAt W w.heap.size t
 up:Below w.heap.size w W
theorem Td.next {w W W':World} {t:Tab} (h:Td w W t) (g:Below W.heap.size W W'):Td w W' t:=⟨h.t.below g h.t.lt,h.up.trans (g.mono h.up.size)⟩
theorem drained_any (ao a:Option Addr) (cap ccap:Nat) (xs:List O) (t:Tab) (g:Nat->Int) (r:Int) (w:World) (h:OpsAt w ao xs) (hg:Nl w a xs.length g) (hr:∀ k,k<xs.length->0<=g k/\g k<=65536) (ht:t.ok=true) (hok:∀ o∈xs,okL o=true) (hn:xs.length<=1024) (hr0:0<=r) :
  Calls Tryz.prog 28 #[.slice ao xs.length cap,t.val,.slice a xs.length ccap,.int .u8 r] w fun e w'=>e=.returned (.tuple #[.int .i64 (drI t xs g xs.length),.int .i64 (rsI t xs g xs.length),.int .i64 (lnI t xs g xs.length r.toNat)])/\Below w.heap.size w w':=by
 have HO:Hid (OpsAt w ao xs):=h;have HG:Hid (Nl w a xs.length g):=hg;have HR:Hid (∀ k,k<xs.length->0<=g k/\g k<=65536):=hr;have HK:Hid (∀ o∈xs,okL o=true):=hok;have HT:Hid (∀ k,k<4->(1<=t.l k/\t.l k<=8)/\1<=t.b k/\t.b k<=4):=fun k hk=>⟨Tb.inB_iff ((Tb.ok_parts ht).2 k hk).2.1,Tb.inB_iff ((Tb.ok_parts ht).2 k hk).2.2⟩;have hn':(xs.length:Int)<=1024:=by omega
 have HS:Hid (Td w (w.alloc (.cells t.cells 28)) t):=⟨Tb.tabAt_new w t 28,(Below.refl _ _).alloc (Nat.le_refl _) _⟩;have HB:Hid (∀ k,k<=xs.length->(0<=drI t xs g k/\drI t xs g k<=70000)/\(0<=rsI t xs g k/\rsI t xs g k<=70000)/\∀ j,0<=lnI t xs g k j/\lnI t xs g k j<=70000):=fun k hk=>dr_in ht hr k hk;clear h hg hr hok ht;unfold Tab.val;go_enter Tryz.func28,Tryz.ntmps28;go_wp2_with fail
 generalize w.alloc (.cells t.cells 28)=W0 at *
 go_loopw [8,9,10,11] (fun d rs ow i wr=>∃ k:Nat,k<=xs.length/\d=.int .i64 (drI t xs g k)/\rs=.int .i64 (rsI t xs g k)/\ow=.int .i64 (lnI t xs g k r.toNat)/\i=.int .i64 k/\Td w wr t) (fun _ _ _ i _=>xs.length-(intOf i).toNat)
 case atStart=>exact ⟨0,by omega,rfl,rfl,rfl,rfl,HS.out⟩
 case round=>
  rename World=>wr;obtain ⟨k,hk,rfl,rfl,rfl,rfl,hs⟩:=hrel;have HQ:Hid (Td w wr t):=hs;clear hs HS
  by_cases hlt:k<xs.length
  ·have k0:(0:Int)<=(k:Int):=by omega
   have k1:(k:Int)<(xs.length:Int):=by omega
   obtain ⟨b,f,rfl,hz2,hx⟩:=(HO.out.below HQ.out.up).is (by omega);obtain ⟨q0,q1,q2,q3,q4⟩:=hx k hlt;have hop:=HO.out.ok _ (List.getElem_mem hlt);have hol:=HK.out _ (List.getElem_mem hlt);clear hx;have HC:Hid (∀ W,Calls Tryz.prog 48 #[.int .i8 xs[k].op] W fun e w'=>e=.returned (.tuple #[.int .i64 (clD xs[k].op:Int),.bool (clB xs[k].op)])/\Below W.heap.size W w'):=fun W=>by
    rw [<- clV_D hol];exact refClass_any _ W
   have HW:Hid (∀ W,Calls Tryz.prog 36 #[.agg #[.int .i8 xs[k].op,.int .u8 xs[k].d,.int .u8 xs[k].a,.int .u8 xs[k].b,.int .i64 xs[k].im]] W fun e w'=>e=.returned (.tuple #[.int .u8 (wrD xs[k]),.bool (wrB xs[k])])/\Below W.heap.size W w'):=fun W=>refWrites_any xs[k] W hop;have hla:laI t xs g k=g k+t.l (clD xs[k].op):=by unfold laI;rw [oAt_at hlt]
   have hfr:frI t xs g k=g k+t.b (clD xs[k].op):=by unfold frI;rw [oAt_at hlt]
   have HN1:Hid (drI t xs g (k+1)=max (drI t xs g k) (g k+max (t.l (clD xs[k].op)) (t.b (clD xs[k].op)))/\rsI t xs g (k+1)=max (rsI t xs g k) (g k+t.l (clD xs[k].op))):=by
    show max (max (drI t xs g k) (laI t xs g k)) (frI t xs g k)=_/\max (rsI t xs g k) (laI t xs g k)=_;rw [hla,hfr];exact ⟨by omega,rfl⟩
   have hdi:xs[k].op<=15->0<=xs[k].d/\xs[k].d<=31:=fun h15=>d_in hop hol h15;have HN2:Hid (wrB xs[k]=true->wrD xs[k]=r->lnI t xs g (k+1) r.toNat = g k+t.l (clD xs[k].op)):=fun h1 h2=>by
    have h15:xs[k].op<=15:=by rw [wrB_L hol] at h1;simpa using h1
    have hd:xs[k].d=r:=by unfold wrD at h2;rw [if_pos h1] at h2;exact h2
    show (if (oAt xs k).op<=15 then updI (lnI t xs g k) (oAt xs k).d.toNat (laI t xs g k) else lnI t xs g k) r.toNat = _;rw [oAt_at hlt,if_pos h15,hd];unfold updI;rw [if_pos rfl,hla]
   have HN3:Hid (wrB xs[k]=false\/¬ wrD xs[k]=r->lnI t xs g (k+1) r.toNat = lnI t xs g k r.toNat):=fun h1=>by
    show (if (oAt xs k).op<=15 then updI (lnI t xs g k) (oAt xs k).d.toNat (laI t xs g k) else lnI t xs g k) r.toNat = _;rw [oAt_at hlt]
    by_cases h15:xs[k].op<=15
    ·rw [if_pos h15];have hw:wrB xs[k]=true:=by rw [wrB_L hol];simpa using h15
     have hne:¬ xs[k].d=r:=by
      rcases h1 with h1|h1
      ·rw [hw] at h1;cases h1
      ·unfold wrD at h1;rw [if_pos hw] at h1;exact h1
     have:=hdi h15
     unfold updI;rw [if_neg (by omega)]
    ·rw [if_neg h15]
   have hb:=HB.out k hk;have hbl:=hb.2.2 r.toNat;have hb1:=hb.1;have hb2:=hb.2.1;have hgk:=HR.out k hlt;clear hb hla hfr hdi hop hol;obtain ⟨b2,f2,rfl,hz3,hc2⟩:=(HG.out.up HQ.out.up).is (by omega);have hck:=hc2 k hlt;clear hc2;obtain ⟨c,hc⟩:∃ c,clD xs[k].op=c:=⟨_,rfl⟩;have c4:c<4:=by rw [<- hc];exact clD_lt _
   have htc:=HT.out c c4;simp only [hc] at HC HN1 HN2;clear hc;generalize wrB xs[k]=wb at *;generalize wrD xs[k]=wd at *;generalize clB xs[k].op=cb at *;generalize xs[k]=o at *;obtain ⟨oo,od,oa,ob',oi⟩:=o;generalize drI t xs g k=dd at *;generalize rsI t xs g k=rr at *;generalize lnI t xs g k r.toNat = oww at *;generalize g k=gk at *;obtain ⟨lc,hlc⟩:∃ d,t.l c=d:=⟨_,rfl⟩;obtain ⟨bc,hbc⟩:∃ d,t.b c=d:=⟨_,rfl⟩;have HL:Hid (t.l c=lc/\t.b c=bc):=⟨hlc,hbc⟩;simp only [hlc,hbc] at HN1 HN2 htc;clear hlc hbc;have HU:Hid (∀ W,Below wr.heap.size wr W->Td w W t/\OAt W b (f+k*5) ⟨oo,od,oa,ob',oi⟩/\W.cell? ⟨b2,f2+k,none⟩=some (.int .i64 gk)):=fun W hbw=>⟨HQ.out.next hbw,(⟨q0,q1,q2,q3,q4⟩:OAt wr b (f+k*5) ⟨oo,od,oa,ob',oi⟩).below hbw hz2,by rw [(bcell hbw).1 _ _ hz3];exact hck⟩;have HZ3:Hid (b2<wr.heap.size):=hz3;have c0:(0:Int)<=(c:Int):=by omega
   have c3:(c:Int)<4:=by omega
   have w1:IntKind.i64.wrap (gk+lc)=gk+lc:=by rw [IntKind.wrap_i64];omega
   have w2:IntKind.i64.wrap (gk+max lc bc)=gk+max lc bc:=by rw [IntKind.wrap_i64];omega
   clear hck hz3;go_upto_region 5 with (first
    | (go_at_call 48;refine Calls.mono (HC.out _) ?_;rintro e w4 ⟨rfl,hb4⟩;have HV:Hid (Below wr.heap.size wr w4):=hb4;clear hb4 HC q0 q1 q2 q3 q4;obtain ⟨v1,v2,v3⟩:=HU.out _ HV.out;have tl:=v1.t.cl c c4;have tb:=v1.t.cb c c4;rw [HL.out.1] at tl;rw [HL.out.2] at tb;have tlt:=v1.t.lt;have cl:=Nat.lt_of_lt_of_le HZ3.out HV.out.size;clear v1 v2))
   go_quiet (fail)
   rename World=>w4;have HV2:Hid (Below wr.heap.size wr (w4.drewN nq)):=HV.out.trans ((drewN_dl _ _).mono HV.out.size);generalize w4.drewN nq=Y at *;clear v3 tl tb tlt cl HV;obtain ⟨v1,v2,v3⟩:=HU.out _ HV2.out;have tl:=v1.t.cl c c4;rw [HL.out.1] at tl;have tlt:=v1.t.lt;have cl:=Nat.lt_of_lt_of_le HZ3.out HV2.out.size;clear v1 v2;go_wp2_with fail
   go_quiet (fail)
   have HV3:Hid (Below wr.heap.size wr (Y.drewN nq)):=HV2.out.trans ((drewN_dl _ _).mono HV2.out.size);generalize Y.drewN nq=Y2 at *;clear v3 tl tlt cl HV2;obtain ⟨v1,v2,v3⟩:=HU.out _ HV3.out;obtain ⟨q0,q1,q2,q3,q4⟩:=v2;clear v1 v3
   cases wb
   ·have HE:Hid (lnI t xs g (k+1) r.toNat = oww):=HN3.out (.inl rfl);clear HN2 HN3;go_wp2_with (first
     | (go_at_call 36;refine Calls.mono (HW.out _) ?_;rintro e w5 ⟨rfl,hb5⟩;have HV4:Hid (Below wr.heap.size wr w5):=HV3.out.trans (hb5.mono HV3.out.size);clear hb5 HW HV3 q0 q1 q2 q3 q4))
    go_roundw
    case rel=>exact ⟨k+1,by omega,by rw [HN1.out.1],by rw [HN1.out.2],by rw [HE.out],by go_num,(HU.out _ HV4.out).1⟩
    case measure=>simp [intOf];omega
   ·by_cases hwd:wd=r
    ·have HE:Hid (lnI t xs g (k+1) r.toNat = gk+lc):=HN2.out rfl hwd;have hwb:(wd==r)=true:=by simpa using hwd
     clear HN2 HN3 hwd;go_upto_region 9 with (first
      | (go_at_call 36;refine Calls.mono (HW.out _) ?_;rintro e w5 ⟨rfl,hb5⟩;have HV4:Hid (Below wr.heap.size wr w5):=HV3.out.trans (hb5.mono HV3.out.size);clear hb5 HW HV3 q0 q1 q2 q3 q4;obtain ⟨v1,v2,v3⟩:=HU.out _ HV4.out;have tl:=v1.t.cl c c4;rw [HL.out.1] at tl;have tlt:=v1.t.lt;have cl:=Nat.lt_of_lt_of_le HZ3.out HV4.out.size;clear v1 v2))
     go_quiet (fail)
     rename World=>w6;have HV5:Hid (Below wr.heap.size wr (w6.drewN nq)):=HV4.out.trans ((drewN_dl _ _).mono HV4.out.size);go_wp2_with fail
     go_roundw
     case rel=>exact ⟨k+1,by omega,by rw [HN1.out.1],by rw [HN1.out.2],by rw [HE.out],by go_num,(HU.out _ HV5.out).1⟩
     case measure=>simp [intOf];omega
    ·have HE:Hid (lnI t xs g (k+1) r.toNat = oww):=HN3.out (.inr hwd);have hwb:(wd==r)=false:=by simpa using hwd
     clear HN2 HN3 hwd;go_wp2_with (first
      | (go_at_call 36;refine Calls.mono (HW.out _) ?_;rintro e w5 ⟨rfl,hb5⟩;have HV4:Hid (Below wr.heap.size wr w5):=HV3.out.trans (hb5.mono HV3.out.size);clear hb5 HW HV3 q0 q1 q2 q3 q4))
     go_roundw
     case rel=>exact ⟨k+1,by omega,by rw [HN1.out.1],by rw [HN1.out.2],by rw [HE.out],by go_num,(HU.out _ HV4.out).1⟩
     case measure=>simp [intOf];omega
  ·obtain rfl:k=xs.length:=by omega
   have k1:¬ (xs.length:Int)<(xs.length:Int):=by omega
   go_wp2_with fail
   go_ret3
   exact ⟨rfl,HQ.out.up⟩
end Go.Proofs.YtcmlnemokckbdaaGreatDoor.Dl
