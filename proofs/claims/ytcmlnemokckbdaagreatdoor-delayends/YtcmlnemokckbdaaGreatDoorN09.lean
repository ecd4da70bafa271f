/- Parts Af Ag Ed. -/
import Derived.Test.YtcmlnemokckbdaaGreatDoorN05
import Derived.Test.YtcmlnemokckbdaaGreatDoorN06
import Derived.Deep.QuietTactic
import Derived.BigQuiet
import Derived.Test.YtcmlnemokckbdaaGreatDoorN08
set_option maxRecDepth 20000
set_option maxHeartbeats 4000000
namespace Go.Proofs.YtcmlnemokckbdaaGreatDoor.Al
open Go.ChangeShapes Go.WideShapes Go.ChangeAt Go.RowKit
open YtcmlnemokckbdaaGreatDoor.Op
theorem drewN_below {B:Nat} {a w:World} (h:Below B a w) (n:Nat):Below B a (w.drewN n):=⟨h.os,h.tape,h.output,h.size,h.block⟩
theorem two_out (ao:Option Addr) (cap:Nat) (xs:List O) (i j:Int) (w:World) (h:inL xs i=false\/inL xs j=false) :
  Calls Tryz.prog 134 #[.slice ao xs.length cap,.int .i64 i,.int .i64 j] w fun e w'=>e=.returned (.bool false)/\Below w.heap.size w w':=by
 have hx:i<0\/j<0\/(xs.length:Int)<=i\/(xs.length:Int)<=j:=by
  unfold inL at h;simp at h
  omega
 clear h
 by_cases h1:i<0
 ·go_enter Tryz.func134,Tryz.ntmps134;go_wp2_with fail
  go_ret
  exact ⟨rfl,Below.refl _ _⟩
 ·by_cases h2:j<0
  ·go_enter Tryz.func134,Tryz.ntmps134;go_wp2_with fail
   go_ret
   exact ⟨rfl,Below.refl _ _⟩
  ·by_cases h3:(xs.length:Int)<=i
   ·go_enter Tryz.func134,Tryz.ntmps134;go_wp2_with fail
    go_ret
    exact ⟨rfl,Below.refl _ _⟩
   ·have h4:(xs.length:Int)<=j:=by omega
    clear hx;go_enter Tryz.func134,Tryz.ntmps134;go_wp2_with fail
    go_ret
    exact ⟨rfl,Below.refl _ _⟩
theorem ck_no {o:O} (h:okO o=false):ckE o=30:=by simp [ckE,h]
theorem ck_yes {o:O} (h:okO o=true):ckE o=0:=by simp [ckE,h]
structure Tw (w V:World) (x y:O):Prop where
 b:Below w.heap.size w V
 p:At V w.heap.size x.cells
 q:At V (w.heap.size+1) y.cells
theorem Tw.go {w V V':World} {x y:O} (h:Tw w V x y) (hb:Below V.heap.size V V'):Tw w V' x y:=⟨h.b.trans (hb.mono h.b.size),h.p.below hb h.p.lt,h.q.below hb h.q.lt⟩
theorem Tw.start (w:World) (x y:O) (t t':TypeId):Tw w ((w.alloc (.cells x.cells t)).alloc (.cells y.cells t')) x y:=by
 obtain ⟨a1,a2,b,_,_⟩:=two_new w x.cells y.cells t t' (Below.refl _ _);exact ⟨b,a1,a2⟩
theorem two_in (b f cap:Nat) (xs:List O) (k m:Nat) (w:World) (h:OpsAt w (some ⟨b,f,none⟩) xs) (hk:k<xs.length) (hm:m<xs.length) :
  Calls Tryz.prog 134 #[.slice (some ⟨b,f,none⟩) xs.length cap,.int .i64 k,.int .i64 m] w fun e w'=>e=.returned (.bool (pairB xs k m))/\Below w.heap.size w w':=by
 have hp:pairB xs (k:Int) (m:Int)=(memO xs[k]&&memO xs[m]&&(xs[k].op==16 || xs[m].op==16)):=by
  unfold pairB;rw [memB_at hk,memB_at hm,atL_at hk,atL_at hm]
 rw [hp];clear hp;obtain ⟨b',f',e,hz,hx⟩:=h.is (by omega)
 cases e
 obtain ⟨x0,x1,x2,x3,x4⟩:=hx k hk;have hki:(k:Int)<xs.length:=by omega
 have hmi:(m:Int)<xs.length:=by omega
 have hk0:¬ (k:Int)<0:=by omega
 have hm0:¬ (m:Int)<0:=by omega
 have hlen:=h.len;have hy:=(hx m hm).below ((Below.refl _ w).alloc (Nat.le_refl _) (.cells xs[k].cells 60)) hz;obtain ⟨y0,y1,y2,y3,y4⟩:=hy;have ok1:=h.ok _ (List.getElem_mem hk);have ok2:=h.ok _ (List.getElem_mem hm);clear h hx;generalize xs[k]=x at *;generalize xs[m]=y at *;have HC1:Hid (∀ W,Calls Tryz.prog 67 #[x.val] W fun e w'=>e=.returned (.int .i64 (ckE x))/\Below W.heap.size W w'):=fun W=>refCheck_any x W ok1;have HC2:Hid (∀ W,Calls Tryz.prog 67 #[y.val] W fun e w'=>e=.returned (.int .i64 (ckE y))/\Below W.heap.size W w'):=fun W=>refCheck_any y W ok2;have HS:Hid (Tw w ((w.alloc (.cells x.cells 60)).alloc (.cells y.cells 60)) x y):=Tw.start w x y 60 60;clear ok1 ok2
 cases g1:okO x
 ·have e1:(memO x&&memO y&&(x.op==16 || y.op==16))=false:=by unfold memO;simp [g1]
  rw [e1];rw [ck_no g1] at HC1;clear e1 g1;go_enter Tryz.func134,Tryz.ntmps134;go_wp2_with (first|(go_at_call 67;refine Calls.mono (HC1.out _) ?_;rintro e w1 ⟨rfl,hb⟩;have HS1:Hid (Tw w w1 x y):=HS.out.go hb;clear hb HC1))
  go_ret
  exact ⟨rfl,HS1.out.b⟩
 ·cases g2:okO y
  ·have e1:(memO x&&memO y&&(x.op==16 || y.op==16))=false:=by unfold memO;simp [g2]
   rw [e1];rw [ck_yes g1] at HC1;rw [ck_no g2] at HC2;clear e1 g1 g2;go_enter Tryz.func134,Tryz.ntmps134;go_wp2_with (first|(go_at_call 67;refine Calls.mono (HC1.out _) ?_;rintro e w1 ⟨rfl,hb⟩;have HS1:Hid (Tw w w1 x y):=HS.out.go hb;obtain ⟨d0,d1,d2,d3,d4⟩:=HS1.out.q.o5;clear hb HC1)|(go_at_call 67;refine Calls.mono (HC2.out _) ?_;rintro e w2 ⟨rfl,hb⟩;have HS2:Hid (Tw w w2 x y):=HS1.out.go hb;clear hb HC2))
   go_ret
   exact ⟨rfl,HS2.out.b⟩
  ·have e1:(memO x&&memO y&&(x.op==16 || y.op==16))=((x.op==15 || x.op==16)&&(y.op==15 || y.op==16)&&(x.op==16 || y.op==16)):=by unfold memO;simp [g1,g2]
   rw [e1];rw [ck_yes g1] at HC1;rw [ck_yes g2] at HC2;clear e1 g1 g2;have hxo:x.op=15\/x.op=16\/((x.op==15)=false/\(x.op==16)=false):=by
    by_cases h1:x.op=15
    ·exact .inl h1
    ·by_cases h2:x.op=16
     ·exact .inr (.inl h2)
     ·exact .inr (.inr ⟨by simpa using h1,by simpa using h2⟩)
   have hyo:y.op=15\/y.op=16\/((y.op==15)=false/\(y.op==16)=false):=by
    by_cases h1:y.op=15
    ·exact .inl h1
    ·by_cases h2:y.op=16
     ·exact .inr (.inl h2)
     ·exact .inr (.inr ⟨by simpa using h1,by simpa using h2⟩)
   obtain ⟨xo,xd,xa,xb,xi⟩:=x;obtain ⟨yo,yd,ya,yb,yi⟩:=y;simp only at hxo hyo
   rcases hxo with rfl|rfl|⟨gx1,gx2⟩ <;> rcases hyo with rfl|rfl|⟨gy1,gy2⟩
   all_goals
    go_enter Tryz.func134,Tryz.ntmps134;go_wp2_with (first|(go_at_call 67;refine Calls.mono (HC1.out _) ?_;rintro e w1 ⟨rfl,hb⟩;have HS1:Hid (Tw w w1 _ _):=HS.out.go hb;obtain ⟨d0,d1,d2,d3,d4⟩:=HS1.out.q.o5;clear hb HC1)|(go_at_call 67;refine Calls.mono (HC2.out _) ?_;rintro e w2 ⟨rfl,hb⟩;have HS2:Hid (Tw w w2 _ _):=HS1.out.go hb;clear d0 d1 d2 d3 d4;have d0:=HS2.out.q.o5.1;have e0:=HS2.out.p.o5.1;clear hb HC2))
    go_ret
    exact ⟨ret_bool (by first|(simp;done)|simp_all),HS2.out.b⟩
theorem two_any (ao:Option Addr) (cap:Nat) (xs:List O) (i j:Int) (w:World) (h:OpsAt w ao xs) :
  Calls Tryz.prog 134 #[.slice ao xs.length cap,.int .i64 i,.int .i64 j] w fun e w'=>e=.returned (.bool (pairB xs i j))/\Below w.heap.size w w':=by
 cases hi:inL xs i
 ·have e:pairB xs i j=false:=by unfold pairB;rw [memB_no hi];rfl
  rw [e];exact two_out ao cap xs i j w (.inl hi)
 ·cases hj:inL xs j
  ·have e:pairB xs i j=false:=by unfold pairB;rw [memB_no hj];simp
   rw [e];exact two_out ao cap xs i j w (.inr hj)
  ·obtain ⟨k,hk,rfl⟩:=inL_iff.1 hi;obtain ⟨m,hm,rfl⟩:=inL_iff.1 hj;obtain ⟨b,f,rfl,-,-⟩:=h.is (by omega);exact two_in b f cap xs k m w h hk hm
theorem D_16:∀ k,kindL[16]?=some k->k.D=false:=fun k h=>by cases h;rfl
theorem wr_16 {o:O} (h:o.op=16):wrB o=false:=by
 unfold wrB kOf;rw [h,if_pos (by omega)];show (match kindL[16]? with|some k=>okF k o&&k.D|none=>false)=false
 cases e:kindL[16]? with
 | none=>rfl
 | some k=>show (okF k o&&k.D)=false;rw [D_16 k e];simp
theorem wt_eq (r:Int) (o:O):wt r o=(wrB o&&(wrD o==r)):=by
 unfold wt wrD
 cases h:wrB o
 ·simp
 ·have h16:¬ o.op=16:=fun e=>by rw [wr_16 e] at h;cases h
  simp [h16]
theorem apart_mod (a b:Int):((wrap64 (a-b)).tmod 256==0)=(a%256==b%256):=by
 have k:∀ x:Int,x.tmod 256=0↔x%256=0:=fun x=>⟨fun h=>Int.emod_eq_zero_of_dvd (Int.dvd_of_tmod_eq_zero h),fun h=>Int.tmod_eq_zero_of_dvd (Int.dvd_of_emod_eq_zero h)⟩;rw [Bool.eq_iff_iff,beq_iff_eq,beq_iff_eq,k];unfold wrap64;omega
theorem apart_any (b f cap:Nat) (xs:List O) (k m p q:Nat) (w:World) (h:OpsAt w (some ⟨b,f,none⟩) xs) (hk:k<xs.length) (hm:m<xs.length) (hpq:p<=q) (hq:q<=xs.length) :
  Calls Tryz.prog 135 #[.slice (some ⟨b,f,none⟩) xs.length cap,.int .i64 k,.int .i64 m,.int .i64 p,.int .i64 q] w fun e w'=>e=.returned (.bool (!may xs[k] xs[m] (cut xs p q)))/\Below w.heap.size w w':=by
 obtain ⟨b',f',e,hz,hx⟩:=h.is (by omega)
 cases e
 have hki:(k:Int)<xs.length:=by omega
 have hmi:(m:Int)<xs.length:=by omega
 have HX:Hid (∀ W,Below w.heap.size w W->∀ (t:Nat) (ht:t<xs.length),OAt W b (f+t*5) xs[t]):=fun W hb t ht=>(hx t ht).below hb hz;have HO:Hid (∀ o∈xs,o.Ok):=h.ok;have hlen:=h.len;obtain ⟨x0,x1,x2,x3,x4⟩:=hx k hk;obtain ⟨y0,y1,y2,y3,y4⟩:=hx m hm;have hA:=x2;clear h hx;have hdef:may xs[k] xs[m] (cut xs p q)=(!(xs[k].a==xs[m].a) || (xs[k].im%256==xs[m].im%256) || wtL (cut xs p q) xs[k].a):=rfl;rw [hdef];clear hdef;have HA:Hid (∀ W,Below w.heap.size w W->W.cell? ⟨b,f+k*5+2,none⟩=some (.int .u8 xs[k].a)):=fun W hb=>(HX.out W hb k hk).c2;generalize xs[k].a=xa at *;generalize xs[m].a=ya at *;generalize xs[k].im=xi at *;generalize xs[m].im=yi at *
 by_cases ha:xa=ya
 ·subst ha;have hmod:=apart_mod xi yi
  cases he:(xi%256==yi%256)
  ·rw [he] at hmod;have e1:(!(!(xa==xa) || false || wtL (cut xs p q) xa)) = !wtL (cut xs p q) xa:=by simp
   rw [e1];clear e1 he;generalize hv:(!wtL (cut xs (p:Int) (q:Int)) xa)=v;have HV:Hid ((!wtL (cut xs (p:Int) (q:Int)) xa)=v):=hv;clear hv;go_enter Tryz.func135,Tryz.ntmps135;go_wp2_with fail
   go_quiet (fail)
   have HB0:Hid (Below w.heap.size w (w.drewN nq)):=drewN_below (Below.refl _ _) nq;go_wp2_with fail
   go_loopw [11] (fun i wr=>∃ t:Nat,p<=t/\t<=q/\i=.int .i64 t/\Below w.heap.size w wr/\wtL (cut xs p t) xa=false) (fun i _=>q-(intOf i).toNat)
   case atStart=>exact ⟨p,by omega,hpq,rfl,HB0.out,by unfold cut;simp [wtL]⟩
   case round=>
    rename World=>wr;obtain ⟨t,hpt,htq,rfl,hbw,hno⟩:=hrel;have HB:Hid (Below w.heap.size w wr):=hbw
    by_cases hlt:t<q
    ·have htl:t<xs.length:=by omega
     have hti:(t:Int)<q:=by omega
     have hti2:(t:Int)<xs.length:=by omega
     obtain ⟨c0,c1,c2,c3,c4⟩:=HX.out wr hbw t htl;have hok:=HO.out _ (List.getElem_mem htl);have HN:Hid (wtL (cut xs p (t+1:Nat)) xa=wt xa xs[t]):=by
      show wtL (cut xs p (t+1:Nat)) xa=wt xa xs[t];rw [cut_succ hpt htl];unfold wtL at hno ⊢;rw [List.any_append,hno];simp
     have HT:Hid (wt xa xs[t]=true->wtL (cut xs p q) xa=true):=fun e=>by
      refine List.any_eq_true.2 ⟨_,?_,e⟩;unfold cut;rw [List.mem_iff_getElem];refine ⟨t-p,by simp;omega,?_⟩;simp only [Int.toNat_natCast,List.getElem_take,List.getElem_drop]
      congr 1;omega
     clear hbw hno x0 x1 x2 x3 x4 y0 y1 y2 y3 y4 hA;generalize xs[t]=o at *;have HC:Hid (∀ W,Calls Tryz.prog 36 #[o.val] W fun e w'=>e=.returned (.tuple #[.int .u8 (wrD o),.bool (wrB o)])/\Below W.heap.size W w'):=fun W=>refWrites_any o W hok;have hwt:=wt_eq xa o;clear hok
     cases hw:wrB o
     ·rw [hw] at HC hwt;rw [hwt] at HN;have HN2:Hid (wtL (cut xs p (t+1:Nat)) xa=false):=by
       show wtL (cut xs p (t+1:Nat)) xa=false
       have:=HN.out
       simpa using this
      clear hw HN HT hwt;go_wp2_with (first|(go_at_call 36;refine Calls.mono (HC.out _) ?_;rintro e w1 ⟨rfl,hb⟩;have HB1:Hid (Below w.heap.size w w1):=HB.out.trans (hb.mono HB.out.size);clear hb HC))
      go_roundw
      case rel=>exact ⟨t+1,by omega,by omega,by go_num,HB1.out,HN2.out⟩
      case measure=>simp [intOf];omega
     ·rw [hw] at HC hwt
      cases hd:(wrD o==xa)
      ·rw [hd] at hwt;rw [hwt] at HN;have HN2:Hid (wtL (cut xs p (t+1:Nat)) xa=false):=by
        show wtL (cut xs p (t+1:Nat)) xa=false
        have:=HN.out
        simpa using this
       clear hw HN HT hwt;generalize wrD o=wd at *;go_wp2_with (first|(go_at_call 36;refine Calls.mono (HC.out _) ?_;rintro e w1 ⟨rfl,hb⟩;have HB1:Hid (Below w.heap.size w w1):=HB.out.trans (hb.mono HB.out.size);have hA:=HA.out w1 HB1.out;clear hb HC))
       go_roundw
       case rel=>exact ⟨t+1,by omega,by omega,by go_num,HB1.out,HN2.out⟩
       case measure=>simp [intOf];omega
      ·rw [hd] at hwt;have HT2:Hid (wtL (cut xs p q) xa=true):=HT.out (by rw [hwt];rfl);have hd':wrD o=xa:=beq_iff_eq.1 hd;rw [hd'] at HC;clear hw HN HT hwt hd hd';go_wp2_with (first|(go_at_call 36;refine Calls.mono (HC.out _) ?_;rintro e w1 ⟨rfl,hb⟩;have HB1:Hid (Below w.heap.size w w1):=HB.out.trans (hb.mono HB.out.size);have hA:=HA.out w1 HB1.out;clear hb HC))
       go_ret
       exact ⟨by rw [<- HV.out,HT2.out];rfl,HB1.out⟩
    ·obtain rfl:t=q:=by omega
     have HN:Hid (wtL (cut xs p t) xa=false):=hno;clear hno hbw;go_wp2_with fail
     go_ret
     exact ⟨by rw [<- HV.out,HN.out];rfl,HB.out⟩
  ·rw [he] at hmod;have e1:(!(!(xa==xa) || true || wtL (cut xs p q) xa))=false:=by simp
   rw [e1];clear e1 he;go_enter Tryz.func135,Tryz.ntmps135;go_wp2_with fail
   go_quiet (fail)
   go_wp2_with fail
   go_ret
   exact ⟨rfl,drewN_below (Below.refl _ _) nq⟩
 ·have e1:(!(!(xa==ya) || (xi%256==yi%256) || wtL (cut xs p q) xa))=false:=by simp [ha]
  rw [e1];clear e1;go_enter Tryz.func135,Tryz.ntmps135;go_wp2_with fail
  go_quiet (fail)
  go_wp2_with fail
  go_ret
  exact ⟨rfl,drewN_below (Below.refl _ _) nq⟩
theorem refMeet_any (ao:Option Addr) (cap:Nat) (xs:List O) (i j:Int) (w:World) (h:OpsAt w ao xs) :
  Calls Tryz.prog 98 #[.slice ao xs.length cap,.int .i64 i,.int .i64 j] w fun e w'=>e=.returned (.bool (meetB xs i j))/\Below w.heap.size w w':=by
 have HP:Hid (Calls Tryz.prog 134 #[.slice ao xs.length cap,.int .i64 i,.int .i64 j] w fun e w'=>e=.returned (.bool (pairB xs i j))/\Below w.heap.size w w'):=two_any ao cap xs i j w h;have hdef:meetB xs i j=(decide (i<j)&&pairB xs i j&&may (atL xs i) (atL xs j) (cut xs i j)):=rfl;rw [hdef];clear hdef
 by_cases hij:i<j
 rotate_left
 ·rw [decide_eq_false hij];have hij2:j<=i:=by omega
  clear h HP hij;go_enter Tryz.func98,Tryz.ntmps98;go_wp2_with fail
  go_ret
  exact ⟨rfl,Below.refl _ _⟩
 rw [decide_eq_true hij]
 cases hp:pairB xs i j
 ·rw [hp] at HP;clear h hp;go_enter Tryz.func98,Tryz.ntmps98;go_wp2_with (first|(go_at_call 134;refine Calls.mono HP.out ?_;rintro e w1 ⟨rfl,hb⟩))
  go_ret
  exact ⟨rfl,hb⟩
 ·rw [hp] at HP;obtain ⟨k,m,hk,hm,rfl,rfl⟩:=pair_in hp;rw [atL_at hk,atL_at hm];obtain ⟨b,f,rfl,hz,hx⟩:=h.is (by omega);have HM:Hid (∀ W,Below w.heap.size w W->Calls Tryz.prog 135 #[.slice (some ⟨b,f,none⟩) xs.length cap,.int .i64 k,.int .i64 m,.int .i64 k,.int .i64 m] W fun e w'=>e=.returned (.bool (!may xs[k] xs[m] (cut xs k m)))/\Below W.heap.size W w'):=fun W hb=>apart_any b f cap xs k m k m W (h.below hb) hk hm (by omega) (by omega);clear h hp hx;generalize may xs[k] xs[m] (cut xs k m)=v at *;go_enter Tryz.func98,Tryz.ntmps98;go_wp2_with (first|(go_at_call 134;refine Calls.mono HP.out ?_;rintro e w1 ⟨rfl,hb⟩;have HB:Hid (Below w.heap.size w w1):=hb;clear hb HP)|(go_at_call 135;refine Calls.mono (HM.out _ HB.out) ?_;rintro e w2 ⟨rfl,hb⟩;have HB2:Hid (Below w.heap.size w w2):=HB.out.trans (hb.mono HB.out.size);clear hb HM))
  go_ret
  exact ⟨ret_bool (by simp),HB2.out⟩
end Go.Proofs.YtcmlnemokckbdaaGreatDoor.Al
namespace Go.Proofs.YtcmlnemokckbdaaGreatDoor.Dp
open Go.ChangeShapes Go.WideShapes Go.ChangeAt Go.RowKit
open YtcmlnemokckbdaaGreatDoor.Op YtcmlnemokckbdaaGreatDoor.So
open YtcmlnemokckbdaaGreatDoor.Tb (Tab TabAt Bnds)
def okL (o:O):Bool:=decide (1<=o.op)&&decide (o.op<=17)&&okO o
def lisE (t:Tab) (xs:List O):Int:=if t.ok=false then 20 else if 1024<xs.length then 3 else if xs.all okL then 0 else 30
theorem all_take {xs:List O} {k:Nat} (h:k<xs.length):(xs.take (k+1)).all okL=((xs.take k).all okL&&okL xs[k]):=by
 rw [List.take_succ_eq_append_getElem h,List.all_append];simp
theorem all_no {xs:List O} {k:Nat} (h:k<xs.length) (hb:okL xs[k]=false):xs.all okL=false:=by
 cases e:xs.all okL
 ·rfl
 ·rw [List.all_eq_true.1 e _ (List.getElem_mem h)] at hb;cases hb
theorem lis_any (ao:Option Addr) (cap:Nat) (xs:List O) (t:Tab) (w:World) (hG:Bnds w) (h:OpsAt w ao xs) :
  Calls Tryz.prog 125 #[.slice ao xs.length cap,t.val] w fun e w'=>e=.returned (.int .i64 (lisE t xs))/\Below w.heap.size w w':=by
 have HC:Hid (∀ W,Bnds W->Calls Tryz.prog 154 #[t.val] W fun e w'=>e=.returned (.int .i64 (Tb.ckR t))/\Below W.heap.size W w'):=fun W hG=>Tb.check_any t W hG;have HO:Hid (OpsAt w ao xs):=h;have HB:Hid (Bnds w):=hG;have hlen:=h.len;have hdef:lisE t xs=if t.ok=false then 20 else if 1024<xs.length then 3 else if xs.all okL then 0 else 30:=rfl;rw [hdef];clear hdef h hG;have hck:Tb.ckR t=if t.ok then 0 else 20:=rfl;have hA:Hid (∀ (c:Array Value),Bnds (w.alloc (.cells c 28))):=fun c=>HB.out.below ((Below.refl w.heap.size w).alloc (Nat.le_refl _) _) HB.out.big;unfold Tab.val at *
 cases hok:t.ok
 ·rw [hok] at hck;have hck':Tb.ckR t=20:=hck;rw [hck'] at HC;rw [if_pos rfl];go_enter Tryz.func125,Tryz.ntmps125;go_wp2_with (first|(go_at_call 154;refine Calls.mono (HC.out _ (hA.out _)) ?_;rintro e w1 ⟨rfl,hb⟩;obtain ⟨-,hb0,hz⟩:=one_new w _ _ hb;have HB1:Hid (Below w.heap.size w w1):=hb0;clear hb hb0))
  go_ret
  exact ⟨rfl,HB1.out⟩
 ·rw [hok] at hck;have hck':Tb.ckR t=0:=hck;rw [hck'] at HC;rw [if_neg (by decide)]
  by_cases hl:1024<xs.length
  ·have hl':(1024:Int)<(xs.length:Int):=by omega
   rw [if_pos hl];go_enter Tryz.func125,Tryz.ntmps125;go_wp2_with (first|(go_at_call 154;refine Calls.mono (HC.out _ (hA.out _)) ?_;rintro e w1 ⟨rfl,hb⟩;obtain ⟨-,hb0,hz⟩:=one_new w _ _ hb;have HB1:Hid (Below w.heap.size w w1):=hb0;clear hb hb0))
   go_ret
   exact ⟨rfl,HB1.out⟩
  ·have hl':¬ (1024:Int)<(xs.length:Int):=by omega
   rw [if_neg hl];obtain ⟨v,hv⟩:∃ v:Int,(if xs.all okL then (0:Int) else 30)=v:=⟨_,rfl⟩;rw [hv];have HV0:Hid (xs.all okL=true->0=v):=fun h=>by rw [<- hv,h];rfl
   have HV1:Hid (xs.all okL=false->30=v):=fun h=>by rw [<- hv,h];rfl
   clear hv;go_enter Tryz.func125,Tryz.ntmps125;go_wp2_with (first|(go_at_call 154;refine Calls.mono (HC.out _ (hA.out _)) ?_;rintro e w1 ⟨rfl,hb⟩;obtain ⟨-,hb0,hz⟩:=one_new w _ _ hb;have HB1:Hid (Below w.heap.size w w1):=hb0;clear hb hb0))
   go_loopw [18] (fun i wr=>∃ k:Nat,k<=xs.length/\i=.int .i64 k/\Below w.heap.size w wr/\(xs.take k).all okL=true) (fun i _=>xs.length-(intOf i).toNat)
   case atStart=>exact ⟨0,by omega,rfl,HB1.out,by simp⟩
   case round=>
    rename World=>wr;obtain ⟨k,hk,rfl,hbw,hall⟩:=hrel;have HB2:Hid (Below w.heap.size w wr):=hbw;have HAl:Hid ((xs.take k).all okL=true):=hall;clear hbw HB1 hall
    by_cases hlt:k<xs.length
    ·have k0:(0:Int)<=(k:Int):=by omega
     have k1:(k:Int)<(xs.length:Int):=by omega
     obtain ⟨b,f,rfl,hz2,hx⟩:=(HO.out.below HB2.out).is (by omega);obtain ⟨q0,q1,q2,q3,q4⟩:=hx k hlt;have HN:Hid ((xs.take (k+1)).all okL=okL xs[k]):=by show (xs.take (k+1)).all okL=okL xs[k];rw [all_take hlt,HAl.out,Bool.true_and]
     have HT:Hid (okL xs[k]=false->xs.all okL=false):=all_no hlt;have hOk:xs[k].Ok:=HO.out.ok _ (List.getElem_mem hlt);clear hx HAl;generalize xs[k]=o at *;have HCk:Hid (∀ W,Calls Tryz.prog 99 #[o.val] W fun e w'=>e=.returned (.int .i64 (ckE o))/\Below W.heap.size W w'):=fun W=>Op.check_any o W hOk;clear hOk
     by_cases h1:o.op<1
     ·go_wp2_with fail
      go_ret
      exact ⟨ret_int (HV1.out (HT.out (by simp [okL];omega))),HB2.out.trans ((Below.refl _ _).alloc HB2.out.size _)⟩
     ·by_cases h2:17<o.op
      ·go_wp2_with fail
       go_ret
       exact ⟨ret_int (HV1.out (HT.out (by simp [okL];omega))),HB2.out.trans ((Below.refl _ _).alloc HB2.out.size _)⟩
      ·have e1:okL o=okO o:=by
        have:decide (1<=o.op)=true:=by simp;omega
        have h4:decide (o.op<=17)=true:=by simp;omega
        unfold okL;rw [this,h4];rfl
       rw [e1] at HN HT;clear e1
       cases hoo:okO o
       ·rw [show ckE o=30 by simp [ckE,hoo]] at HCk;go_wp2_with (first|(go_at_call 99;refine Calls.mono (HCk.out _) ?_;rintro e w2 ⟨rfl,hb⟩;obtain ⟨-,hb0,hz⟩:=one_new wr _ _ hb;have HB3:Hid (Below w.heap.size w w2):=HB2.out.trans (hb0.mono HB2.out.size);clear hb hb0))
        go_ret
        exact ⟨ret_int (HV1.out (HT.out hoo)),HB3.out⟩
       ·rw [show ckE o=0 by simp [ckE,hoo]] at HCk;go_wp2_with (first|(go_at_call 99;refine Calls.mono (HCk.out _) ?_;rintro e w2 ⟨rfl,hb⟩;obtain ⟨-,hb0,hz⟩:=one_new wr _ _ hb;have HB3:Hid (Below w.heap.size w w2):=HB2.out.trans (hb0.mono HB2.out.size);clear hb hb0))
        go_roundw
        case rel=>exact ⟨k+1,by omega,by go_num,HB3.out,by rw [HN.out,hoo]⟩
        case measure=>simp [intOf];omega
    ·have z2:¬ (k:Int)<(xs.length:Int):=by omega
     have HA2:Hid (xs.all okL=true):=by
      have h:=HAl.out;rw [List.take_of_length_le (by omega)] at h;exact h
     clear HAl;go_wp2_with fail
     go_ret
     exact ⟨ret_int (HV0.out HA2.out),HB2.out⟩
end Go.Proofs.YtcmlnemokckbdaaGreatDoor.Dp
