/- Parts Ja Jb. -/
import Derived.Test.YtpdaknbmcpmhjaaGreatDoorN12
import Derived.Great.Walk
import Derived.Great.Ranges
import Derived.Deep.MidRow
import Derived.BigRegion
import Derived.Test.YtpdaknbmcpmhjaaGreatDoorN00
set_option maxRecDepth 20000
set_option maxHeartbeats 16000000
namespace Go.Proofs.YtpdaknbmcpmhjaaGreatDoor.Dl
open Go.ChangeShapes Go.WideShapes Go.ChangeAt Go.RowKit Go.Great
open YtpdaknbmcpmhjaaGreatDoor.Op YtpdaknbmcpmhjaaGreatDoor.So YtpdaknbmcpmhjaaGreatDoor.Dp YtpdaknbmcpmhjaaGreatDoor.Ls
open YtpdaknbmcpmhjaaGreatDoor.Tb (Tab TabAt Bnds)
theorem classOf_any (o:O) (w:World):Calls Tryz.prog 223 #[o.val] w fun e w'=>e=.returned (.int .i64 (clD o.op:Int))/\Below w.heap.size w w':=by
 unfold clD
 by_cases h1:15<=o.op
 ·rw [if_pos h1];go_enter Tryz.func223,Tryz.ntmps223;go_wp2
  go_ret
  exact ⟨rfl,by go_grown⟩
 ·rw [if_neg h1]
  by_cases h2:12<=o.op
  ·rw [if_pos h2];go_enter Tryz.func223,Tryz.ntmps223;go_wp2
   go_ret
   exact ⟨rfl,by go_grown⟩
  ·rw [if_neg h2];go_enter Tryz.func223,Tryz.ntmps223;go_wp2
   go_ret
   exact ⟨rfl,by go_grown⟩
theorem writes_any (o:O) (w:World):Calls Tryz.prog 224 #[o.val] w fun e w'=>e=.returned (.bool (decide (o.op<=15)))/\Below w.heap.size w w':=by
 by_cases h:o.op<=15
 ·go_enter Tryz.func224,Tryz.ntmps224;go_wp2
  go_ret
  exact ⟨by simp [h],by go_grown⟩
 ·go_enter Tryz.func224,Tryz.ntmps224;go_wp2
  go_ret
  exact ⟨by simp [h],by go_grown⟩
def tuL (f d y:Int):Int:=max d (f+1+y)
theorem turn_any (f d y:Int) (w:World) (hf : -1000000<=f/\f<=1000000) (hd : -1000000<=d/\d<=1000000) (hy:0<=y/\y<=1000):Calls Tryz.prog 93 #[.int .i64 f,.int .i64 d,.int .i64 y] w fun e w'=>e=.returned (.tuple #[.int .i64 (tuL f d y-1-y),.int .i64 (tuL f d y)])/\w'=w:=by
 obtain ⟨f0,f1⟩:=hf;obtain ⟨d0,d1⟩:=hd;obtain ⟨y0,y1⟩:=hy;have w1:IntKind.i64.wrap (f+1)=f+1:=by rw [IntKind.wrap_i64];omega
 have w2:IntKind.i64.wrap (f+1+y)=f+1+y:=by rw [IntKind.wrap_i64];omega
 have m0 : -1000000<=max d (f+1+y):=by omega
 have m1:max d (f+1+y)<=2000000:=by omega
 have w3:IntKind.i64.wrap (max d (f+1+y)-1)=max d (f+1+y)-1:=by rw [IntKind.wrap_i64];omega
 have w4:IntKind.i64.wrap (max d (f+1+y)-1-y)=max d (f+1+y)-1-y:=by rw [IntKind.wrap_i64];omega
 unfold tuL;go_enter Tryz.func93,Tryz.ntmps93;go_wp2
 go_ret2
 exact ⟨rfl,rfl⟩
def enB (x:Bk):Bool:=decide (x.fin=0) || ((decide (x.fin=1) || decide (x.fin=2) || decide (x.fin=3))&&decide (x.a<32))
theorem endHolds_any (x:Bk) (p:Pl) (w:World):Calls Tryz.prog 162 #[x.val p] w fun e w'=>e=.returned (.bool (enB x))/\Below w.heap.size w w':=by
 unfold enB;have fin4:∀ n:Int,(n==0)=decide (n=0):=fun n=>by by_cases h:n=0 <;> simp [h]
 by_cases h0:x.fin=0
 ·rw [h0];have HR:Hid (true=(decide ((0:Int)=0) || ((decide ((0:Int)=1) || decide ((0:Int)=2) || decide ((0:Int)=3))&&decide (x.a<32)))):=by show _=_;simp
  revert HR;generalize (decide ((0:Int)=0) || ((decide ((0:Int)=1) || decide ((0:Int)=2) || decide ((0:Int)=3))&&decide (x.a<32)))=r;intro HR
  obtain ⟨ops,fin,a,body,thn,els⟩:=x;subst h0;go_enter Tryz.func162,Tryz.ntmps162;go_wp2
  go_ret
  exact ⟨ret_bool HR.out,by go_grown⟩
 ·by_cases h1:x.fin=1\/x.fin=2\/x.fin=3
  ·have HR:Hid (decide (x.a<32)=(decide (x.fin=0) || ((decide (x.fin=1) || decide (x.fin=2) || decide (x.fin=3))&&decide (x.a<32)))):=by
    show _=_;rcases h1 with h|h|h <;> simp [h]
   revert HR;generalize (decide (x.fin=0) || ((decide (x.fin=1) || decide (x.fin=2) || decide (x.fin=3))&&decide (x.a<32)))=r;intro HR
   obtain ⟨ops,fin,a,body,thn,els⟩:=x;simp only at h1 h0 HR
   rcases h1 with rfl|rfl|rfl
   ·by_cases ha:a<32
    ·go_enter Tryz.func162,Tryz.ntmps162;go_wp2
     go_ret
     exact ⟨by rw [<- HR.out];simp [ha],by go_grown⟩
    ·go_enter Tryz.func162,Tryz.ntmps162;go_wp2
     go_ret
     exact ⟨by rw [<- HR.out];simp [ha],by go_grown⟩
   ·by_cases ha:a<32
    ·go_enter Tryz.func162,Tryz.ntmps162;go_wp2
     go_ret
     exact ⟨by rw [<- HR.out];simp [ha],by go_grown⟩
    ·go_enter Tryz.func162,Tryz.ntmps162;go_wp2
     go_ret
     exact ⟨by rw [<- HR.out];simp [ha],by go_grown⟩
   ·by_cases ha:a<32
    ·go_enter Tryz.func162,Tryz.ntmps162;go_wp2
     go_ret
     exact ⟨by rw [<- HR.out];simp [ha],by go_grown⟩
    ·go_enter Tryz.func162,Tryz.ntmps162;go_wp2
     go_ret
     exact ⟨by rw [<- HR.out];simp [ha],by go_grown⟩
  ·have HR:Hid (false=(decide (x.fin=0) || ((decide (x.fin=1) || decide (x.fin=2) || decide (x.fin=3))&&decide (x.a<32)))):=by
    show _=_;simp only [not_or] at h1;simp [h0,h1.1,h1.2.1,h1.2.2]
   revert HR;generalize (decide (x.fin=0) || ((decide (x.fin=1) || decide (x.fin=2) || decide (x.fin=3))&&decide (x.a<32)))=r;intro HR
   obtain ⟨ops,fin,a,body,thn,els⟩:=x;simp only [not_or] at h1 h0 HR;obtain ⟨h1,h2,h3⟩:=h1;have e0:(fin==0)=false:=by simpa using h0
   have e1:(fin==1)=false:=by simpa using h1
   have e2:(fin==2)=false:=by simpa using h2
   have e3:(fin==3)=false:=by simpa using h3
   go_enter Tryz.func162,Tryz.ntmps162;go_wp2
   go_ret
   exact ⟨ret_bool HR.out,by go_grown⟩
def oAt (xs:List O) (k:Nat):O:=xs.getD k ⟨0,0,0,0,0⟩
theorem oAt_at {xs:List O} {k:Nat} (h:k<xs.length):oAt xs k=xs[k]:=by unfold oAt;simp [List.getD,h]
def laI (t:Tab) (xs:List O) (g:Nat->Int) (k:Nat):Int:=g k+t.l (clD (oAt xs k).op)
def frI (t:Tab) (xs:List O) (g:Nat->Int) (k:Nat):Int:=g k+t.b (clD (oAt xs k).op)
def drI (t:Tab) (xs:List O) (g:Nat->Int):Nat->Int
 | 0=>0
 | k+1=>max (max (drI t xs g k) (laI t xs g k)) (frI t xs g k)
def rsI (t:Tab) (xs:List O) (g:Nat->Int):Nat->Int
 | 0=>0
 | k+1=>max (rsI t xs g k) (laI t xs g k)
def lnI (t:Tab) (xs:List O) (g:Nat->Int):Nat->Nat->Int
 | 0=>fun _=>0
 | k+1=>if (oAt xs k).op<=15 then updI (lnI t xs g k) (oAt xs k).d.toNat (laI t xs g k) else lnI t xs g k
def lnC (f:Nat->Int):List Value:=(List.range 32).map fun j=>.int .i64 (f j)
theorem lnC_len (f:Nat->Int):(lnC f).length=32:=by unfold lnC;simp
theorem lnC_at (f:Nat->Int) {j:Nat} (h:j<32):(lnC f)[j]?=some (.int .i64 (f j)):=by
 unfold lnC;rw [List.getElem?_map,List.getElem?_range h];rfl
theorem lnC_one (f:Nat->Int):(lnC f).toArray.all (·.oneCell')=true:=by
 refine all_oneCell_toArray fun v hv=>?_;unfold lnC at hv;obtain ⟨j,_,rfl⟩:=List.mem_map.1 hv;rfl
theorem ir_range {W:World} {b:Nat} {f:Nat->Int} (h:Ir W b 32 f):W.rangeAt b 0 (lnC f):=fun j v hv=>by
 have hj:j<32:=by
  have:=(List.getElem?_eq_some_iff.1 hv).1
  rwa [lnC_len] at this
 rw [lnC_at f hj] at hv
 cases hv
 rw [Nat.zero_add];exact h.c j hj
theorem ir_there {W:World} {b:Nat} {f:Nat->Int} (h:Ir W b 32 f) (g:Nat->Int):W.there b 0 (lnC g).toArray.size:=fun j hj=>by
 rw [List.size_toArray,lnC_len] at hj;rw [Nat.zero_add,h.c j hj];exact ⟨rfl,h.f j⟩
def zc32:List Value:=List.replicate 32 (.int .i64 0)
theorem ir_new (W:World) (t:TypeId):Ir (W.alloc (.cells zc32.toArray t)) W.heap.size 32 (fun _=>0):=by
 have h:=At.new W zc32.toArray t;refine ⟨fun k hk=>h.c k _ ?_,h.f,h.lt⟩;rw [List.getElem?_toArray];unfold zc32;rw [List.getElem?_replicate,if_pos hk]
theorem infoLn:(Tryz.prog.info? 161).map (·.size)=some 32:=by kernel_rfl
structure Pd (w W:World) (t:Tab) (f:Nat->Int):Prop where
 t:TabAt W w.heap.size t
 ir:Ir W (w.heap.size+1) 32 f
 up:Below w.heap.size w W
theorem Pd.next {w W W':World} {t:Tab} {f:Nat->Int} (h:Pd w W t f) (g:Below W.heap.size W W'):Pd w W' t f:=⟨h.t.below g h.t.lt,h.ir.up g,h.up.trans (g.mono h.up.size)⟩
theorem Pd.set {w W:World} {t:Tab} {f:Nat->Int} (h:Pd w W t f) {k:Nat} (hk:k<32) (v:Int):Pd w (W.setCell ⟨w.heap.size+1,k,none⟩ (.int .i64 v)) t (updI f k v):=
 ⟨h.t.below ((Below.refl (w.heap.size+1) W).setCell (Nat.le_refl _) _) (by omega),h.ir.set hk v,h.up.setCell (by show w.heap.size<=w.heap.size+1;omega) _⟩
theorem mx (a b:Int):(if a<b then b else a)=max a b:=by split <;> omega
structure Px (w W:World) (t:Tab) (f:Nat->Int) (ob:Nat) (o:O):Prop where
 p:Pd w W t f
 a:At W ob o.cells
theorem Px.next {w W W':World} {t:Tab} {f:Nat->Int} {ob:Nat} {o:O} (h:Px w W t f ob o) (g:Below W.heap.size W W'):Px w W' t f ob o:=⟨h.p.next g,h.a.below g h.a.lt⟩
theorem drewN_dl (W:World) (n:Nat):Below W.heap.size W (W.drewN n):=⟨rfl,rfl,rfl,Nat.le_refl _,fun _ _=>rfl⟩
theorem fr_setCells {X:Nat->Prop} {b:Nat} (hb:X b):∀ (vs:List Value) (o:Nat) {w0 w:World},So.Fr X w0 w->So.Fr X w0 (w.setCells b o vs)
 | [],_,_,_,h=>h
 | v::r,o,_,_,h=>fr_setCells hb r (o+1) (h.setCell (.inr hb) o v)
theorem froz_setCells (b:Nat):∀ (vs:List Value) (o:Nat) (w:World) (a:Addr),(w.setCells b o vs).frozen? a=w.frozen? a
 | [],_,_,_=>rfl
 | v::r,o,w,a=>(froz_setCells b r (o+1) (w.setCell ⟨b,o,none⟩ v) a).trans (World.frozen?_setCell ..)
theorem pd_new (w:World) (t:Tab):Pd w ((w.alloc (.cells t.cells 27)).alloc (.cells zc32.toArray 161)) t (fun _=>0):=by
 have h2:=Tb.tabAt_new w t 27;have h3:=ir_new (w.alloc (.cells t.cells 27)) 161;rw [show (w.alloc (.cells t.cells 27)).heap.size=w.heap.size+1 by simp] at h3;exact ⟨h2.below ((Below.refl _ _).alloc (Nat.le_refl _) _) h2.lt,h3,by go_grown⟩
theorem d_in {o:O} (ho:o.Ok) (hk:okL o=true) (h:o.op<=15):0<=o.d/\o.d<=31:=by
 refine ⟨ho.d0,?_⟩;simp only [okL,Bool.and_eq_true,decide_eq_true_eq] at hk;obtain ⟨⟨h1,h2⟩,h3⟩:=hk;have h17:o.op.toNat<18:=by omega
 have e:((o.op.toNat : Nat):Int)=o.op:=by omega
 cases hkk:kOf o.op with
 | none=>rw [okO_none hkk] at h3;cases h3
 | some k=>
  rw [okO_some hkk] at h3;have hD:k.D=true:=by
   have h16:o.op.toNat<16:=by omega
   rw [<- e] at hkk;generalize o.op.toNat = n at *
   have:∀ n:Nat,n<16->1<=(n:Int)->∀ k,kOf (n:Int)=some k->k.D=true:=by decide
   exact this n h16 (by omega) k hkk
  simp only [okF,Bool.and_eq_true,hD] at h3
  have:=h3.1.1.1
  simp [rH] at this
  omega
theorem passed_any (ao a:Option Addr) (cap ccap:Nat) (xs:List O) (t:Tab) (g:Nat->Int) (w:World) (h:OpsAt w ao xs) (hg:Nl w a xs.length g) (hr:∀ k,k<xs.length->0<=g k/\g k<=65536) (ht:t.ok=true) (hok:∀ o∈xs,okL o=true) (hn:xs.length<=1024) :
  Calls Tryz.prog 164 #[.slice ao xs.length cap,t.val,.slice a xs.length ccap] w fun e w'=>e=.returned (.tuple #[.int .i64 (drI t xs g xs.length),.int .i64 (rsI t xs g xs.length),.agg (lnC (lnI t xs g xs.length)).toArray])/\Below w.heap.size w w':=by
 have HO:Hid (OpsAt w ao xs):=h;have HG:Hid (Nl w a xs.length g):=hg;have HR:Hid (∀ k,k<xs.length->0<=g k/\g k<=65536):=hr;have HK:Hid (∀ o∈xs,okL o=true):=hok;have HT:Hid (∀ k,k<4->(1<=t.l k/\t.l k<=8)/\1<=t.b k/\t.b k<=4):=fun k hk=>⟨Tb.inB_iff ((Tb.ok_parts ht).2 k hk).2.1,Tb.inB_iff ((Tb.ok_parts ht).2 k hk).2.2⟩;have hn':(xs.length:Int)<=1024:=by omega
 have HS:Hid (Pd w ((w.alloc (.cells t.cells 27)).alloc (.cells zc32.toArray 161)) t (fun _=>0)):=pd_new w t;have HB:Hid (∀ k,k<=xs.length->(0<=drI t xs g k/\drI t xs g k<=70000)/\0<=rsI t xs g k/\rsI t xs g k<=70000):=by
  intro k
  induction k with
  | zero=>intro _;exact ⟨⟨Int.le_refl _,by show (0:Int)<=70000;decide⟩,Int.le_refl _,by show (0:Int)<=70000;decide⟩
  | succ k ih=>
   intro hk;have i1:=ih (by omega);have r1:=hr k (by omega);have t1:=(HT.out (clD (oAt xs k).op) (clD_lt _));simp only [drI,rsI,laI,frI];omega
 clear h hg hr hok ht;unfold Tab.val;go_enter Tryz.func164,Tryz.ntmps164;go_upto_region 1 with (first
  | (refine wpList_allocTo rfl (some 8) rfl (.pointer (some ⟨(w.alloc (.cells t.cells 27)).heap.size,0,none⟩)) (.cells zc32.toArray 161) (by kernel_rfl) ?_))
 generalize (w.alloc (.cells t.cells 27)).alloc (.cells zc32.toArray 161)=W0 at *;go_wp2_with fail
 go_loopw [6,7,16] (fun d r i wr=>∃ k:Nat,k<=xs.length/\d=.int .i64 (drI t xs g k)/\r=.int .i64 (rsI t xs g k)/\i=.int .i64 k/\Pd w wr t (lnI t xs g k)) (fun _ _ i _=>xs.length-(intOf i).toNat)
 case atStart=>exact ⟨0,by omega,rfl,rfl,rfl,HS.out⟩
 case round=>
  rename World=>wr;obtain ⟨k,hk,rfl,rfl,rfl,hs⟩:=hrel;have HQ:Hid (Pd w wr t (lnI t xs g k)):=hs;clear hs HS
  by_cases hlt:k<xs.length
  ·have k0:(0:Int)<=(k:Int):=by omega
   have k1:(k:Int)<(xs.length:Int):=by omega
   obtain ⟨b,f,rfl,hz2,hx⟩:=(HO.out.below HQ.out.up).is (by omega);obtain ⟨q0,q1,q2,q3,q4⟩:=hx k hlt;have HQ2:Hid (Pd w (wr.alloc (.cells #[.int .i8 xs[k].op,.int .u8 xs[k].d,.int .u8 xs[k].a,.int .u8 xs[k].b,.int .i64 xs[k].im] 60)) t (lnI t xs g k)/\At (wr.alloc (.cells #[.int .i8 xs[k].op,.int .u8 xs[k].d,.int .u8 xs[k].a,.int .u8 xs[k].b,.int .i64 xs[k].im] 60)) wr.heap.size xs[k].cells):=⟨HQ.out.next ((Below.refl _ _).alloc (Nat.le_refl _) _),At.new _ _ _⟩;clear hx;have HC:Hid (∀ W,Calls Tryz.prog 223 #[.agg #[.int .i8 xs[k].op,.int .u8 xs[k].d,.int .u8 xs[k].a,.int .u8 xs[k].b,.int .i64 xs[k].im]] W fun e w'=>e=.returned (.int .i64 (clD xs[k].op:Int))/\Below W.heap.size W w'):=fun W=>classOf_any xs[k] W;have HW:Hid (∀ W,Calls Tryz.prog 224 #[.agg #[.int .i8 xs[k].op,.int .u8 xs[k].d,.int .u8 xs[k].a,.int .u8 xs[k].b,.int .i64 xs[k].im]] W fun e w'=>e=.returned (.bool (decide (xs[k].op<=15)))/\Below W.heap.size W w'):=fun W=>writes_any xs[k] W;have HD:Hid (xs[k].op<=15->0<=xs[k].d/\xs[k].d<=31):=fun h15=>d_in (HO.out.ok _ (List.getElem_mem hlt)) (HK.out _ (List.getElem_mem hlt)) h15;have hla:laI t xs g k=g k+t.l (clD xs[k].op):=by unfold laI;rw [oAt_at hlt]
   have hfr:frI t xs g k=g k+t.b (clD xs[k].op):=by unfold frI;rw [oAt_at hlt]
   have HN1:Hid (drI t xs g (k+1)=max (max (drI t xs g k) (laI t xs g k)) (frI t xs g k)/\rsI t xs g (k+1)=max (rsI t xs g k) (laI t xs g k)):=⟨rfl,rfl⟩;have HN2:Hid (xs[k].op<=15->lnI t xs g (k+1)=updI (lnI t xs g k) xs[k].d.toNat (laI t xs g k)):=fun h15=>by
    show (if (oAt xs k).op<=15 then _ else _)=_;rw [oAt_at hlt,if_pos h15]
   have HN3:Hid (¬ xs[k].op<=15->lnI t xs g (k+1)=lnI t xs g k):=fun h15=>by
    show (if (oAt xs k).op<=15 then _ else _)=_;rw [oAt_at hlt,if_neg h15]
   have hb:=HB.out k hk;have hgk:=HR.out k hlt;obtain ⟨b2,f2,rfl,hz3,hc2⟩:=(HG.out.up HQ.out.up).is (by omega);have hck:=hc2 k hlt;clear hc2;obtain ⟨c,hc⟩:∃ c,clD xs[k].op=c:=⟨_,rfl⟩;have c4:c<4:=by rw [<- hc];exact clD_lt _
   have htc:=HT.out c c4;rw [hc] at HC hla hfr;clear hc;generalize xs[k]=o at *;obtain ⟨dd,hdd⟩:∃ d,drI t xs g k=d:=⟨_,rfl⟩;obtain ⟨rr,hrr⟩:∃ d,rsI t xs g k=d:=⟨_,rfl⟩;obtain ⟨ff,hff⟩:∃ d,lnI t xs g k=d:=⟨_,rfl⟩;obtain ⟨gk,hgg⟩:∃ d,g k=d:=⟨_,rfl⟩;obtain ⟨lc,hlc⟩:∃ d,t.l c=d:=⟨_,rfl⟩;obtain ⟨bc,hbc⟩:∃ d,t.b c=d:=⟨_,rfl⟩;have HL:Hid (t.l c=lc/\t.b c=bc):=⟨hlc,hbc⟩;rw [hdd,hrr] at hb HN1 ⊢;rw [hff] at HN2 HN3 HQ2 HQ;rw [hgg] at hck hgk hla hfr;rw [hlc] at hla htc;rw [hbc] at hfr htc;rw [hla] at HN1 HN2;rw [hfr] at HN1;have ck2:(wr.alloc (.cells #[.int .i8 o.op,.int .u8 o.d,.int .u8 o.a,.int .u8 o.b,.int .i64 o.im] 60)).cell? ⟨b2,f2+k,none⟩=some (.int .i64 gk):=by rw [(bcell ((Below.refl wr.heap.size wr).alloc (Nat.le_refl _) _)).1 _ _ hz3];exact hck
   have hz4:b2<(wr.alloc (.cells #[.int .i8 o.op,.int .u8 o.d,.int .u8 o.a,.int .u8 o.b,.int .i64 o.im] 60)).heap.size:=by simp;omega
   clear hla hfr hdd hrr hff hgg hlc hbc hck hz3 HB HR HG HK HT;go_upto_region 4 with fail
   generalize (wr.alloc (.cells #[.int .i8 o.op,.int .u8 o.d,.int .u8 o.a,.int .u8 o.b,.int .i64 o.im] 60))=X at *;generalize wr.heap.size=ob at *;clear HQ q0 q1 q2 q3 q4 hz2;have HX:Hid (∀ W,Below X.heap.size X W->(Pd w W t ff/\At W ob o.cells)/\W.cell? ⟨b2,f2+k,none⟩=some (.int .i64 gk)):=fun W hb=>⟨⟨HQ2.out.1.next hb,HQ2.out.2.below hb HQ2.out.2.lt⟩,by rw [(bcell hb).1 _ _ hz4];exact ck2⟩;have s2:=HQ2.out.2;have o0:=s2.c 0 _ rfl;have o1:=s2.c 1 _ rfl;have o2:=s2.c 2 _ rfl;have o3:=s2.c 3 _ rfl;have o4:=s2.c 4 _ rfl;have ol:=s2.lt;clear s2 ck2 hz4;have c0:(0:Int)<=(c:Int):=by omega
   have c3:(c:Int)<4:=by omega
   have w1:IntKind.i64.wrap (gk+lc)=gk+lc:=by rw [IntKind.wrap_i64];omega
   have w2:IntKind.i64.wrap (gk+bc)=gk+bc:=by rw [IntKind.wrap_i64];omega
   go_upto_region 5 with (first
    | (go_at_call 223;refine Calls.mono (HC.out _) ?_;rintro e w2 ⟨rfl,hb2⟩;have HX2:Hid ((Pd w w2 t ff/\At w2 ob o.cells)/\w2.cell? ⟨b2,f2+k,none⟩=some (.int .i64 gk)):=HX.out _ hb2;clear hb2 HC HX HQ2 o0 o1 o2 o3 o4 ol;have hcl:=HX2.out.1.1.t.cl c c4;have hcb:=HX2.out.1.1.t.cb c c4;rw [HL.out.1] at hcl;rw [HL.out.2] at hcb;have hl:=HX2.out.1.1.t.lt;have hcg:=HX2.out.2))
   go_quiet (fail)
   rename World=>w3;have HX3:Hid (Px w (w3.drewN nq) t ff ob o):=(Px.mk HX2.out.1.1 HX2.out.1.2).next (drewN_dl _ _);generalize w3.drewN nq=Y at *;clear HX2 hcl hcb hl hcg w1 w2 c0 c3 HL;obtain ⟨oo,od,oa,ob',oi⟩:=o;have p1:=HX3.out.a.c 1 _ rfl;have p0:=HX3.out.a.c 0 _ rfl;have p2:=HX3.out.a.c 2 _ rfl;have p3:=HX3.out.a.c 3 _ rfl;have p4:=HX3.out.a.c 4 _ rfl;have pl:=HX3.out.a.lt
   by_cases h15:oo<=15
   ·obtain ⟨d0,d1⟩:=HD.out h15;obtain ⟨dn,rfl⟩:∃ n:Nat,od=n:=⟨od.toNat,by simp only at d0;omega⟩;have dl:dn<32:=by simp only at d1;omega
    have HN4:Hid (lnI t xs g (k+1)=updI ff dn (gk+lc)):=HN2.out h15;have HW2:Hid (∀ W,Calls Tryz.prog 224 #[.agg #[.int .i8 oo,.int .u8 (dn:Int),.int .u8 oa,.int .u8 ob',.int .i64 oi]] W fun e w'=>e=.returned (.bool true)/\Below W.heap.size W w'):=fun W=>by
     have:=HW.out W
     rwa [show decide (oo<=15)=true by simpa using h15] at this
    have d2:(0:Int)<=(dn:Int):=by omega
    have d3:(dn:Int)<32:=by omega
    clear d0 d1 HW HN2 HN3 HD h15;go_wp2_with (first
     | (go_at_call 224;refine Calls.mono (HW2.out _) ?_;rintro e w4 ⟨rfl,hb4⟩;have HX4:Hid (Px w w4 t ff ob ⟨oo,dn,oa,ob',oi⟩):=HX3.out.next hb4;clear hb4 HW2 HX3 p0 p1 p2 p3 p4 pl;have p1:=HX4.out.a.c 1 _ rfl;have pl:=HX4.out.a.lt;have r1:=HX4.out.p.ir.c dn dl;have r2:=HX4.out.p.ir.f dn;have r3:=HX4.out.p.ir.lt))
    go_roundw
    case rel=>exact ⟨k+1,by omega,by rw [HN1.out.1];first|rfl|simp only [mx],by rw [HN1.out.2],by go_num,by rw [HN4.out];exact HX4.out.p.set dl _⟩
    case measure=>simp [intOf];omega
   ·have HN4:Hid (lnI t xs g (k+1)=ff):=HN3.out (by first|exact h15|(simp only;omega));have HW2:Hid (∀ W,Calls Tryz.prog 224 #[.agg #[.int .i8 oo,.int .u8 od,.int .u8 oa,.int .u8 ob',.int .i64 oi]] W fun e w'=>e=.returned (.bool false)/\Below W.heap.size W w'):=fun W=>by
     have:=HW.out W
     rwa [show decide (oo<=15)=false by simpa using h15] at this
    clear HW HN2 HN3 HD h15;go_wp2_with (first
     | (go_at_call 224;refine Calls.mono (HW2.out _) ?_;rintro e w4 ⟨rfl,hb4⟩;have HX4:Hid (Px w w4 t ff ob ⟨oo,od,oa,ob',oi⟩):=HX3.out.next hb4;clear hb4 HW2 HX3 p0 p1 p2 p3 p4 pl))
    go_roundw
    case rel=>exact ⟨k+1,by omega,by rw [HN1.out.1];first|rfl|simp only [mx],by rw [HN1.out.2],by go_num,by rw [HN4.out];exact HX4.out.p⟩
    case measure=>simp [intOf];omega
  ·obtain rfl:k=xs.length:=by omega
   have k1:¬ (xs.length:Int)<(xs.length:Int):=by omega
   go_wp2_with fail
   obtain ⟨L,hL⟩:∃ L,L=lnC (lnI t xs g xs.length):=⟨_,rfl⟩;have HSd:Hid (Pd w wr.drew t (lnI t xs g xs.length)):=HQ.out.next (drewN_dl wr 1);refine wp_region_held_drew (S:=fun W'=>Pd w W' t (lnI t xs g xs.length)) (by kernel_rfl) HSd.out (fun zH=>?_);refine wg 0 (.int .i64 (drI t xs g xs.length)) rfl zH ?_;simp only [pq];refine wg 1 (.int .i64 (rsI t xs g xs.length)) rfl zH ?_;simp only [pq];refine wpAnyH_take (i:=2) (v:=.agg L.toArray) rfl (by kernel_rfl) (by kernel_rfl) (by kernel_rfl) (fun _ _ _ h=>h) (yieldsIf_load_mid (by kernel_rfl) 161 (.tmp 8) rfl (w.heap.size+1) 0 (by kernel_rfl) L _ (fun w' hS=>by rw [hL];exact ir_range hS.ir) Tryz.underlying161 rfl (by rw [hL,lnC_len];exact infoLn)) zH ?_;simp only [pq];refine wg 3 (.int .i64 (drI t xs g xs.length)) rfl zH ?_;simp only [pq];refine wg 4 (.int .i64 (rsI t xs g xs.length)) rfl zH ?_;simp only [pq];refine wpAnyH_ready (rs:=[5]) (by kernel_rfl) (by simp) ?_;refine AllReadyH.cons rfl (fun K hK=>?_) AllReadyH.nil;rw [if_pos (by kernel_rfl)];have hF:So.Fr (So.One (w.heap.size+1)) wr.drew (wr.drew.setCells (w.heap.size+1) 0 L):=fr_setCells (X:=So.One (w.heap.size+1)) rfl _ _ (So.Fr.refl _ _);have hB:Below (w.heap.size+1) wr.drew (wr.drew.setCells (w.heap.size+1) 0 L):=hF.below (by have:=zH.ir.lt;omega) fun k hk e=>by have e:k=w.heap.size+1:=e;omega
   have hT:wr.drew.there (w.heap.size+1) 0 L.toArray.size:=by rw [hL];exact ir_there zH.ir _
   have hR:(wr.drew.setCells (w.heap.size+1) 0 L).rangeAt (w.heap.size+1) 0 L:=World.rangeAt_setCells_same wr.drew (w.heap.size+1) 0 L (by simpa using hT);have hI:(Tryz.prog.info? 161).map (·.size)=some L.length:=by rw [hL,lnC_len];exact infoLn
   refine wp_store_mid 161 (.tmp 8) (.tmp 57) rfl (w.heap.size+1) 0 L.toArray (by kernel_rfl) (by kernel_rfl) hT (by rw [List.size_toArray];exact hI) (by rw [hL];exact lnC_one _) ?_;refine hK.out _ _ ⟨zH.t.below hB (by omega),⟨fun j hj=>?_,fun j=>(froz_setCells _ _ _ _ _).trans (zH.ir.f j),Nat.lt_of_lt_of_le zH.ir.lt hF.size⟩,zH.up.trans (hB.mono (by omega))⟩ (fun zH=>?_)
   ·have:=hR j _ (by rw [hL];exact lnC_at _ hj)
    rwa [Nat.zero_add] at this
   clear hK K;refine wpAnyH_done (by kernel_rfl) ?_ _;simp only [pq];have hl:=run_loadVar_mid (P:=Tryz.prog) (wr.drew.setCells (w.heap.size+1) 0 L) (w.heap.size+1) 0 161 L _ hR Tryz.underlying161 rfl hI;have HHl:Hid (∃ Z,Z=wr.drew.setCells (w.heap.size+1) 0 L/\(loadVar 161 ⟨w.heap.size+1,0,none⟩).run Tryz.prog Z=.ok (.agg L.toArray) Z/\Below w.heap.size w Z):=⟨_,rfl,hl,zH.up⟩;obtain ⟨Z,hZ,hl,hU⟩:=HHl.out;have HU:Hid (Below w.heap.size w Z/\L=lnC (lnI t xs g xs.length)):=⟨hU,hL⟩
   try rw [List.toList_toArray]
   rw [<- hZ];clear hZ hU hL zH hR hT hB hF hI HSd HQ HHl HB HR HG HO HK HT;have HL2:Hid ((loadVar 161 ⟨w.heap.size+1,0,none⟩).run Tryz.prog Z=.ok (.agg L.toArray) Z):=hl;clear hl;go_wp2_with fail
   have hl:=HL2.out;refine bodyPost_ret (v:=.tuple #[.int .i64 (drI t xs g xs.length),.int .i64 (rsI t xs g xs.length),.agg L.toArray]) (by simp [results,Tryz.results164,asAddr,hl]) rfl ⟨by rw [HU.out.2],HU.out.1⟩
def asC (a b c:Int) (L:List Value):List Value:=.int .i64 a :: .int .i64 b :: .int .i64 c::L
def zc35:List Value:=List.replicate 35 (.int .i64 0)
def leI (t:Tab):Int:=max 0 (t.b 3-1-t.d)
theorem at_set {W:World} {b:Nat} {cs:List Value} (h:At W b cs.toArray) {k:Nat} (hk:k<cs.length) (v:Value):At (W.setCell ⟨b,k,none⟩ v) b (cs.set k v).toArray:=by
 refine ⟨fun j u hj=>?_,fun j=>by rw [World.frozen?_setCell];exact h.f j,by simpa using h.lt⟩;rw [List.getElem?_toArray] at hj
 by_cases e:k=j
 ·subst e;rw [List.getElem?_set_self hk] at hj
  cases hj
  exact World.cell?_setCell_same _ _ _ (h.c k _ (by rw [List.getElem?_toArray,List.getElem?_eq_getElem hk]))
 ·rw [List.getElem?_set_ne e] at hj;rw [World.cell?_setCell_other]
  ·exact h.c j u (by rw [List.getElem?_toArray];exact hj)
  ·intro h';injection h' with _ h2;exact e h2
theorem at_range {W:World} {b:Nat} {cs:List Value} (h:At W b cs.toArray):W.rangeAt b 0 cs:=fun j v hv=>by
 rw [Nat.zero_add];exact h.c j v (by rw [List.getElem?_toArray];exact hv)
theorem at_there {W:World} {b o n:Nat} {cs:List Value} (h:At W b cs.toArray) (hn:o+n<=cs.length):W.there b o n:=fun j hj=>by
 have hl:o+j<cs.length:=by omega
 exact ⟨by rw [h.c (o+j) _ (by rw [List.getElem?_toArray,List.getElem?_eq_getElem hl])];rfl,h.f _⟩
theorem at_row {W:World} {b:Nat} {x y z:Value} {M L:List Value} (h:At W b (x::y::z::M).toArray) (hl:M.length=L.length):At (W.setCells b 3 L) b (x::y::z::L).toArray:=by
 have ht:W.there b 3 L.length:=at_there h (by simp;omega);have hs:=World.rangeAt_setCells_same W b 3 L ht;have ha:(W.setCells b 3 L).rangeAt b 0 [x,y,z]:=World.rangeAt_setCells_apart (fun j v hv=>by
  rw [Nat.zero_add];refine h.c j v ?_;rw [List.getElem?_toArray]
  have:j<3:=(List.getElem?_eq_some_iff.1 hv).1
  rcases j with _|_|_|j
  ·exact hv
  ·exact hv
  ·exact hv
  ·omega) b 3 L (.inr (.inl (Nat.le_refl _)))
 refine ⟨fun j v hv=>?_,fun j=>(froz_setCells _ _ _ _ _).trans (h.f j),Nat.lt_of_lt_of_le h.lt (fr_setCells (X:=So.One b) rfl L 3 (So.Fr.refl _ W)).size⟩;rw [List.getElem?_toArray] at hv;rcases j with _|_|_|j
 ·exact ha 0 v hv
 ·exact ha 1 v hv
 ·exact ha 2 v hv
 ·have:=hs j v (by simpa using hv)
  rwa [show 3+j=j+1+1+1 by omega] at this
structure Ak (w W:World) (t:Tab) (cs:List Value):Prop where
 t:TabAt W w.heap.size t
 r:At W (w.heap.size+1) zc35.toArray
 a:At W (w.heap.size+2) cs.toArray
 up:Below w.heap.size w W
theorem Ak.next {w W W':World} {t:Tab} {cs:List Value} (h:Ak w W t cs) (g:Below W.heap.size W W'):Ak w W' t cs:=⟨h.t.below g h.t.lt,h.r.below g h.r.lt,h.a.below g h.a.lt,h.up.trans (g.mono h.up.size)⟩
theorem Ak.fr {w W W':World} {t:Tab} {cs cs':List Value} (h:Ak w W t cs) (g:Below (w.heap.size+2) W W') (a:At W' (w.heap.size+2) cs'.toArray):Ak w W' t cs':=⟨h.t.below g (by omega),h.r.below g (by omega),a,h.up.trans (g.mono (by omega))⟩
theorem ak_new {w W:World} {t:Tab} {ld:Int} (hT:TabAt W w.heap.size t) (hr:At W (w.heap.size+1) zc35.toArray) (hs:W.heap.size=w.heap.size+2) (up:Below w.heap.size w W):Ak w ((W.alloc (.cells zc35.toArray 163)).setCells (w.heap.size+2) 0 (asC ld 0 0 (lnC fun _=>0)).toArray.toList) t (asC ld 0 0 (lnC fun _=>0)):=by
 have g1:Below W.heap.size W (W.alloc (.cells zc35.toArray 163)):=(Below.refl _ _).alloc (Nat.le_refl _) _;have a1:=At.new W zc35.toArray 163;rw [hs] at a1;have ht:(W.alloc (.cells zc35.toArray 163)).there (w.heap.size+2) 0 (asC ld 0 0 (lnC fun _=>0)).length:=at_there a1 (by unfold asC zc35;simp [lnC_len]);have hF:So.Fr (So.One (w.heap.size+2)) (W.alloc (.cells zc35.toArray 163)) ((W.alloc (.cells zc35.toArray 163)).setCells (w.heap.size+2) 0 (asC ld 0 0 (lnC fun _=>0))):=fr_setCells (X:=So.One (w.heap.size+2)) rfl _ _ (So.Fr.refl _ _);have g2:Below (w.heap.size+2) (W.alloc (.cells zc35.toArray 163)) ((W.alloc (.cells zc35.toArray 163)).setCells (w.heap.size+2) 0 (asC ld 0 0 (lnC fun _=>0))):=hF.below (by simp;omega) fun k hk e=>by have e:k=w.heap.size+2:=e;omega
 have hR:=World.rangeAt_setCells_same (W.alloc (.cells zc35.toArray 163)) (w.heap.size+2) 0 _ ht;refine ⟨(hT.below g1 hT.lt).below g2 (by omega),(hr.below g1 hr.lt).below g2 (by omega),⟨fun j v hv=>?_,fun j=>(froz_setCells _ _ _ _ _).trans (a1.f j),Nat.lt_of_lt_of_le a1.lt hF.size⟩,(up.trans (g1.mono (by omega))).trans (g2.mono (by omega))⟩
 have:=hR j v (by rw [List.getElem?_toArray] at hv;exact hv)
 rwa [Nat.zero_add] at this
theorem infoAs:(Tryz.prog.info? 163).map (·.size)=some 35:=by kernel_rfl
theorem asC_len {a b c:Int} {L:List Value} (h:L.length=32):(asC a b c L).length=35:=by unfold asC;simp [h]
theorem asC_one {a b c:Int} {L:List Value} (h:L.toArray.all (·.oneCell')=true):(asC a b c L).toArray.all (·.oneCell')=true:=by
 refine all_oneCell_toArray fun v hv=>?_;unfold asC at hv;simp only [List.mem_cons] at hv;rcases hv with rfl|rfl|rfl|hv
 ·rfl
 ·rfl
 ·rfl
 ·simp only [List.all_toArray,List.all_eq_true] at h;exact h v hv
theorem asksOf_any (ao a:Option Addr) (cap ccap:Nat) (xs:List O) (t:Tab) (g:Nat->Int) (w:World) (h:OpsAt w ao xs) (hg:Nl w a xs.length g) (hr:∀ k,k<xs.length->0<=g k/\g k<=65536) (ht:t.ok=true) (hok:∀ o∈xs,okL o=true) (hn:xs.length<=1024) :
  Calls Tryz.prog 92 #[.slice ao xs.length cap,t.val,.slice a xs.length ccap] w fun e w'=>e=.returned (.agg (asC (leI t) (drI t xs g xs.length) (rsI t xs g xs.length) (lnC (lnI t xs g xs.length))).toArray)/\Below w.heap.size w w':=by
 have HP:Hid (∀ W,Below w.heap.size w W->Calls Tryz.prog 164 #[.slice ao xs.length cap,.agg #[.int .i64 (t.u 0),.int .i64 (t.u 1),.int .i64 (t.u 2),.int .i64 (t.u 3),.int .i64 (t.l 0),.int .i64 (t.l 1),.int .i64 (t.l 2),.int .i64 (t.l 3),.int .i64 (t.b 0),.int .i64 (t.b 1),.int .i64 (t.b 2),.int .i64 (t.b 3),.int .i64 t.d],.slice a xs.length ccap] W fun e w'=>e=.returned (.tuple #[.int .i64 (drI t xs g xs.length),.int .i64 (rsI t xs g xs.length),.agg (lnC (lnI t xs g xs.length)).toArray])/\Below W.heap.size W w'):=fun W hb=>passed_any ao a cap ccap xs t g W (h.below hb) (hg.up hb) hr ht hok hn;have hb3:=Tb.inB_iff ((Tb.ok_parts ht).2 3 (by decide)).2.2;have hd3:=Tb.inB_iff (Tb.ok_parts ht).1;have HL:Hid (max 0 (t.b 3-1-t.d)=leI t):=rfl;obtain ⟨L,hL⟩:∃ L,lnC (lnI t xs g xs.length)=L:=⟨_,rfl⟩;have hLn:L.length=32:=by rw [<- hL];exact lnC_len _
 have hLo:L.toArray.all (·.oneCell')=true:=by rw [<- hL];exact lnC_one _
 rw [hL] at HP ⊢;clear hL h hg hr hok ht;obtain ⟨D,hD⟩:∃ D,drI t xs g xs.length=D:=⟨_,rfl⟩;obtain ⟨R,hR⟩:∃ R,rsI t xs g xs.length=R:=⟨_,rfl⟩;rw [hD,hR] at HP ⊢;clear hD hR;have HLn:Hid (L.length=32/\L.toArray.all (·.oneCell')=true):=⟨hLn,hLo⟩;clear hLn hLo;have HT0:Hid (TabAt ((w.alloc (.cells t.cells 27)).alloc (.cells zc35.toArray 163)) w.heap.size t/\At ((w.alloc (.cells t.cells 27)).alloc (.cells zc35.toArray 163)) (w.heap.size+1) zc35.toArray/\((w.alloc (.cells t.cells 27)).alloc (.cells zc35.toArray 163)).heap.size=w.heap.size+2/\Below w.heap.size w ((w.alloc (.cells t.cells 27)).alloc (.cells zc35.toArray 163))):=by
  have h2:=Tb.tabAt_new w t 27;have h3:=At.new (w.alloc (.cells t.cells 27)) zc35.toArray 163;rw [show (w.alloc (.cells t.cells 27)).heap.size=w.heap.size+1 by simp] at h3;exact ⟨h2.below ((Below.refl _ _).alloc (Nat.le_refl _) _) h2.lt,h3,by simp,by go_grown⟩
 unfold Tab.val;go_enter Tryz.func92,Tryz.ntmps92;go_upto_region 1 with (first
  | (refine wpList_allocTo rfl (some 6) rfl (.pointer (some ⟨(w.alloc (.cells t.cells 27)).heap.size,0,none⟩)) (.cells zc35.toArray 163) (by kernel_rfl) ?_))
 generalize (w.alloc (.cells t.cells 27)).alloc (.cells zc35.toArray 163)=W0 at *;obtain ⟨hT,hA,hs,hu⟩:=HT0.out;have HT1:Hid (Ak w ((W0.alloc (.cells zc35.toArray 163)).setCells (w.heap.size+2) 0 (asC (leI t) 0 0 (lnC fun _=>0)).toArray.toList) t (asC (leI t) 0 0 (lnC fun _=>0))):=ak_new hT hA hs hu;have HTh:Hid ((W0.alloc (.cells zc35.toArray 163)).there (w.heap.size+2) 0 (asC (leI t) 0 0 (lnC fun _=>0)).toArray.size):=by
  have a1:=At.new W0 zc35.toArray 163;rw [hs] at a1;exact at_there a1 (by rw [List.size_toArray,asC_len (lnC_len _)];unfold zc35;simp)
 have HSz:Hid (W0.heap.size=w.heap.size+2):=hs;have qb:=hT.cb 3 (by decide);have qd:=hT.cd;have ql:=hT.lt;clear hT hA hs hu HT0;have w1:IntKind.i64.wrap (t.b 3-1)=t.b 3-1:=by rw [IntKind.wrap_i64];omega
 have w2:IntKind.i64.wrap (t.b 3-1-t.d)=t.b 3-1-t.d:=by rw [IntKind.wrap_i64];omega
 go_upto_region 2 with (first
  | (rw [HL.out];refine wpList_buildTo rfl 163 #[(0,.tmp 15)] rfl (some 16) rfl (asC (leI t) 0 0 (lnC fun _=>0)).toArray (by kernel_rfl) ?_)
  | (refine wpList_allocTo rfl (some 7) rfl (.pointer (some ⟨W0.heap.size,0,none⟩)) (.cells zc35.toArray 163) (by kernel_rfl) ?_;rw [HSz.out])
  | (refine wpList_store_mid rfl 163 (.tmp 7) (.tmp 16) rfl (w.heap.size+2) 0 (asC (leI t) 0 0 (lnC fun _=>0)).toArray rfl rfl HTh.out (by rw [List.size_toArray,asC_len (lnC_len _)];exact infoAs) (asC_one (lnC_one _)) ?_))
 generalize (W0.alloc (.cells zc35.toArray 163)).setCells (w.heap.size+2) 0 (asC (leI t) 0 0 (lnC fun _=>0)).toArray.toList=W1 at *;clear qb qd ql w1 w2 HTh HSz;have qu0:=HT1.out.t.cu 0 (by decide);have qu1:=HT1.out.t.cu 1 (by decide);have qu2:=HT1.out.t.cu 2 (by decide);have qu3:=HT1.out.t.cu 3 (by decide);have ql0:=HT1.out.t.cl 0 (by decide);have ql1:=HT1.out.t.cl 1 (by decide);have ql2:=HT1.out.t.cl 2 (by decide);have ql3:=HT1.out.t.cl 3 (by decide);have qb0:=HT1.out.t.cb 0 (by decide);have qb1:=HT1.out.t.cb 1 (by decide);have qb2:=HT1.out.t.cb 2 (by decide);have qb3:=HT1.out.t.cb 3 (by decide);have qd:=HT1.out.t.cd;have ql:=HT1.out.t.lt;have HU1:Hid (Below w.heap.size w W1):=HT1.out.up;have HT2:Hid (∀ W,Below W1.heap.size W1 W->Ak w W t (asC (leI t) 0 0 (lnC fun _=>0))):=fun W hb=>HT1.out.next hb;clear HT1;have HG1:Hid (∀ W,Ak w W t (asC (leI t) 0 0 (lnC fun _=>0))->At ((W.setCell ⟨w.heap.size+2,1,none⟩ (.int .i64 D)).setCell ⟨w.heap.size+2,2,none⟩ (.int .i64 R)) (w.heap.size+2) (asC (leI t) D R (lnC fun _=>0)).toArray):=fun W h=>at_set (k:=2) (at_set (k:=1) h.a (by unfold asC;simp) (.int .i64 D)) (by unfold asC;simp) (.int .i64 R);have HG2:Hid (∀ W,Ak w W t (asC (leI t) 0 0 (lnC fun _=>0))->Ak w (((W.setCell ⟨w.heap.size+2,1,none⟩ (.int .i64 D)).setCell ⟨w.heap.size+2,2,none⟩ (.int .i64 R)).setCells (w.heap.size+2) 3 L) t (asC (leI t) D R L)):=fun W h=>by
  have f1:Below (w.heap.size+2) W ((W.setCell ⟨w.heap.size+2,1,none⟩ (.int .i64 D)).setCell ⟨w.heap.size+2,2,none⟩ (.int .i64 R)):=((Below.refl (w.heap.size+2) W).setCell (by show w.heap.size+2<=w.heap.size+2;exact Nat.le_refl _) _).setCell (by show w.heap.size+2<=w.heap.size+2;exact Nat.le_refl _) _;have hF:So.Fr (So.One (w.heap.size+2)) ((W.setCell ⟨w.heap.size+2,1,none⟩ (.int .i64 D)).setCell ⟨w.heap.size+2,2,none⟩ (.int .i64 R)) (((W.setCell ⟨w.heap.size+2,1,none⟩ (.int .i64 D)).setCell ⟨w.heap.size+2,2,none⟩ (.int .i64 R)).setCells (w.heap.size+2) 3 L):=fr_setCells (X:=So.One (w.heap.size+2)) rfl _ _ (So.Fr.refl _ _);have f2:=hF.below (B:=w.heap.size+2) (by have:=h.a.lt;have:=f1.size;omega) fun k hk e=>by have e:k=w.heap.size+2:=e;omega
  exact h.fr (f1.trans f2) (at_row (HG1.out W h) (by rw [lnC_len,HLn.out.1]))
 go_upto_region 3 with (first
  | (go_at_call 164;refine Calls.mono (HP.out _ HU1.out) ?_;rintro e w5 ⟨rfl,hb5⟩;have HX:Hid (Ak w w5 t (asC (leI t) 0 0 (lnC fun _=>0))):=HT2.out _ hb5;clear hb5 HT2 HP HU1 qu0 qu1 qu2 qu3 ql0 ql1 ql2 ql3 qb0 qb1 qb2 qb3 qd ql;have a1:=HX.out.a.c 1 _ rfl;have a2:=HX.out.a.c 2 _ rfl;have af1:=HX.out.a.f 1;have af2:=HX.out.a.f 2;have al:=HX.out.a.lt)
  | (refine wpList_store_mid rfl 161 (.tmp 27) (.tmp 24) rfl (w.heap.size+2) 3 L.toArray rfl rfl (at_there (HG1.out _ HX.out) (by rw [List.size_toArray,HLn.out.1,asC_len (lnC_len _)];decide)) (by rw [List.size_toArray,HLn.out.1];exact infoLn) HLn.out.2 ?_))
 rename World=>w5;have HY:Hid (Ak w (((w5.setCell ⟨w.heap.size+2,1,none⟩ (.int .i64 D)).setCell ⟨w.heap.size+2,2,none⟩ (.int .i64 R)).setCells (w.heap.size+2) 3 L.toArray.toList) t (asC (leI t) D R L)):=HG2.out _ HX.out;generalize ((w5.setCell ⟨w.heap.size+2,1,none⟩ (.int .i64 D)).setCell ⟨w.heap.size+2,2,none⟩ (.int .i64 R)).setCells (w.heap.size+2) 3 L.toArray.toList=W6 at *;clear HX HG1 HG2 a1 a2 af1 af2 al;obtain ⟨C,hC⟩:∃ C,asC (leI t) D R L=C:=⟨_,rfl⟩;have hCl:C.length=35:=by rw [<- hC];exact asC_len HLn.out.1
 have hCo:C.toArray.all (·.oneCell')=true:=by rw [<- hC];exact asC_one HLn.out.2
 have HCe:Hid (asC (leI t) D R L=C):=hC;rw [hC] at HY;clear hC;have hr:=at_range HY.out.a;have hi:(Tryz.prog.info? 163).map (·.size)=some C.length:=by rw [hCl];exact infoAs
 have ht:W6.there (w.heap.size+1) 0 C.toArray.size:=at_there HY.out.r (by rw [List.size_toArray,hCl];unfold zc35;simp);have hF:So.Fr (So.One (w.heap.size+1)) W6 (W6.setCells (w.heap.size+1) 0 C):=fr_setCells (X:=So.One (w.heap.size+1)) rfl _ _ (So.Fr.refl _ _);have HB:Hid (Below w.heap.size w (W6.setCells (w.heap.size+1) 0 C)):=HY.out.up.trans (hF.below HY.out.up.size fun k hk e=>by have e:k=w.heap.size+1:=e;omega);have HV:Hid ((loadVar 163 ⟨w.heap.size+1,0,none⟩).run Tryz.prog (W6.setCells (w.heap.size+1) 0 C)=.ok (.agg C.toArray) (W6.setCells (w.heap.size+1) 0 C)):=run_loadVar_mid (P:=Tryz.prog) _ (w.heap.size+1) 0 163 C _ (World.rangeAt_setCells_same W6 (w.heap.size+1) 0 C (by simpa using ht)) Tryz.underlying163 rfl hi;rename_i K3 hK3;apply wp_region_lit
 refine wpList_load_mid rfl 163 (.tmp 7) rfl (w.heap.size+2) 0 rfl C _ hr Tryz.underlying163 rfl hi ?_;refine wpList_store_mid rfl 163 (.tmp 6) (.tmp 28) rfl (w.heap.size+1) 0 C.toArray rfl rfl ht (by rw [List.size_toArray];exact hi) hCo ?_;refine wpList_nil ?_;refine hK3 _ _ ?_;refine wp_ret ?_;have hl:=HV.out;refine bodyPost_ret (v:=.agg C.toArray) (by simp [results,Tryz.results92,asAddr,Act.put,hl]) rfl ⟨by rw [HCe.out],HB.out⟩
end Go.Proofs.YtpdaknbmcpmhjaaGreatDoor.Dl
