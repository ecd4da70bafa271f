/- Parts Db Xa. -/
import Derived.Test.YtcmlnemokckbdaaGreatDoorN38
import Derived.Test.YtcmlnemokckbdaaGreatDoorN08
set_option maxRecDepth 20000
set_option maxHeartbeats 4000000
namespace Go.Proofs.YtcmlnemokckbdaaGreatDoor.Dp
open Go.ChangeShapes Go.WideShapes Go.ChangeAt Go.RowKit
open YtcmlnemokckbdaaGreatDoor.Op YtcmlnemokckbdaaGreatDoor.So
open YtcmlnemokckbdaaGreatDoor.Tb (Tab TabAt Bnds)
def flT (xs:List O) (i j:Nat) (ar:Bool) (r:Int):Bool:=if ar then decide (lastD xs r j<0)&&(lastD xs r xs.length==(i:Int)) else lastD xs r j==(i:Int)
def flB (xs:List O) (o:O) (i j:Nat) (ar:Bool):Bool:=(List.range (rdN o)).any fun k=>flT xs i j ar (rf o k)
theorem fl_no {xs:List O} {o:O} {i j:Nat} {ar:Bool} (h:∀ k,k<rdN o->flT xs i j ar (rf o k)=false):flB xs o i j ar=false:=by
 unfold flB;rw [List.any_eq_false];intro k hk;rw [h k (by simpa using hk)]
 decide
theorem fl_yes {xs:List O} {o:O} {i j k:Nat} {ar:Bool} (hk:k<rdN o) (h:flT xs i j ar (rf o k)=true):flB xs o i j ar=true:=by
 unfold flB;rw [List.any_eq_true];exact ⟨k,by simpa using hk,h⟩
theorem flows_any (ao:Option Addr) (cap:Nat) (xs:List O) (i j:Nat) (ar:Bool) (w:World) (h:OpsAt w ao xs) (hj:j<xs.length) (hL:okL xs[j]=true) :
  Calls Tryz.prog 95 #[.slice ao xs.length cap,.int .i64 i,.int .i64 j,.bool ar] w fun e w'=>e=.returned (.bool (flB xs xs[j] i j ar))/\Below w.heap.size w w':=by
 have hlen:=h.len;have hOk:xs[j].Ok:=h.ok _ (List.getElem_mem hj);have HR:Hid (∀ W,Calls Tryz.prog 129 #[xs[j].val] W fun e w'=>∃ a n c,e=.returned (.slice a n c)/\n=rdN xs[j]/\(∀ k,k<rdN xs[j]->∃ b,a=some ⟨b,0,none⟩/\∀ W,Below w'.heap.size w' W->b<W.heap.size/\W.cell? ⟨b,k,none⟩=some (.int .u8 (rf xs[j] k)))/\Below W.heap.size W w'):=fun W=>(reads_ok xs[j] W hOk hL).mono fun e w' h=>by
  obtain ⟨v,rfl,hs,hb⟩:=h;rcases hs with ⟨h0,p,c,rfl⟩|⟨b,c,rfl,h1,h2⟩
  ·exact ⟨p,0,c,rfl,h0.symm,fun j hj=>by omega,hb⟩
  ·exact ⟨_,_,c,rfl,rfl,fun j hj=>⟨b,rfl,fun W g=>⟨Nat.lt_of_lt_of_le h1 g.size,by rw [(bcell g).1 _ _ h1];exact h2 j hj⟩⟩,hb⟩
 have h2:=rdN_le xs[j];have HLj:Hid (∀ r W,Below w.heap.size w W->Calls Tryz.prog 130 #[.slice ao xs.length cap,.int .i64 j,.int .u8 r] W fun e w'=>e=.returned (.int .i64 (lastD xs r j))/\Below W.heap.size W w'):=fun r W g=>last_any ao cap xs j r W (h.below g) (by omega);have HLn:Hid (∀ r W,Below w.heap.size w W->Calls Tryz.prog 130 #[.slice ao xs.length cap,.int .i64 xs.length,.int .u8 r] W fun e w'=>e=.returned (.int .i64 (lastD xs r xs.length))/\Below W.heap.size W w'):=fun r W g=>last_any ao cap xs xs.length r W (h.below g) (by omega);have HN:Hid ((∀ k,k<rdN xs[j]->flT xs i j ar (rf xs[j] k)=false)->false=flB xs xs[j] i j ar):=fun h=>(fl_no h).symm;have HYs:Hid (∀ k,k<rdN xs[j]->flT xs i j ar (rf xs[j] k)=true->true=flB xs xs[j] i j ar):=fun k hk h=>(fl_yes hk h).symm;have j0:(0:Int)<=(j:Int):=by omega
 have j1:(j:Int)<(xs.length:Int):=by omega
 obtain ⟨b,f,rfl,hz2,hx⟩:=h.is (by omega);obtain ⟨q0,q1,q2,q3,q4⟩:=hx j hj;clear h hL hOk hx;generalize flB xs xs[j] i j ar=fb at *;generalize rdN xs[j]=N at *;obtain ⟨F,hF⟩:∃ F,rf xs[j]=F:=⟨_,rfl⟩;rw [hF] at HR HN HYs;clear hF;generalize xs[j]=o at *
 cases ar
 ·have HTs:Hid (∀ r,flT xs i j false r=(lastD xs r j==(i:Int))):=fun r=>rfl;go_enter Tryz.func95,Tryz.ntmps95;go_wp2_with (first|(go_at_call 129;refine Calls.mono (HR.out _) ?_;rintro e w1 ⟨a,n,c,rfl,hn,hc,b1⟩;have HB:Hid (n=N/\Below w.heap.size w w1/\(∀ j,j<N->∃ b,a=some ⟨b,0,none⟩/\∀ W,Below w1.heap.size w1 W->b<W.heap.size/\W.cell? ⟨b,j,none⟩=some (.int .u8 (F j)))):=⟨hn,b1,hc⟩;clear b1 hn hc HR))
  obtain rfl:=HB.out.1;clear q0 q1 q2 q3 q4 HLn
  go_loopw [10] (fun x wr=>∃ k:Nat,k<=n/\x=.int .i64 k/\Below w.heap.size w wr/\Below w1.heap.size w1 wr/\∀ j',j'<k->flT xs i j false (F j')=false) (fun x _=>n-(intOf x).toNat)
  case atStart=>exact ⟨0,by omega,rfl,HB.out.2.1,Below.refl _ _,fun j hj=>by omega⟩
  case round=>
   rename World=>wr;obtain ⟨k,hk,rfl,hbw,hbw1,hno⟩:=hrel;have HB1:Hid (Below w.heap.size w wr/\Below w1.heap.size w1 wr):=⟨hbw,hbw1⟩;have HNo:Hid (∀ j',j'<k->flT xs i j false (F j')=false):=hno;clear hno hbw hbw1
   by_cases hlt:k<n
   ·have k0:(0:Int)<=(k:Int):=by omega
    have k1:(k:Int)<(n:Int):=by omega
    obtain ⟨b',rfl,hbc⟩:=HB.out.2.2 k hlt;obtain ⟨hb,hc⟩:=hbc wr HB1.out.2;have HL1:Hid (∀ W,Below w.heap.size w W->Calls Tryz.prog 130 #[.slice (some ⟨b,f,none⟩) xs.length cap,.int .i64 j,.int .u8 (F k)] W fun e w'=>e=.returned (.int .i64 (lastD xs (F k) j))/\Below W.heap.size W w'):=HLj.out (F k);have HT1:Hid (flT xs i j false (F k)=(lastD xs (F k) j==(i:Int))):=HTs.out _;clear hbc HLj
    by_cases he:lastD xs (F k) j=(i:Int)
    ·have he2:(lastD xs (F k) j==(i:Int))=true:=by simpa using he
     have HS:Hid (true=fb):=HYs.out k hlt (by rw [HT1.out];exact he2);clear HN HYs HNo HTs HT1;generalize lastD xs (F k) j=x at *;generalize F k=r at *;go_wp2_with (first|(go_at_call 130;refine Calls.mono (HL1.out _ HB1.out.1) ?_;rintro e w2 ⟨rfl,b2⟩;have HB2:Hid (Below w.heap.size w w2):=HB1.out.1.trans (b2.mono HB1.out.1.size);clear b2 HL1))
     go_ret
     exact ⟨ret_bool HS.out,HB2.out⟩
    ·have he2:(lastD xs (F k) j==(i:Int))=false:=by simpa using he
     have HNx:Hid (∀ j',j'<k+1->flT xs i j false (F j')=false):=fun j' hj'=>by
      by_cases e:j'=k
      ·subst e;rw [HT1.out];exact he2
      ·exact HNo.out j' (by omega)
     clear HNo HTs HT1;generalize lastD xs (F k) j=x at *;generalize F k=r at *;go_wp2_with (first|(go_at_call 130;refine Calls.mono (HL1.out _ HB1.out.1) ?_;rintro e w2 ⟨rfl,b2⟩;have HB2:Hid (Below w.heap.size w w2/\Below w1.heap.size w1 w2):=⟨HB1.out.1.trans (b2.mono HB1.out.1.size),HB1.out.2.trans (b2.mono HB1.out.2.size)⟩;clear b2 HL1))
     go_roundw
     case rel=>exact ⟨k+1,by omega,by go_num,HB2.out.1,HB2.out.2,HNx.out⟩
     case measure=>simp [intOf];omega
   ·have k1:¬ (k:Int)<(n:Int):=by omega
    have HS:Hid (false=fb):=HN.out fun j hj=>HNo.out j (by omega);go_wp2_with fail
    go_ret
    exact ⟨ret_bool HS.out,HB1.out.1⟩
 ·have HTs:Hid (∀ r,flT xs i j true r=(decide (lastD xs r j<0)&&(lastD xs r xs.length==(i:Int)))):=fun r=>rfl;go_enter Tryz.func95,Tryz.ntmps95;go_wp2_with (first|(go_at_call 129;refine Calls.mono (HR.out _) ?_;rintro e w1 ⟨a,n,c,rfl,hn,hc,b1⟩;have HB:Hid (n=N/\Below w.heap.size w w1/\(∀ j,j<N->∃ b,a=some ⟨b,0,none⟩/\∀ W,Below w1.heap.size w1 W->b<W.heap.size/\W.cell? ⟨b,j,none⟩=some (.int .u8 (F j)))):=⟨hn,b1,hc⟩;clear b1 hn hc HR))
  obtain rfl:=HB.out.1;clear q0 q1 q2 q3 q4
  go_loopw [10] (fun x wr=>∃ k:Nat,k<=n/\x=.int .i64 k/\Below w.heap.size w wr/\Below w1.heap.size w1 wr/\∀ j',j'<k->flT xs i j true (F j')=false) (fun x _=>n-(intOf x).toNat)
  case atStart=>exact ⟨0,by omega,rfl,HB.out.2.1,Below.refl _ _,fun j hj=>by omega⟩
  case round=>
   rename World=>wr;obtain ⟨k,hk,rfl,hbw,hbw1,hno⟩:=hrel;have HB1:Hid (Below w.heap.size w wr/\Below w1.heap.size w1 wr):=⟨hbw,hbw1⟩;have HNo:Hid (∀ j',j'<k->flT xs i j true (F j')=false):=hno;clear hno hbw hbw1
   by_cases hlt:k<n
   ·have k0:(0:Int)<=(k:Int):=by omega
    have k1:(k:Int)<(n:Int):=by omega
    obtain ⟨b',rfl,hbc⟩:=HB.out.2.2 k hlt;obtain ⟨hb,hc⟩:=hbc wr HB1.out.2;have HBc:Hid (∀ W,Below w1.heap.size w1 W->b'<W.heap.size/\W.cell? ⟨b',k,none⟩=some (.int .u8 (F k))):=hbc;have HL1:Hid (∀ W,Below w.heap.size w W->Calls Tryz.prog 130 #[.slice (some ⟨b,f,none⟩) xs.length cap,.int .i64 j,.int .u8 (F k)] W fun e w'=>e=.returned (.int .i64 (lastD xs (F k) j))/\Below W.heap.size W w'):=HLj.out (F k);have HL2:Hid (∀ W,Below w.heap.size w W->Calls Tryz.prog 130 #[.slice (some ⟨b,f,none⟩) xs.length cap,.int .i64 xs.length,.int .u8 (F k)] W fun e w'=>e=.returned (.int .i64 (lastD xs (F k) xs.length))/\Below W.heap.size W w'):=HLn.out (F k);have HT1:Hid (flT xs i j true (F k)=(decide (lastD xs (F k) j<0)&&(lastD xs (F k) xs.length==(i:Int)))):=HTs.out _;clear hbc HLj HLn
    by_cases hn0:lastD xs (F k) j<0
    ·by_cases he:lastD xs (F k) xs.length=(i:Int)
     ·have he2:(lastD xs (F k) xs.length==(i:Int))=true:=by simpa using he
      have HS:Hid (true=fb):=HYs.out k hlt (by rw [HT1.out,he2];simpa using hn0);clear HN HYs HNo HTs HT1;generalize lastD xs (F k) j=x at *;generalize lastD xs (F k) xs.length=y at *;generalize F k=r at *;go_wp2_with (first
       | (go_at_call 130;refine Calls.mono (HL1.out _ HB1.out.1) ?_;rintro e w2 ⟨rfl,b2⟩;have HB2:Hid (Below w.heap.size w w2/\Below w1.heap.size w1 w2):=⟨HB1.out.1.trans (b2.mono HB1.out.1.size),HB1.out.2.trans (b2.mono HB1.out.2.size)⟩;clear b2 HL1 hb hc;have hb:=(HBc.out _ HB2.out.2).1;have hc:=(HBc.out _ HB2.out.2).2)
       | (go_at_call 130;refine Calls.mono (HL2.out _ HB2.out.1) ?_;rintro e w3 ⟨rfl,b3⟩;have HB3:Hid (Below w.heap.size w w3):=HB2.out.1.trans (b3.mono HB2.out.1.size);clear b3 HL2))
      go_ret
      exact ⟨ret_bool HS.out,HB3.out⟩
     ·have he2:(lastD xs (F k) xs.length==(i:Int))=false:=by simpa using he
      have HNx:Hid (∀ j',j'<k+1->flT xs i j true (F j')=false):=fun j' hj'=>by
       by_cases e:j'=k
       ·subst e;rw [HT1.out,he2];simp
       ·exact HNo.out j' (by omega)
      clear HNo HTs HT1;generalize lastD xs (F k) j=x at *;generalize lastD xs (F k) xs.length=y at *;generalize F k=r at *;go_wp2_with (first
       | (go_at_call 130;refine Calls.mono (HL1.out _ HB1.out.1) ?_;rintro e w2 ⟨rfl,b2⟩;have HB2:Hid (Below w.heap.size w w2/\Below w1.heap.size w1 w2):=⟨HB1.out.1.trans (b2.mono HB1.out.1.size),HB1.out.2.trans (b2.mono HB1.out.2.size)⟩;clear b2 HL1 hb hc;have hb:=(HBc.out _ HB2.out.2).1;have hc:=(HBc.out _ HB2.out.2).2)
       | (go_at_call 130;refine Calls.mono (HL2.out _ HB2.out.1) ?_;rintro e w3 ⟨rfl,b3⟩;have HB3:Hid (Below w.heap.size w w3/\Below w1.heap.size w1 w3):=⟨HB2.out.1.trans (b3.mono HB2.out.1.size),HB2.out.2.trans (b3.mono HB2.out.2.size)⟩;clear b3 HL2))
      go_roundw
      case rel=>exact ⟨k+1,by omega,by go_num,HB3.out.1,HB3.out.2,HNx.out⟩
      case measure=>simp [intOf];omega
    ·have HNx:Hid (∀ j',j'<k+1->flT xs i j true (F j')=false):=fun j' hj'=>by
      by_cases e:j'=k
      ·subst e;rw [HT1.out,decide_eq_false hn0];rfl
      ·exact HNo.out j' (by omega)
     clear HNo HTs HT1 HL2;generalize lastD xs (F k) j=x at *;generalize F k=r at *;go_wp2_with (first|(go_at_call 130;refine Calls.mono (HL1.out _ HB1.out.1) ?_;rintro e w2 ⟨rfl,b2⟩;have HB2:Hid (Below w.heap.size w w2/\Below w1.heap.size w1 w2):=⟨HB1.out.1.trans (b2.mono HB1.out.1.size),HB1.out.2.trans (b2.mono HB1.out.2.size)⟩;clear b2 HL1))
     go_roundw
     case rel=>exact ⟨k+1,by omega,by go_num,HB2.out.1,HB2.out.2,HNx.out⟩
     case measure=>simp [intOf];omega
   ·have k1:¬ (k:Int)<(n:Int):=by omega
    have HS:Hid (false=fb):=HN.out fun j hj=>HNo.out j (by omega);go_wp2_with fail
    go_ret
    exact ⟨ret_bool HS.out,HB1.out.1⟩
end Go.Proofs.YtcmlnemokckbdaaGreatDoor.Dp
namespace Go.Proofs.YtcmlnemokckbdaaGreatDoor.Dp
open Go.ChangeShapes Go.WideShapes Go.ChangeAt Go.RowKit
open YtcmlnemokckbdaaGreatDoor.Op YtcmlnemokckbdaaGreatDoor.So
open YtcmlnemokckbdaaGreatDoor.Tb (Tab TabAt)
theorem wrapU (n:Int):IntKind.u32.wrap n=n%4294967296:=by simp [IntKind.wrap,IntKind.bits,IntKind.signed]
theorem toNatU (x:Nat) (hx:x<4294967296):(BitVec.ofInt 32 (x:Int)).toNat = x:=by
 rw [BitVec.toNat_ofInt];omega
theorem andU (x y:Nat) (hx:x<4294967296) (hy:y<4294967296):bits .and .u32 (x:Int) (y:Int)=((x &&& y:Nat):Int):=by
 show IntKind.u32.wrap ((BitVec.ofInt 32 (x:Int) &&& BitVec.ofInt 32 (y:Int)).toNat : Nat)=_;rw [BitVec.toNat_and,toNatU x hx,toNatU y hy,wrapU]
 have:x &&& y<=x:=Nat.and_le_left
 omega
theorem orU (x y:Nat) (hx:x<4294967296) (hy:y<4294967296):bits .or .u32 (x:Int) (y:Int)=((x ||| y:Nat):Int):=by
 show IntKind.u32.wrap ((BitVec.ofInt 32 (x:Int) ||| BitVec.ofInt 32 (y:Int)).toNat : Nat)=_;rw [BitVec.toNat_or,toNatU x hx,toNatU y hy,wrapU];have h:x ||| y<2^32:=Nat.or_lt_two_pow (by simpa using hx) (by simpa using hy);have h:x ||| y<4294967296:=h;omega
theorem sh_nat (d:Nat) (h:d<=31):sh (d:Int)=((2^d:Nat):Int):=by
 unfold sh;rw [Int.toNat_natCast,Nat.min_eq_left (by omega)];have h1:(2:Nat)^d<2^32:=Nat.pow_lt_pow_right (by decide) (by omega);have h2:((2^d:Nat):Int)=(2:Int)^d:=by simp
 rw [<- h2];have h3:(2:Nat)^32=4294967296:=by decide
 generalize (2:Nat)^d=p at *;omega
theorem pow_lt (d:Nat) (h:d<=31):2^d<4294967296:=by
 have h1:(2:Nat)^d<2^32:=Nat.pow_lt_pow_right (by decide) (by omega);have h3:(2:Nat)^32=4294967296:=by decide
 omega
structure Msk (m:Int) (P:Nat->Prop):Prop where
 ex:∃ x:Nat,m=x/\x<4294967296/\∀ d,x.testBit d=true↔P d
theorem Msk.zero:Msk 0 (fun _=>False):=⟨0,rfl,by decide,fun d=>by simp⟩
theorem Msk.one (d:Nat) (h:d<=31):Msk (sh (d:Int)) (fun k=>k=d):=⟨2^d,sh_nat d h,pow_lt d h,fun k=>by rw [Nat.testBit_two_pow];simp [eq_comm]⟩
theorem Msk.or {m n:Int} {P Q:Nat->Prop} (h:Msk m P) (g:Msk n Q):Msk (bits .or .u32 m n) (fun k=>P k\/Q k):=by
 obtain ⟨x,rfl,hx,h1⟩:=h.ex;obtain ⟨y,rfl,hy,h2⟩:=g.ex;refine ⟨x ||| y,orU x y hx hy,?_,fun d=>?_⟩
 ·have h:x ||| y<2^32:=Nat.or_lt_two_pow (by simpa using hx) (by simpa using hy);exact h
 ·rw [Nat.testBit_or,Bool.or_eq_true,h1,h2]
theorem Msk.and {m n:Int} {P Q:Nat->Prop} (h:Msk m P) (g:Msk n Q):(bits .and .u32 m n != 0)=true↔∃ d,P d/\Q d:=by
 obtain ⟨x,rfl,hx,h1⟩:=h.ex;obtain ⟨y,rfl,hy,h2⟩:=g.ex;rw [andU x y hx hy];constructor
 ·intro hne;have hne:¬ (x &&& y)=0:=fun e=>by rw [e] at hne;simp at hne
  obtain ⟨d,hd⟩:∃ d,(x &&& y).testBit d=true:=by
   by_cases hz:∃ d,(x &&& y).testBit d=true
   ·exact hz
   ·exfalso
    refine hne (Nat.eq_of_testBit_eq fun d=>?_);rw [Nat.zero_testBit]
    cases hb:(x &&& y).testBit d
    ·rfl
    ·exact absurd ⟨d,hb⟩ hz
  rw [Nat.testBit_and,Bool.and_eq_true] at hd;exact ⟨d,(h1 d).1 hd.1,(h2 d).1 hd.2⟩
 ·rintro ⟨d,p,q⟩;have hb:(x &&& y).testBit d=true:=by rw [Nat.testBit_and,(h1 d).2 p,(h2 d).2 q];rfl
  have:¬ (x &&& y)=0:=fun e=>by rw [e,Nat.zero_testBit] at hb;cases hb
  simpa using this
def wrs (o:O) (d:Nat):Prop:=wrB o=true/\o.d=(d:Int)
def rds (o:O) (k:K) (d:Nat):Prop:=(k.A=true/\o.a=(d:Int))\/(k.A=true/\k.B=true/\o.b=(d:Int))
theorem okF_regs {k:K} {o:O} (h:okF k o=true):(k.D=true->o.d<=31)/\(k.A=true->o.a<=31)/\(k.B=true->o.b<=31):=by
 simp only [okF,Bool.and_eq_true] at h;obtain ⟨⟨⟨h1,h2⟩,h3⟩,-⟩:=h;refine ⟨fun e=>?_,fun e=>?_,fun e=>?_⟩
 ·rw [e] at h1;simp [rH] at h1;omega
 ·rw [e] at h2;simp [rH] at h2;omega
 ·rw [e] at h3;simp [rH] at h3;omega
theorem msk_w (t:Tab) (o:O) (k:K) (ho:o.Ok) (hk:kOf o.op=some k):Msk (ptOf t o k).w (wrs o):=by
 show Msk (if wrB o then sh o.d else 0) (wrs o)
 cases hw:wrB o
 ·have:wrs o=fun _=>False:=funext fun d=>propext ⟨fun h=>by rw [wrs,hw] at h;exact absurd h.1 (by decide),fun h=>h.elim⟩
  rw [this];exact Msk.zero
 ·have hd:o.d<=31:=by
   unfold wrB at hw;rw [hk] at hw;simp only [Bool.and_eq_true] at hw;exact (okF_regs hw.1).1 hw.2
  obtain ⟨d,e⟩:∃ d:Nat,o.d=d:=⟨o.d.toNat,by have:=ho.d0;omega⟩
  have:wrs o=fun k=>k=d:=funext fun j=>propext ⟨fun h=>by have h2:=h.2;omega,fun h=>⟨hw,by rw [e,h]⟩⟩
  rw [this,e];exact Msk.one d (by omega)
theorem msk_m (t:Tab) (o:O) (k:K) (ho:o.Ok) (hf:okF k o=true):Msk (ptOf t o k).m (rds o k):=by
 show Msk (mk o (rcN k o)) (rds o k);obtain ⟨-,ha,hb⟩:=okF_regs hf;obtain ⟨a,ea⟩:∃ a:Nat,o.a=a:=⟨o.a.toNat,by have:=ho.a0;omega⟩;obtain ⟨b,eb⟩:∃ b:Nat,o.b=b:=⟨o.b.toNat,by have:=ho.b0;omega⟩
 cases hA:k.A
 ·have e0:rcN k o=0:=by simp [rcN,hA]
  have:rds o k=fun _=>False:=funext fun d=>propext ⟨fun h=>by rcases h with h|h <;> (rw [hA] at h;exact absurd h.1 (by decide)),fun h=>h.elim⟩
  rw [e0,this];exact Msk.zero
 ·have m1:Msk (mk o 1) (fun k=>False\/k=a):=by
   show Msk (bits .or .u32 0 (sh (rf o 0))) _;refine Msk.zero.or ?_
   have:rf o 0=(a:Int):=ea
   rw [this];exact Msk.one a (by have:=ha hA;omega)
  by_cases h2:(k.B && !(o.a==o.b))=true
  ·have e2:rcN k o=2:=by simp only [rcN,hA,h2,if_true]
   simp only [Bool.and_eq_true] at h2;have m2:Msk (mk o 2) (fun k=>(False\/k=a)\/k=b):=by
    show Msk (bits .or .u32 (mk o 1) (sh (rf o 1))) _;refine m1.or ?_
    have:rf o 1=(b:Int):=eb
    rw [this];exact Msk.one b (by have:=hb h2.1;omega)
   have:rds o k=fun k=>(False\/k=a)\/k=b:=funext fun d=>propext ⟨fun h=>by
    rcases h with h|h
    ·left;right;have:=h.2;omega
    ·right;have:=h.2.2;omega,fun h=>by
    rcases h with (h|h)|h
    ·exact h.elim
    ·left;exact ⟨hA,by omega⟩
    ·right;exact ⟨hA,h2.1,by omega⟩⟩
   rw [e2,this];exact m2
  ·have h2':(k.B && !(o.a==o.b))=false:=by simpa using h2
   have e1:rcN k o=1:=by simp [rcN,hA,h2']
   have:rds o k=fun k=>False\/k=a:=funext fun d=>propext ⟨fun h=>by
    rcases h with h|h
    ·right;have:=h.2;omega
    ·right
     have hB:=h.2.1;rw [hB] at h2'
     have:o.a=o.b:=by simpa using h2'
     have:=h.2.2
     omega,fun h=>by
    rcases h with h|h
    ·exact h.elim
    ·left;exact ⟨hA,by omega⟩⟩
   rw [e1,this];exact m1
end Go.Proofs.YtcmlnemokckbdaaGreatDoor.Dp
