/- Parts Zd. -/
import Derived.Test.YtiejdpjgplikjaaGreatDoorN18
set_option maxRecDepth 20000
set_option maxHeartbeats 8000000
namespace Go.Proofs.YtiejdpjgplikjaaGreatDoor.Bn
open Go.ChangeShapes Go.WideShapes Go.ChangeAt Go.RowKit
open YtiejdpjgplikjaaGreatDoor.Op YtiejdpjgplikjaaGreatDoor.So
open YtiejdpjgplikjaaGreatDoor.Dp (Ed)
def gTr (F:Mat) (k i j:Nat):Mat:=fun x y=>if x<i\/x=i/\y<j then gOv F k x y else F x y
theorem gTr_0 (F:Mat) (k:Nat):gTr F k 0 0=F:=by
 funext x y;unfold gTr;rw [if_neg (by omega)]
theorem gTr_k {F:Mat} {k:Nat} (h:F k k<=0) (i j y:Nat):gTr F k i j k y=F k y:=by
 unfold gTr
 split
 ·exact gOv_from h y
 ·rfl
theorem gTr_to {F:Mat} {k:Nat} (h:F k k<=0) (i j x:Nat):gTr F k i j x k=F x k:=by
 unfold gTr
 split
 ·exact gOv_to h x
 ·rfl
theorem gTr_at (F:Mat) (k i j:Nat):gTr F k i j i j=F i j:=by unfold gTr;rw [if_neg (by omega)]
theorem gTr_set (F:Mat) (k i j:Nat) (v:Int) (h:gOv F k i j=v):upd2 (gTr F k i j) i j v=gTr F k i (j+1):=by
 subst h;funext x y
 unfold upd2 gTr
 by_cases e:x=i/\y=j
 ·obtain ⟨rfl,rfl⟩:=e;rw [if_pos ⟨rfl,rfl⟩,if_pos (by omega)]
 ·rw [if_neg e]
  by_cases c:x<i\/x=i/\y<j
  ·rw [if_pos c,if_pos (by omega)]
  ·rw [if_neg c,if_neg (by omega)]
theorem gTr_no (F:Mat) (k i j:Nat) (h:F k j=(-9223372036854775808)):gTr F k i j=gTr F k i (j+1):=by
 rw [<- gTr_set F k i j (F i j) (gOv_no (.inr h))];funext x y
 unfold upd2
 by_cases e:x=i/\y=j
 ·obtain ⟨rfl,rfl⟩:=e;rw [if_pos ⟨rfl,rfl⟩,gTr_at]
 ·rw [if_neg e]
theorem gTr_next (F:Mat) (k n i:Nat):∀ x y,x<n->y<n->gTr F k i n x y=gTr F k (i+1) 0 x y:=fun x y _ hy=>by
 unfold gTr
 by_cases c:x<i\/x=i/\y<n
 ·rw [if_pos c,if_pos (by omega)]
 ·rw [if_neg c,if_neg (by omega)]
theorem gTr_skip (F:Mat) (k i:Nat) (h:F i k=(-9223372036854775808)):gTr F k i 0=gTr F k (i+1) 0:=by
 funext x y
 unfold gTr
 by_cases c:x<i\/x=i/\y<0
 ·rw [if_pos c,if_pos (by omega)]
 ·rw [if_neg c]
  by_cases e:x=i
  ·subst e;rw [if_pos (by omega),gOv_no (.inl h)]
  ·rw [if_neg (by omega)]
theorem gTr_n (F:Mat) (k n:Nat):∀ x y,x<n->y<n->gTr F k n 0 x y=gOv F k x y:=fun x y hx _=>by
 unfold gTr;rw [if_pos (.inl hx)]
theorem goOver_any (b n k:Nat) (hn:n<=64) (hk:k<n) (a:Option Addr) (es:List Ed) (F:Mat) (M:Int) (hM:M<=2305843009213693951) (hs:Sm M F) (hkk:F k k<=0) (w w0:World) (hw:Wz w0 w b n F a es) (hne:∀ x,a=some x->¬ x.block=b) :
  Calls Tryz.prog 106 #[.pointer (some ⟨b,0,none⟩),.int .i64 n,.int .i64 k] w fun e w'=>e=.returned (.tuple #[])/\Wz w0 w' b n (gOv F k) a es:=by
 have HR:Hid (∀ (i:Nat) W,i<n->Calls Tryz.prog 144 #[.pointer (some ⟨b,0,none⟩),.int .i64 i,.int .i64 n] W fun e w'=>e=.returned (.slice (some ⟨b,i*64,none⟩) n n)/\w'=W):=fun i W hi=>row_any b i n (by omega) (by omega) W;have HS:Hid (Wz w0 w b n (gTr F k 0 0) a es):=by show Wz w0 w b n (gTr F k 0 0) a es;rw [gTr_0];exact hw
 have HE:Hid (n<=64/\k<n/\F k k<=0/\∀ x,a=some x->¬ x.block=b):=⟨hn,hk,hkk,hne⟩;have HM:Hid (M<=2305843009213693951/\Sm M F):=⟨hM,hs⟩;have hn':(n:Int)<=64:=by omega
 have hk0:(0:Int)<=(k:Int):=by omega
 have hk1:(k:Int)<(n:Int):=by omega
 clear hw hne hn hs hkk hM;go_enter Tryz.func106,Tryz.ntmps106;go_wp2_with (first
  | (go_at_call 144;refine Calls.mono (HR.out k _ hk) ?_;rintro e w1 ⟨rfl,rfl⟩))
 go_loopw [17] (fun v wr=>∃ i:Nat,i<=n/\v=.int .i64 i/\Wz w0 wr b n (gTr F k i 0) a es) (fun v _=>n-(intOf v).toNat)
 case atStart=>exact ⟨0,by omega,rfl,HS.out⟩
 case round=>
  rename World=>wr;obtain ⟨i,hi,rfl,hs⟩:=hrel;have HQ:Hid (Wz w0 wr b n (gTr F k i 0) a es):=hs;clear hs HS
  by_cases hlt:i<n
  ·have i0:(0:Int)<=(i:Int):=by omega
   have i1:(i:Int)<(n:Int):=by omega
   have c1:=HQ.out.m.c i k hlt hk;rw [gTr_to HE.out.2.2.1] at c1;have l1:=HQ.out.m.lt
   by_cases hik:F i k=(-9223372036854775808)
   ·have HNx:Hid (gTr F k i 0=gTr F k (i+1) 0):=gTr_skip F k i hik;rw [hik] at c1;clear hik;go_wp2_with (first
     | (go_at_call 144;refine Calls.mono (HR.out i _ hlt) ?_;rintro e w1 ⟨rfl,rfl⟩))
    go_roundw
    case rel=>exact ⟨i+1,by omega,by go_num,by rw [<- HNx.out];exact HQ.out⟩
    case measure=>simp [intOf];omega
   ·have HI:Hid (¬ F i k=(-9223372036854775808)):=hik;obtain ⟨p,hp⟩:∃ p,F i k=p:=⟨_,rfl⟩;have HP:Hid (F i k=p):=hp;rw [hp] at c1 hik;have hb1:(p==(-9223372036854775808))=false:=by simpa using hik
    clear hp hik;go_wp2_with (first
     | (go_at_call 144;refine Calls.mono (HR.out i _ hlt) ?_;rintro e w1 ⟨rfl,rfl⟩))
    clear c1 l1 hb1
    go_loopw [35] (fun v wr=>∃ j:Nat,j<=n/\v=.int .i64 j/\Wz w0 wr b n (gTr F k i j) a es) (fun v _=>n-(intOf v).toNat)
    case atStart=>exact ⟨0,by omega,rfl,HQ.out⟩
    case round=>
     rename World=>wz;obtain ⟨j,hj,rfl,hs⟩:=hrel;have HZ:Hid (Wz w0 wz b n (gTr F k i j) a es):=hs;clear hs HQ
     by_cases hjt:j<n
     ·have j0:(0:Int)<=(j:Int):=by omega
      have j1:(j:Int)<(n:Int):=by omega
      have ck:=HZ.out.m.c k j hk hjt;rw [gTr_k HE.out.2.2.1] at ck;have l1:=HZ.out.m.lt
      by_cases hkj:F k j=(-9223372036854775808)
      ·have HNx:Hid (gTr F k i j=gTr F k i (j+1)):=gTr_no F k i j hkj;rw [hkj] at ck;clear hkj;go_wp2_with fail
       go_roundw
       case rel=>exact ⟨j+1,by omega,by go_num,by rw [<- HNx.out];exact HZ.out⟩
       case measure=>simp [intOf];omega
      ·have HY:Hid (gOv F k i j=max (F i j) (F i k+F k j)):=gOv_yes fun c=>c.elim HI.out hkj;have cc:=HZ.out.m.c i j hlt hjt;rw [gTr_at] at cc;have cf:=HZ.out.m.f (i*64+j);have s1:=HM.out.2 i j;have s2:=HM.out.2 i k;have s3:=HM.out.2 k j;have s4:=HM.out.1;have hI:=HI.out;obtain ⟨r,hr⟩:∃ r,F k j=r:=⟨_,rfl⟩;obtain ⟨g,hg⟩:∃ g,F i j=g:=⟨_,rfl⟩;have HG:Hid (F k j=r/\F i j=g):=⟨hr,hg⟩;rw [hr] at ck hkj s3;rw [hg] at cc s1;rw [HP.out] at s2 hI;have hb2:(r != (-9223372036854775808))=true:=by simpa using hkj
       have q1 : -9223372036854775808<=p+r:=by omega
       have q2:p+r<=9223372036854775807:=by omega
       have HSet:Hid (∀ v,gOv F k i j=v->Wz w0 (wz.setCell ⟨b,i*64+j,none⟩ (.int .i64 v)) b n (gTr F k i (j+1)) a es):=fun v hv=>by
        rw [<- gTr_set F k i j v hv];exact HZ.out.set HE.out.2.2.2 HE.out.1 hlt hjt v
       clear hkj hr hg s1 s2 s3 s4 hI
       by_cases hmx:g<p+r
       ·have HV:Hid (gOv F k i j=p+r):=by
         show gOv F k i j=p+r;rw [HY.out,HP.out,HG.out.1,HG.out.2];omega
        go_wp2_with fail
        go_roundw
        case rel=>exact ⟨j+1,by omega,by go_num,HSet.out _ HV.out⟩
        case measure=>simp [intOf];omega
       ·have HV:Hid (gOv F k i j=g):=by
         show gOv F k i j=g;rw [HY.out,HP.out,HG.out.1,HG.out.2];omega
        go_wp2_with fail
        go_roundw
        case rel=>exact ⟨j+1,by omega,by go_num,HSet.out _ HV.out⟩
        case measure=>simp [intOf];omega
     ·obtain rfl:j=n:=by omega
      have j1:¬ (j:Int)<(j:Int):=by omega
      have HNx:Hid (∀ x y,x<j->y<j->gTr F k i j x y=gTr F k (i+1) 0 x y):=gTr_next F k j i;go_wp2_with fail
      go_roundw
      case rel=>exact ⟨i+1,by omega,by go_num,⟨HZ.out.m.same HNx.out,HZ.out.e,HZ.out.fr⟩⟩
      case measure=>simp [intOf];omega
  ·obtain rfl:i=n:=by omega
   have i1:¬ (i:Int)<(i:Int):=by omega
   have HNx:Hid (∀ x y,x<i->y<i->gTr F k i 0 x y=gOv F k x y):=gTr_n F k i;go_wp2_with fail
   go_end0
   exact ⟨rfl,⟨HQ.out.m.same HNx.out,HQ.out.e,HQ.out.fr⟩⟩
end Go.Proofs.YtiejdpjgplikjaaGreatDoor.Bn
