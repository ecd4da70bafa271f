/- Parts Sdi Sbi. -/
import Derived.Test.YtcmlnemokckbdaaGreatDoorN15
set_option maxRecDepth 20000
set_option maxHeartbeats 4000000
namespace Go.Proofs.YtcmlnemokckbdaaGreatDoor.Si
open Go.ChangeShapes Go.WideShapes Go.ChangeAt Go.RowKit
open YtcmlnemokckbdaaGreatDoor.So YtcmlnemokckbdaaGreatDoor.Ss
theorem symA_any (bx blk n cap a m b:Nat) (Ok:Int->Prop) (key:Int->Int) (f:Nat->Int) (w0 w:World) (hC:Cmp bx blk Ok key w0) (S:Rw blk n Ok w0 w f) (hm:m=a+1) (h1:m<b) (h2:b<=n) (hn:n<1099511627776) (hs:Srt key f m b) :
  Calls Tryz.prog 185 #[.slice (some ⟨blk,0,none⟩) n cap,.int .i64 a,.int .i64 m,.int .i64 b,.func (.func 153) #[] #[.pointer (some ⟨bx,0,none⟩)]] w fun e w'=>e=.returned (.tuple #[])/\∃ g,Rw blk n Ok w0 w' g/\Ps key a b f g/\Srt key g a b:=by
 have S0:Aside (Rw blk n Ok w0 w f):=S;have HC:Aside (Cmp bx blk Ok key w0):=hC;have HS:Aside (Srt key f m b):=hs;clear S hC hs;have e0:(m:Int)-(a:Int)=1:=by omega
 have hm':Aside (m=a+1):=hm;have ham:a<m:=by omega
 clear hm;go_enter Tryz.func185,Tryz.ntmps185;go_wp2
 go_loopg [10,11] n (fun g1 vi vj wr=>∃ (i j:Nat),vi=.int .i64 i/\vj=.int .i64 j/\m<=i/\i<=j/\j<=b/\j-i<=g1/\Aside (Rw blk n Ok w0 wr f)/\Aside (i=m\/key (f (i-1))<key (f a))/\Aside (j=b\/key (f a)<=key (f j)))
 case atStart=>exact ⟨m,b,rfl,rfl,Nat.le_refl _,by omega,Nat.le_refl _,by omega,S0,Or.inl rfl,Or.inl rfl⟩
 case round=>
  clear S0 e0;obtain ⟨i,j,rfl,rfl,hi,hij,hj,hg1,S1,L1,H1⟩:=hrel
  by_cases hlt:i<j
  ·have hltz:(i:Int)<(j:Int):=by omega
   obtain ⟨c,hc⟩:∃ c,c=(i+j) / 2:=⟨_,rfl⟩;have hw:IntKind.i64.wrap ((i:Int)+(j:Int))=(i:Int)+(j:Int):=by rw [IntKind.wrap_i64];omega
   have hcz:((i:Int)+(j:Int)) / 2=(c:Int):=by omega
   have hc1:i<=c:=by omega
   have hc2:c<j:=by omega
   clear hc;have pa:(0:Int)<=(a:Int):=by omega
   have ba:(a:Int)<(n:Int):=by omega
   have pb:(0:Int)<=(c:Int):=by omega
   have bb:(c:Int)<(n:Int):=by omega
   obtain ⟨x,hx⟩:∃ x,x=f c:=⟨_,rfl⟩;obtain ⟨y,hy⟩:∃ y,y=f a:=⟨_,rfl⟩;have ca:=S1.out.c c (by omega);have cb:=S1.out.c a (by omega);rw [<- hx] at ca;rw [<- hy] at cb;have hcm:Hid _:=Cmp.at HC.out S1.out (x:=x) (y:=y) (by rw [hx];exact S1.out.ok c (by omega)) (by rw [hy];exact S1.out.ok a (by omega));obtain ⟨cf,hcf⟩:∃ q,q=c3 (key x) (key y):=⟨_,rfl⟩;rw [<- hcf] at hcm
   by_cases hlv:key x<key y
   ·have hd:decide (cf<0)=true:=decide_eq_true (by rw [hcf];exact c3_lt.2 hlv);have hv:cf<0:=of_decide_eq_true hd;have A:Aside (c+1=m\/key (f (c+1-1))<key (f a)):=Or.inr (by rw [Nat.add_sub_cancel,<- hx,<- hy];exact hlv);clear hx hy hcf hlv L1;go_wp2_with fail
    go_quiet (first|(go_at_call 153;refine Calls.quiet_of (hcm.out _)))
    have S2:Aside (Rw blk n Ok w0 (wr.drewN nq) f):=S1.out.drewN nq;clear ca cb S1 hcm;generalize wr.drewN nq=w2 at S2 ⊢;clear nq;go_wp2
    go_roundg (j-(c+1))
    case measure=>omega
    case rel=>exact ⟨c+1,j,by go_num,rfl,by omega,by omega,hj,Nat.le_refl _,S2,A,H1⟩
   ·have hd:decide (cf<0)=false:=decide_eq_false (by rw [hcf];exact fun hh=>hlv (c3_lt.1 hh));have hv:¬ cf<0:=of_decide_eq_false hd;have A:Aside (c=b\/key (f a)<=key (f c)):=Or.inr (by rw [<- hx,<- hy];omega);clear hx hy hcf hlv H1;go_wp2_with fail
    go_quiet (first|(go_at_call 153;refine Calls.quiet_of (hcm.out _)))
    have S2:Aside (Rw blk n Ok w0 (wr.drewN nq) f):=S1.out.drewN nq;clear ca cb S1 hcm;generalize wr.drewN nq=w2 at S2 ⊢;clear nq;go_wp2
    go_roundg (c-i)
    case measure=>omega
    case rel=>exact ⟨i,c,rfl,rfl,hi,by omega,by omega,Nat.le_refl _,S2,L1,A⟩
  ·have hltz:¬ (i:Int)<(j:Int):=by omega
   obtain rfl:i=j:=by omega
   have A:Aside (Srt key (movR f a (i-1)) a b/\∀ x,a<x->x<=i-1->key (f x)<key (f a)):=by
    have hm:=hm'.out;subst hm;exact ⟨HS.out.movR hi hj L1.out H1.out,less_R HS.out hj L1.out⟩
   clear L1 H1 HS;have zi:(i:Int)-1=((i-1:Nat):Int):=by omega
   have rw1:IntKind.i64.wrap ((i:Int)-1)=((i-1:Nat):Int):=by rw [IntKind.wrap_i64];omega
   obtain ⟨t,ht⟩:∃ t,t=i-1:=⟨_,rfl⟩;rw [<- ht] at zi rw1 A;have hat : a<=t:=by omega
   have htn:t<b:=by omega
   have hit:i=t+1:=by omega
   subst hit;clear ht zi;go_wp2
   go_loopg [13] n (fun g1 vk wr=>∃ (k:Nat),vk=.int .i64 k/\a<=k/\k<=t/\t-k<=g1/\Aside (Rw blk n Ok w0 wr (movR f a k)))
   case atStart=>exact ⟨a,rfl,Nat.le_refl _,hat,by omega,by rw [movR_start];exact S1⟩
   case round=>
    clear S1;obtain ⟨k,rfl,hak,hkt,hg2,SK⟩:=hrel
    by_cases hkl:k<t
    ·have hkz:(k:Int)<(t:Int):=by omega
     obtain ⟨p,hp⟩:∃ p,p=k+1:=⟨_,rfl⟩;have ea:((k:Int)+1).toNat = p:=by omega
     have pa:(0:Int)<=(k:Int)+1:=by omega
     have ba:(k:Int)+1<(n:Int):=by omega
     have ra:IntKind.i64.wrap ((k:Int)+1)=(k:Int)+1:=by rw [IntKind.wrap_i64];omega
     have pb:(0:Int)<=(k:Int):=by omega
     have bb:(k:Int)<(n:Int):=by omega
     obtain ⟨x,hx⟩:∃ x,x=movR f a k k:=⟨_,rfl⟩;obtain ⟨y,hy⟩:∃ y,y=movR f a k p:=⟨_,rfl⟩;have S3:Aside (Rw blk n Ok w0 ((wr.setCell ⟨blk,k,none⟩ (.int .i64 (y))).setCell ⟨blk,p,none⟩ (.int .i64 (x))).drew (movR f a (k+1))):=by
      rw [hx,hy,<- movR_step f hak,hp];exact SK.out.swap (by omega) (by omega)
     have ca:=SK.out.c k (by omega);have cb:=SK.out.c p (by omega);have fa:=SK.out.z k;have fb:=SK.out.z p;obtain ⟨u,cc⟩:=SK.out.c2 (i:=k) (j:=p) (by omega) (by omega) (.int .i64 (y));rw [<- hx] at ca;rw [<- hy] at cb;clear SK hx hy hp;go_wp2_with fail
     go_region
     clear ca cb cc fa fb;generalize ((wr.setCell ⟨blk,k,none⟩ (.int .i64 (y))).setCell ⟨blk,p,none⟩ (.int .i64 (x))).drew=w3 at S3 ⊢;clear ea;go_wp2
     go_roundg (t-(k+1))
     case measure=>omega
     case rel=>exact ⟨k+1,by go_num,by omega,by omega,Nat.le_refl _,S3⟩
    ·have hkz:¬ (k:Int)<(t:Int):=by omega
     obtain rfl:k=t:=by omega
     go_wp2
     (try simp only [Exit.inBlock,Exit.then])
     refine bodyPost_ret (results_none rfl _ _ _) rfl ?_;exact ⟨rfl,_,SK.out,Ps.movR f k hak htn A.out.2,A.out.1⟩
theorem symB_any (bx blk n cap a m b:Nat) (Ok:Int->Prop) (key:Int->Int) (f:Nat->Int) (w0 w:World) (hC:Cmp bx blk Ok key w0) (S:Rw blk n Ok w0 w f) (hb:b=m+1) (h1:a+1<m) (h2:b<=n) (hn:n<1099511627776) (hs:Srt key f a m) :
  Calls Tryz.prog 185 #[.slice (some ⟨blk,0,none⟩) n cap,.int .i64 a,.int .i64 m,.int .i64 b,.func (.func 153) #[] #[.pointer (some ⟨bx,0,none⟩)]] w fun e w'=>e=.returned (.tuple #[])/\∃ g,Rw blk n Ok w0 w' g/\Ps key a b f g/\Srt key g a b:=by
 have S0:Aside (Rw blk n Ok w0 w f):=S;have HC:Aside (Cmp bx blk Ok key w0):=hC;have HS:Aside (Srt key f a m):=hs;clear S hC hs;have e0:((m:Int)-(a:Int)==1)=false:=by rw [beq_eq_false_iff_ne];omega
 have e1:(b:Int)-(m:Int)=1:=by omega
 have rwa:IntKind.i64.wrap ((m:Int)-(a:Int))=(m:Int)-(a:Int):=by rw [IntKind.wrap_i64];omega
 have hb':Aside (b=m+1):=hb;have hmn:m<n:=by omega
 clear hb;go_enter Tryz.func185,Tryz.ntmps185;go_wp2
 go_loopg [14,15] n (fun g1 vi vj wr=>∃ (i j:Nat),vi=.int .i64 i/\vj=.int .i64 j/\a<=i/\i<=j/\j<=m/\j-i<=g1/\Aside (Rw blk n Ok w0 wr f)/\Aside (i=a\/key (f (i-1))<=key (f m))/\Aside (j=m\/key (f m)<key (f j)))
 case atStart=>exact ⟨a,m,rfl,rfl,Nat.le_refl _,by omega,Nat.le_refl _,by omega,S0,Or.inl rfl,Or.inl rfl⟩
 case round=>
  clear S0 e0 e1 rwa;obtain ⟨i,j,rfl,rfl,hi,hij,hj,hg1,S1,L1,H1⟩:=hrel
  by_cases hlt:i<j
  ·have hltz:(i:Int)<(j:Int):=by omega
   obtain ⟨c,hc⟩:∃ c,c=(i+j) / 2:=⟨_,rfl⟩;have hw:IntKind.i64.wrap ((i:Int)+(j:Int))=(i:Int)+(j:Int):=by rw [IntKind.wrap_i64];omega
   have hcz:((i:Int)+(j:Int)) / 2=(c:Int):=by omega
   have hc1:i<=c:=by omega
   have hc2:c<j:=by omega
   clear hc;have pa:(0:Int)<=(m:Int):=by omega
   have ba:(m:Int)<(n:Int):=by omega
   have pb:(0:Int)<=(c:Int):=by omega
   have bb:(c:Int)<(n:Int):=by omega
   obtain ⟨x,hx⟩:∃ x,x=f m:=⟨_,rfl⟩;obtain ⟨y,hy⟩:∃ y,y=f c:=⟨_,rfl⟩;have ca:=S1.out.c m (by omega);have cb:=S1.out.c c (by omega);rw [<- hx] at ca;rw [<- hy] at cb;have hcm:Hid _:=Cmp.at HC.out S1.out (x:=x) (y:=y) (by rw [hx];exact S1.out.ok m (by omega)) (by rw [hy];exact S1.out.ok c (by omega));obtain ⟨cf,hcf⟩:∃ q,q=c3 (key x) (key y):=⟨_,rfl⟩;rw [<- hcf] at hcm
   by_cases hlv:key x<key y
   ·have hd:decide (cf<0)=true:=decide_eq_true (by rw [hcf];exact c3_lt.2 hlv);have hv:cf<0:=of_decide_eq_true hd;have A:Aside (c=m\/key (f m)<key (f c)):=Or.inr (by rw [<- hx,<- hy];exact hlv);clear hx hy hcf hlv H1;go_wp2_with fail
    go_quiet (first|(go_at_call 153;refine Calls.quiet_of (hcm.out _)))
    have S2:Aside (Rw blk n Ok w0 (wr.drewN nq) f):=S1.out.drewN nq;clear ca cb S1 hcm;generalize wr.drewN nq=w2 at S2 ⊢;clear nq;go_wp2
    go_roundg (c-i)
    case measure=>omega
    case rel=>exact ⟨i,c,rfl,rfl,hi,by omega,by omega,Nat.le_refl _,S2,L1,A⟩
   ·have hd:decide (cf<0)=false:=decide_eq_false (by rw [hcf];exact fun hh=>hlv (c3_lt.1 hh));have hv:¬ cf<0:=of_decide_eq_false hd;have A:Aside (c+1=a\/key (f (c+1-1))<=key (f m)):=Or.inr (by rw [Nat.add_sub_cancel,<- hx,<- hy];omega);clear hx hy hcf hlv L1;go_wp2_with fail
    go_quiet (first|(go_at_call 153;refine Calls.quiet_of (hcm.out _)))
    have S2:Aside (Rw blk n Ok w0 (wr.drewN nq) f):=S1.out.drewN nq;clear ca cb S1 hcm;generalize wr.drewN nq=w2 at S2 ⊢;clear nq;go_wp2
    go_roundg (j-(c+1))
    case measure=>omega
    case rel=>exact ⟨c+1,j,by go_num,rfl,by omega,by omega,hj,Nat.le_refl _,S2,A,H1⟩
  ·have hltz:¬ (i:Int)<(j:Int):=by omega
   obtain rfl:i=j:=by omega
   have A:Aside (Srt key (movL f m i) a b/\∀ x,i<=x->x<m->key (f m)<key (f x)):=by
    have hb:=hb'.out;subst hb;exact ⟨HS.out.movL hi hj L1.out H1.out,less_L HS.out hi H1.out⟩
   clear L1 H1 HS;go_wp2
   go_loopg [17] n (fun g1 vk wr=>∃ (k:Nat),vk=.int .i64 k/\i<=k/\k<=m/\k-i<=g1/\Aside (Rw blk n Ok w0 wr (movL f m k)))
   case atStart=>exact ⟨m,rfl,hj,Nat.le_refl _,by omega,by rw [movL_start];exact S1⟩
   case round=>
    clear S1;obtain ⟨k,rfl,hik,hkm,hg2,SK⟩:=hrel
    by_cases hkl:i<k
    ·obtain ⟨p,rfl⟩:∃ p,k=p+1:=⟨k-1,by omega⟩;have zk:((p+1:Nat):Int)=(p:Int)+1:=by omega
     have hkz:(p:Int)+1>(i:Int):=by omega
     obtain ⟨k,hk⟩:∃ k,k=p+1:=⟨_,rfl⟩;have ea:((p:Int)+1).toNat = k:=by omega
     have pa:(0:Int)<=(p:Int)+1:=by omega
     have ba:(p:Int)+1<(n:Int):=by omega
     have pb:(0:Int)<=(p:Int):=by omega
     have bb:(p:Int)<(n:Int):=by omega
     have rb:IntKind.i64.wrap ((p:Int))=(p:Int):=by rw [IntKind.wrap_i64];omega
     rw [<- hk] at SK;obtain ⟨x,hx⟩:∃ x,x=movL f m k k:=⟨_,rfl⟩;obtain ⟨y,hy⟩:∃ y,y=movL f m k p:=⟨_,rfl⟩;have S3:Aside (Rw blk n Ok w0 ((wr.setCell ⟨blk,k,none⟩ (.int .i64 (y))).setCell ⟨blk,p,none⟩ (.int .i64 (x))).drew (movL f m p)):=by
      have e:=movL_step f (m:=m) (k:=k) (by omega) (by omega);rw [hk,Nat.add_sub_cancel,<- hk] at e;rw [hx,hy,<- e];exact SK.out.swap (by omega) (by omega)
     have ca:=SK.out.c k (by omega);have cb:=SK.out.c p (by omega);have fa:=SK.out.z k;have fb:=SK.out.z p;obtain ⟨u,cc⟩:=SK.out.c2 (i:=k) (j:=p) (by omega) (by omega) (.int .i64 (y));rw [<- hx] at ca;rw [<- hy] at cb;clear SK hx hy hk;go_wp2_with fail
     go_region
     clear ca cb cc fa fb;generalize ((wr.setCell ⟨blk,k,none⟩ (.int .i64 (y))).setCell ⟨blk,p,none⟩ (.int .i64 (x))).drew=w3 at S3 ⊢;clear ea;go_wp2
     go_roundg (p-i)
     case measure=>omega
     case rel=>exact ⟨p,by first|rfl|go_num|(congr 1;omega),by omega,by omega,Nat.le_refl _,S3⟩
    ·have hkz:¬ (k:Int)>(i:Int):=by omega
     obtain rfl:k=i:=by omega
     go_wp2
     (try simp only [Exit.inBlock,Exit.then])
     refine bodyPost_ret (results_none rfl _ _ _) rfl ?_;have P:Ps key a b f (movL f m k):=by
      have:=Ps.movL (key:=key) f (a:=a) (m:=m) k (by omega) (by omega) A.out.2
      rw [<- hb'.out] at this;exact this
     exact ⟨rfl,_,SK.out,P,A.out.1⟩
theorem rotate_any (blk n cap a m b:Nat) (cv:Value) (Ok:Int->Prop) (f:Nat->Int) (w0 w:World) (S:Rw blk n Ok w0 w f) (h1:a<m) (h2:m<b) (h3:b<=n) (hn:n<1099511627776) :
  Calls Tryz.prog 193 #[.slice (some ⟨blk,0,none⟩) n cap,.int .i64 a,.int .i64 m,.int .i64 b,cv] w fun e w'=>e=.returned (.tuple #[])/\Rw blk n Ok w0 w' (rot f a m b):=by
 have S0:Aside (Rw blk n Ok w0 w f):=S;have HC:Hid (∀ (x y k:Nat) (g:Nat->Int) (w':World),Rw blk n Ok w0 w' g->x+k<=y->y+k<=n->Calls Tryz.prog 195 #[.slice (some ⟨blk,0,none⟩) n cap,.int .i64 x,.int .i64 y,.int .i64 k,cv] w' fun e w2=>e=.returned (.tuple #[])/\Rw blk n Ok w0 w2 (sr g x y k)):=
  fun x y k g w' S h1 h2=>swapRange_any blk n cap x y k cv Ok g w0 w' S h1 h2 hn
 clear S;have e0:(m:Int)-(a:Int)=((m-a:Nat):Int):=by omega
 have e1:(b:Int)-(m:Int)=((b-m:Nat):Int):=by omega
 go_enter Tryz.func193,Tryz.ntmps193;go_wp2
 go_loopg [10,11] n (fun g1 vi vj wr=>∃ (i j:Nat) (g:Nat->Int),vi=.int .i64 i/\vj=.int .i64 j/\0<i/\0<j/\i<=m-a/\j<=b-m/\i+j<=g1/\Aside (Rw blk n Ok w0 wr g)/\Hid (rot g (m-i) m (m+j)=rot f a m b))
 case atStart=>
  refine ⟨m-a,b-m,f,by first|rfl|go_num|(congr 1;omega),by first|rfl|go_num|(congr 1;omega),by omega,by omega,Nat.le_refl _,Nat.le_refl _,by omega,S0,?_⟩;show _=_
  congr 1 <;> omega
 case round=>
  clear S0 e0 e1;obtain ⟨i,j,g,rfl,rfl,i0,j0,i1,j1,hg1,S1,HR⟩:=hrel;have e2:(m:Int)-(i:Int)=((m-i:Nat):Int):=by omega
  by_cases hne:i=j
  ·subst hne;have hz:¬ ((i:Int)≠(i:Int)):=by omega
   go_wp2_with (first|(go_at_call 195;refine Calls.mono (HC.out (m-i) m i g _ S1.out (by omega) (by omega)) ?_;rintro e w1 ⟨rfl,S2⟩;have S3:Aside _:=S2;clear S2 S1))
   go_end0
   refine ⟨rfl,?_⟩;rw [<- HR.out,<- rot_eq g (show i<=m by omega)];exact S3.out
  ·have hz:((i:Int)≠(j:Int)):=by omega
   by_cases hgt:j<i
   ·have hgz:(i:Int)>(j:Int):=by omega
    have e3:(i:Int)-(j:Int)=((i-j:Nat):Int):=by omega
    go_wp2_with (first|(go_at_call 195;refine Calls.mono (HC.out (m-i) m j g _ S1.out (by omega) (by omega)) ?_;rintro e w1 ⟨rfl,S2⟩;have S3:Aside _:=S2;clear S2 S1))
    go_roundg (i-j+j)
    case measure=>omega
    case rel=>exact ⟨i-j,j,_,by first|rfl|go_num|(congr 1;omega),rfl,by omega,j0,by omega,j1,Nat.le_refl _,S3,(show _=_ from (rot_gt g hgt (by omega)).trans HR.out)⟩
   ·have hgz:¬ (i:Int)>(j:Int):=by omega
    have e3:(j:Int)-(i:Int)=((j-i:Nat):Int):=by omega
    have e4:(m:Int)+(j:Int)-(i:Int)=((m+j-i:Nat):Int):=by omega
    go_wp2_with (first|(go_at_call 195;refine Calls.mono (HC.out (m-i) (m+j-i) i g _ S1.out (by omega) (by omega)) ?_;rintro e w1 ⟨rfl,S2⟩;have S3:Aside _:=S2;clear S2 S1))
    go_roundg (i+(j-i))
    case measure=>omega
    case rel=>exact ⟨i,j-i,_,rfl,by first|rfl|go_num|(congr 1;omega),i0,by omega,i1,by omega,Nat.le_refl _,S3,(show _=_ from (rot_lt g (by omega) (by omega)).trans HR.out)⟩
end Go.Proofs.YtcmlnemokckbdaaGreatDoor.Si
