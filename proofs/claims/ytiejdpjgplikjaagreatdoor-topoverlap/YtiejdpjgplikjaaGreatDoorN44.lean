/- Parts RFa. -/
import Derived.Test.YtiejdpjgplikjaaGreatDoorN43
set_option maxRecDepth 20000
set_option maxHeartbeats 4000000
namespace Go.Proofs.YtiejdpjgplikjaaGreatDoor.R7.Ro
open Go.ChangeShapes Go.WideShapes Go.ChangeAt Go.RowKit
open YtiejdpjgplikjaaGreatDoor.R7.Op YtiejdpjgplikjaaGreatDoor.R7.So
def mxN (g:Nat->Int):Nat->Int
 | 0=>0
 | k+1=>max (mxN g k) (g k)
theorem mxN_ge (g:Nat->Int):∀ n,0<=mxN g n
 | 0=>Int.le_refl _
 | n+1=>by have:=mxN_ge g n;unfold mxN;omega
theorem mxN_le {g:Nat->Int} {m:Int} (hm:0<=m):∀ {n:Nat},(∀ k,k<n->g k<=m)->mxN g n<=m
 | 0,_=>hm
 | n+1,h=>by
  have h1:=mxN_le hm (n:=n) fun k hk=>h k (by omega);have h2:=h n (by omega);unfold mxN;omega
theorem mxN_at {g:Nat->Int} : ∀ {n k:Nat},k<n->g k<=mxN g n
 | 0,_,h=>by omega
 | n+1,k,h=>by
  unfold mxN;rcases Nat.lt_or_ge k n with c|c
  ·have:=mxN_at (g:=g) c;omega
  ·obtain rfl:k=n:=by omega
   omega
def stg (n:Nat) (g:Nat->Int) (E:Int):Int:=mxN g n / E+1
theorem max_any (a:Option Addr) (n cap:Nat) (g:Nat->Int) (w:World) (h:∃ B,Nl w B a n g) (hn0:0<n) (hn:n<=100000000000000) (hg:0<=g 0) :
  Calls Tryz.prog 62 #[.slice a n cap] w fun e w'=>e=.returned (.int .i64 (mxN g n))/\w'=w:=by
 obtain ⟨B,h⟩:=h;obtain ⟨b,f,rfl,hz,hx⟩:=h.is hn0;have HX:Hid (∀ k,k<n->w.cell? ⟨b,f+k,none⟩=some (.int .i64 (g k))):=hx;have h0:w.cell? ⟨b,f,none⟩=some (.int .i64 (g 0)):=by have:=hx 0 hn0;rwa [Nat.add_zero] at this
 have hn':(n:Int)<=100000000000000:=by omega
 have hn1:¬ (n:Int)<1:=by omega
 have hn2:(0:Int)<(n:Int):=by omega
 have HG:Hid (max 0 (g 0)=g 0):=by show max 0 (g 0)=g 0;omega
 clear h hx hg hz;obtain ⟨g0,hg0⟩:∃ v,g 0=v:=⟨_,rfl⟩;rw [hg0] at h0;have HG0:Hid (g 0=g0):=hg0;clear hg0;go_enter Tryz.func62,Tryz.ntmps62;go_wp2_with fail
 go_loop [3,4] (fun m i=>∃ k:Nat,0<k/\k<=n/\i=.int .i64 k/\m=.int .i64 (mxN g k)) (fun _ i=>n-(intOf i).toNat)
 case atStart=>exact ⟨1,Nat.one_pos,hn0,rfl,by show _=Value.int .i64 (max 0 (g 0));rw [HG.out,HG0.out]⟩
 case round=>
  obtain ⟨k,hk0,hk,rfl,rfl⟩:=hrel
  by_cases hlt:k<n
  ·have k0:(0:Int)<=(k:Int):=by omega
   have k1:(k:Int)<(n:Int):=by omega
   have q0:=HX.out k hlt;have HR:Hid (mxN g (k+1)=max (mxN g k) (g k)):=rfl;obtain ⟨x,hx⟩:∃ v,g k=v:=⟨_,rfl⟩;rw [hx] at q0 HR;obtain ⟨m,hm⟩:∃ v,mxN g k=v:=⟨_,rfl⟩;rw [hm] at HR ⊢;clear hx hm;go_wp2_with fail
   go_round
   case rel=>exact ⟨k+1,by omega,by omega,by go_num,by rw [HR.out];congr 1;split <;> omega⟩
   case measure=>simp [intOf];omega
  ·obtain rfl:k=n:=by omega
   have k1:¬ (k:Int)<(k:Int):=by omega
   go_wp2_with fail
   go_ret
   exact ⟨rfl,rfl⟩
def wiB (lo hi:Int) (n:Nat) (g:Nat->Int):Bool:=(List.range n).all fun k=>decide (lo<=g k)&&decide (g k<=hi)
theorem wiB_no {lo hi:Int} {n:Nat} {g:Nat->Int} {k:Nat} (h:k<n) (e:g k<lo\/hi<g k):false=wiB lo hi n g:=by
 symm
 refine List.all_eq_false.2 ⟨k,List.mem_range.2 h,?_⟩;simp
 omega
theorem wiB_yes {lo hi:Int} {n:Nat} {g:Nat->Int} (h:∀ k,k<n->lo<=g k/\g k<=hi):true=wiB lo hi n g:=by
 symm
 refine List.all_eq_true.2 fun k hk=>?_
 have:=h k (List.mem_range.1 hk)
 simpa using this
theorem wiB_all {lo hi:Int} {n:Nat} {g:Nat->Int} (h:wiB lo hi n g=true) (k:Nat) (hk:k<n):lo<=g k/\g k<=hi:=by
 have:=List.all_eq_true.1 h k (List.mem_range.2 hk)
 simpa using this
theorem within_any (lo hi:Int) (a:Option Addr) (n cap:Nat) (g:Nat->Int) (w:World) (h:∃ B,Nl w B a n g) (hn:n<=100000000000000) :
  Calls Tryz.prog 71 #[.int .i64 lo,.int .i64 hi,.slice a n cap] w fun e w'=>e=.returned (.bool (wiB lo hi n g))/\w'=w:=by
 obtain ⟨B,h⟩:=h;have HO:Hid (Nl w B a n g):=h;have HNo:Hid (∀ k,k<n->g k<lo\/hi<g k->false=wiB lo hi n g):=fun k h1 h2=>wiB_no h1 h2;have HYs:Hid ((∀ k,k<n->lo<=g k/\g k<=hi)->true=wiB lo hi n g):=wiB_yes;have hn':(n:Int)<=100000000000000:=by omega
 generalize wiB lo hi n g=r at *;clear h;go_enter Tryz.func71,Tryz.ntmps71;go_wp2_with fail
 go_loop [11] (fun v=>∃ k:Nat,k<=n/\v=.int .i64 k/\∀ j,j<k->lo<=g j/\g j<=hi) (fun v=>n-(intOf v).toNat)
 case atStart=>exact ⟨0,by omega,rfl,fun j hj=>by omega⟩
 case round=>
  obtain ⟨k,hk,rfl,hq⟩:=hrel;have HQ:Hid (∀ j,j<k->lo<=g j/\g j<=hi):=hq;clear hq
  by_cases hlt:k<n
  ·have k0:(0:Int)<=(k:Int):=by omega
   have k1:(k:Int)<(n:Int):=by omega
   obtain ⟨b,f,rfl,-,hx⟩:=HO.out.is (by omega);have q0:=hx k hlt;clear hx;obtain ⟨x,hx⟩:∃ v,g k=v:=⟨_,rfl⟩;rw [hx] at q0
   by_cases h1:x<lo
   ·have HE:Hid (false=r):=HNo.out k hlt (.inl (by omega));clear hx;go_wp2_with fail
    go_ret
    exact ⟨ret_bool HE.out,rfl⟩
   ·by_cases h2:hi<x
    ·have HE:Hid (false=r):=HNo.out k hlt (.inr (by omega));clear hx;go_wp2_with fail
     go_ret
     exact ⟨ret_bool HE.out,rfl⟩
    ·have HQ2:Hid (∀ j,j<k+1->lo<=g j/\g j<=hi):=fun j hj=>by
      by_cases e:j=k
      ·subst e;omega
      ·exact HQ.out j (by omega)
     clear hx HQ;go_wp2_with fail
     go_round
     case rel=>exact ⟨k+1,by omega,by go_num,HQ2.out⟩
     case measure=>simp [intOf];omega
  ·obtain rfl:k=n:=by omega
   have k1:¬ (k:Int)<(k:Int):=by omega
   go_wp2_with fail
   go_ret
   exact ⟨ret_bool (HYs.out HQ.out),rfl⟩
theorem stages_any (a:Option Addr) (n cap:Nat) (g:Nat->Int) (E S:Int) (w:World) (h:Nl w w.heap.size a n g) (hn:n<=100000000000000) (hg:∀ k,k<n->0<=g k/\g k<=65536) (hE:1<=E) (hE2:E<=65536) :
  Calls Tryz.prog 72 #[.agg #[.int .i64 E,.slice a n cap,.int .i64 S]] w fun e w'=>e=.returned (.int .i64 (stg n g E))/\Below w.heap.size w w':=by
 by_cases h0:n=0
 ·subst h0;have HS:Hid (stg 0 g E=1):=by show (0:Int) / E+1=1;rw [Int.zero_ediv];rfl
  clear h hg hn;go_enter Tryz.func72,Tryz.ntmps72;go_wp2_with fail
  go_ret
  exact ⟨by rw [HS.out];rfl,(Below.refl _ _).alloc (Nat.le_refl _) _⟩
 ·have HM:Hid (∀ W,Below w.heap.size w W->Calls Tryz.prog 62 #[.slice a n cap] W fun e w'=>e=.returned (.int .i64 (mxN g n))/\w'=W):=fun W hW=>max_any a n cap g W ⟨_,h.fr (Nat.le_refl _) (Fr.of (X:=Non) hW) fun _ _ e=>e⟩ (by omega) hn (hg 0 (by omega)).1;have m0:=mxN_ge g n;have m1:mxN g n<=65536:=mxN_le (by omega) fun k hk=>(hg k hk).2;have HS:Hid ((mxN g n).tdiv E+1=stg n g E):=by show _=mxN g n / E+1;rw [Int.tdiv_eq_ediv_of_nonneg m0]
  have hn0:((n:Int)==0)=false:=by simpa using h0
  have hE0:¬ E=0:=by omega
  have d0:0<=(mxN g n).tdiv E:=by rw [Int.tdiv_eq_ediv_of_nonneg m0];exact Int.ediv_nonneg m0 (by omega)
  have d1:(mxN g n).tdiv E<=65536:=by
   rw [Int.tdiv_eq_ediv_of_nonneg m0];exact Int.le_trans (Int.ediv_le_self _ m0) m1
  have hn':(n:Int)<=100000000000000:=by omega
  clear h hg h0;generalize stg n g E=r at *;generalize mxN g n=m at *;have hw:IntKind.i64.wrap (Int.tdiv m E)=Int.tdiv m E:=by rw [IntKind.wrap_i64];omega
  have HU:Hid (Below w.heap.size w (w.alloc (.cells #[.int .i64 E,.slice a n cap,.int .i64 S] 29))):=(Below.refl _ _).alloc (Nat.le_refl _) _;go_enter Tryz.func72,Tryz.ntmps72;go_wp2_with fail
  go_quiet (first|(go_at_call 62;refine Calls.quiet_of_same (HM.out _ (HU.out.trans ⟨rfl,rfl,rfl,by simp,fun _ _=>rfl⟩))))
  go_wp2_with fail
  go_ret
  exact ⟨ret_int HS.out,HU.out.trans ⟨rfl,rfl,rfl,by simp,fun _ _=>rfl⟩⟩
def frB (L:Nat) (E S:Int) (cy:Nat->Int):Bool:=decide (1<=E)&&decide (E<=65536)&&decide (L<=64)&&wiB 0 65536 L cy&&decide (S=stg L cy E)
theorem frB_fair {L:Nat} {E S:Int} {cy:Nat->Int} (h:frB L E S cy=true):Fair L E S cy:=by
 unfold frB at h;simp only [Bool.and_eq_true,decide_eq_true_eq] at h;obtain ⟨⟨⟨⟨h1,h2⟩,h3⟩,h4⟩,h5⟩:=h;have h6:=wiB_all h4;have m0:=mxN_ge cy L;have m1:mxN cy L<=65536:=mxN_le (by omega) fun k hk=>(h6 k hk).2;have d0:0<=mxN cy L / E:=Int.ediv_nonneg m0 (by omega);have d1:mxN cy L / E<=65536:=Int.le_trans (Int.ediv_le_self _ m0) m1;unfold stg at h5;refine ⟨h1,h2,h3,fun i hi=>(h6 i hi).1,fun i hi=>(h6 i hi).2,fun i hi=>?_,by omega,by omega⟩;have h7:=mxN_at (g:=cy) hi;have h8:=Int.lt_ediv_add_one_mul_self (mxN cy L) (show 0<E by omega);rw [h5];omega
end Go.Proofs.YtiejdpjgplikjaaGreatDoor.R7.Ro
