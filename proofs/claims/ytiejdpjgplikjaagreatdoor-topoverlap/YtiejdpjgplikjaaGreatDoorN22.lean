/- Parts Ya Yb Yc. -/
import Derived.Test.YtiejdpjgplikjaaGreatDoorN16
import Derived.Test.YtiejdpjgplikjaaGreatDoorN17
import Derived.Test.YtiejdpjgplikjaaGreatDoorN21
import Derived.Test.YtiejdpjgplikjaaGreatDoorN11
import Derived.Test.YtiejdpjgplikjaaGreatDoorN13
import Derived.Deep.DrawnRows
import Derived.Test.YtiejdpjgplikjaaGreatDoorN00
set_option maxRecDepth 20000
set_option maxHeartbeats 8000000
namespace Go.Proofs.YtiejdpjgplikjaaGreatDoor.Mo
open YtiejdpjgplikjaaGreatDoor.Op YtiejdpjgplikjaaGreatDoor.Dp YtiejdpjgplikjaaGreatDoor.Bn
open YtiejdpjgplikjaaGreatDoor.Ls (clN clN_lt clD)
open YtiejdpjgplikjaaGreatDoor.Rv (tms tms_in tms_pos tms_mono tn ftB ftB_yes ft1 Few frB fr_parts tkF addK tk_few)
open YtiejdpjgplikjaaGreatDoor.Tb (Tab)
def rcF (t:Tab) (xs:List O) (g:Nat->Int) (E:Int):Nat->Int->Int->Int
 | 0=>fun _ _=>0
 | k+1=>addK (some E) (rcF t xs g E k) (clN xs k:Int) (g k%E) (t.b (clN xs k)).toNat
def toF (t:Tab) (xs:List O) (g:Nat->Int) (E:Int):Int->Int->Int:=addK (some E) (rcF t xs g E xs.length) 3 ((E-1-t.d)%E) (t.b 3).toNat
def kuB (t:Tab) (xs:List O) (g:Nat->Int) (E:Int):Bool:=((List.range xs.length).all fun m=>frB t (some E) (rcF t xs g E m) (clN xs m:Int) (g m))&&frB t (some E) (rcF t xs g E xs.length) 3 (E-1-t.d)
theorem tms_rg (E x z:Int):∀ B:Nat,tms (some E) x z B=(rg E x z B:Int)
 | 0=>rfl
 | B+1=>by
  have ih:=tms_rg E x z B;unfold rg at ih ⊢;unfold tms cnt;rw [ih];show _+(if (x+(B:Nat))%E=z then (1:Int) else 0)=_
  by_cases c:(x+(B:Nat))%E=z
  ·rw [if_pos c,if_pos (by simpa using c)];omega
  ·rw [if_neg c,if_neg (by simpa using c)];omega
theorem rg_mod (E x z:Int) (B:Nat):rg E (x%E) z B=rg E x z B:=by
 unfold rg;rw [cnt_su,cnt_su];refine su_congr fun s _=>?_;rw [Int.emod_add_emod]
theorem addK_at (ev:Option Int) (f:Int->Int->Int) (cl first:Int) (k:Nat) (a b:Int):addK ev f cl first k a b=f a b+if a=cl then tms ev first b k else 0:=by
 unfold addK
 by_cases c:a=cl
 ·rw [if_pos c,if_pos c]
 ·rw [if_neg c,if_neg c];omega
theorem rcF_su (t:Tab) (xs:List O) (g:Nat->Int) (E:Int) (c:Nat) (z:Int):∀ k,rcF t xs g E k c z=(su (fun a=>if clN xs a=c then rg E (g a) z (t.b c).toNat else 0) k:Nat)
 | 0=>rfl
 | k+1=>by
  unfold rcF su;rw [addK_at,rcF_su t xs g E c z k]
  by_cases e:clN xs k=c
  ·rw [if_pos (by omega),if_pos e,tms_rg,rg_mod,e];omega
  ·rw [if_neg (by omega),if_neg e];omega
theorem toF_su (t:Tab) (xs:List O) (g:Nat->Int) (E:Int) (c:Nat) (z:Int):toF t xs g E c z=(su (fun a=>if clN xs a=c then rg E (g a) z (t.b c).toNat else 0) xs.length:Nat)+if c=3 then (rg E (E-1-t.d) z (t.b 3).toNat : Int) else 0:=by
 unfold toF;rw [addK_at,rcF_su]
 by_cases e:c=3
 ·rw [if_pos (by omega),if_pos e,tms_rg,rg_mod]
 ·rw [if_neg (by omega),if_neg e]
theorem rcF_step (t:Tab) (xs:List O) (g:Nat->Int) (E:Int) (k:Nat) (a b:Int):rcF t xs g E k a b<=rcF t xs g E (k+1) a b:=by
 show _<=addK _ _ _ _ _ a b;rw [addK_at]
 have:=(tms_in (some E) (g k%E) b (t.b (clN xs k)).toNat).1
 split <;> omega
theorem rcF_mono (t:Tab) (xs:List O) (g:Nat->Int) (E:Int) (a b:Int) {k:Nat} : ∀ {m:Nat},k<=m->rcF t xs g E k a b<=rcF t xs g E m a b
 | 0,h=>by
  obtain rfl:k=0:=by omega
  exact Int.le_refl _
 | m+1,h=>by
  rcases Nat.lt_or_ge m k with c|c
  ·obtain rfl:k=m+1:=by omega
   exact Int.le_refl _
  ·exact Int.le_trans (rcF_mono t xs g E a b c) (rcF_step t xs g E m a b)
theorem toF_ge (t:Tab) (xs:List O) (g:Nat->Int) (E:Int) (a b:Int):rcF t xs g E xs.length a b<=toF t xs g E a b:=by
 unfold toF;rw [addK_at]
 have:=(tms_in (some E) ((E-1-t.d)%E) b (t.b 3).toNat).1
 split <;> omega
theorem add_le {t:Tab} {E:Int} {f:Int->Int->Int} {cl:Nat} {first:Int} (h:ftB t (some E) f cl first=true) (hf:∀ (c:Nat) (z:Int),c<4->f c z<=t.u c) (c:Nat) (z:Int) (hc:c<4):addK (some E) f (cl:Int) first (t.b cl).toNat c z<=t.u c:=by
 rw [addK_at]
 by_cases e:c=cl
 ·subst e;rw [if_pos rfl];have h0:=(tms_in (some E) first z (t.b c).toNat).1;rcases Int.lt_or_le 0 (tms (some E) first z (t.b c).toNat) with p|p
  ·obtain ⟨j,hj,rfl⟩:=tms_pos p
   have:=List.all_eq_true.1 h j (List.mem_range.2 hj)
   simpa using this
  ·have:=hf c z hc;omega
 ·rw [if_neg (by omega)]
  have:=hf c z hc
  omega
theorem add_ge {t:Tab} {E:Int} {f:Int->Int->Int} {cl:Nat} {first:Int} (h:∀ z,addK (some E) f (cl:Int) first (t.b cl).toNat cl z<=t.u cl):ftB t (some E) f cl first=true:=(ftB_yes fun k _=>by
 have:=h (tn (some E) (first+k))
 rw [addK_at,if_pos rfl] at this;exact this).symm
theorem fr_of {t:Tab} {E:Int} (hE:1<=E) (hE2:E<=65536) {f:Int->Int->Int} {cl:Nat} (hc:cl<4) {x:Int} (h:ftB t (some E) f cl (x%E)=true):frB t (some E) f (cl:Int) x=true:=by
 have h1:=Int.emod_nonneg x (show E≠0 by omega);have h2:=Int.emod_lt_of_pos x (show 0<E by omega);unfold frB;show (decide (0<=(cl:Int))&&decide ((cl:Int)<=3)&&(decide (0<=x%E)&&decide (x%E<=65536)&&ftB t (some E) f (cl:Int).toNat (x%E)))=true;rw [Int.toNat_natCast,h];simp only [Bool.and_eq_true,decide_eq_true_eq,and_true];omega
theorem fr_ft {t:Tab} {E:Int} {f:Int->Int->Int} {cl:Nat} {x:Int} (h:frB t (some E) f (cl:Int) x=true):ftB t (some E) f cl (x%E)=true:=by
 have:=(fr_parts h).2.2
 rw [Int.toNat_natCast] at this;exact this
theorem kuB_iff {t:Tab} {xs:List O} {g:Nat->Int} {E:Int} (hE:1<=E) (hE2:E<=65536) (hu:∀ c,c<4->0<=t.u c):kuB t xs g E=true↔∀ (c:Nat) (z:Int),c<4->toF t xs g E c z<=t.u c:=by
 constructor
 ·intro h;obtain ⟨h1,h2⟩:=Bool.and_eq_true_iff.1 h;have key:∀ k,k<=xs.length->∀ (c:Nat) (z:Int),c<4->rcF t xs g E k c z<=t.u c:=fun k=>by
   induction k with
   | zero=>exact fun _ c z hc=>hu c hc
   | succ k ih=>exact fun hk=>add_le (fr_ft (List.all_eq_true.1 h1 k (List.mem_range.2 (by omega)))) (ih (by omega))
  exact add_le (cl:=3) (fr_ft (cl:=3) h2) (key _ (Nat.le_refl _))
 ·intro h;refine Bool.and_eq_true_iff.2 ⟨List.all_eq_true.2 fun m hm=>?_,?_⟩
  ·have hm:=List.mem_range.1 hm;refine fr_of hE hE2 (clN_lt xs m) (add_ge fun z=>?_);have h1:rcF t xs g E (m+1) (clN xs m) z<=rcF t xs g E xs.length (clN xs m) z:=rcF_mono t xs g E _ _ (by omega);have h2:=toF_ge t xs g E (clN xs m) z;have h3:=h (clN xs m) z (clN_lt xs m);have h4:rcF t xs g E (m+1) (clN xs m) z=addK (some E) (rcF t xs g E m) (clN xs m:Int) (g m%E) (t.b (clN xs m)).toNat (clN xs m) z:=rfl;omega
  ·exact fr_of (cl:=3) hE hE2 (by decide) (add_ge (cl:=3) fun z=>h 3 z (by decide))
end Go.Proofs.YtiejdpjgplikjaaGreatDoor.Mo
namespace Go.Proofs.YtiejdpjgplikjaaGreatDoor.Mo
open Go.ChangeShapes Go.WideShapes Go.ChangeAt Go.RowKit
open YtiejdpjgplikjaaGreatDoor.Op YtiejdpjgplikjaaGreatDoor.So YtiejdpjgplikjaaGreatDoor.Dp YtiejdpjgplikjaaGreatDoor.Bn
open YtiejdpjgplikjaaGreatDoor.Ls (clN clN_at clN_lt Nl arC arC_all arC_yes arC_no areCycles_any)
open YtiejdpjgplikjaaGreatDoor.Rv (RAt Few frB tkF tk_few take_any evOk NwOut ring_ok tn addK)
open YtiejdpjgplikjaaGreatDoor.Tb (Tab TabAt Bnds)
def mxN (g:Nat->Int):Nat->Int
 | 0=>0
 | k+1=>max (mxN g k) (g k)
theorem mxN_ge (g:Nat->Int):∀ n,0<=mxN g n
 | 0=>Int.le_refl _
 | n+1=>by have:=mxN_ge g n;unfold mxN;omega
theorem mxN_le {g:Nat->Int} {m:Int} (hm:0<=m):∀ {n:Nat},(∀ k,k<n->g k<=m)->mxN g n<=m
 | 0,_=>hm
 | n+1,h=>by
  have h1:=mxN_le hm (n:=n) fun k hk=>h k (by omega);have h2:=h n (by omega);unfold mxN;omega
theorem mxN_at {g:Nat->Int} : ∀ {n k:Nat},k<n->g k<=mxN g n
 | 0,_,h=>by omega
 | n+1,k,h=>by
  unfold mxN;rcases Nat.lt_or_ge k n with c|c
  ·have:=mxN_at (g:=g) c;omega
  ·obtain rfl:k=n:=by omega
   omega
def stg (n:Nat) (g:Nat->Int) (E:Int):Int:=mxN g n / E+1
theorem max_any (a:Option Addr) (n cap:Nat) (g:Nat->Int) (w:World) (h:Nl w a n g) (hn0:0<n) (hn:n<=1000000000000) (hg:0<=g 0) :
  Calls Tryz.prog 62 #[.slice a n cap] w fun e w'=>e=.returned (.int .i64 (mxN g n))/\Below w.heap.size w w':=by
 obtain ⟨b,f,rfl,hz,hx⟩:=h.is hn0;have HX:Hid (∀ k,k<n->w.cell? ⟨b,f+k,none⟩=some (.int .i64 (g k))):=hx;have h0:w.cell? ⟨b,f,none⟩=some (.int .i64 (g 0)):=by have:=hx 0 hn0;rwa [Nat.add_zero] at this
 have hn':(n:Int)<=1000000000000:=by omega
 have hn1:¬ (n:Int)<1:=by omega
 have hn2:(0:Int)<(n:Int):=by omega
 have HG:Hid (max 0 (g 0)=g 0):=by show max 0 (g 0)=g 0;omega
 clear h hx hg;obtain ⟨g0,hg0⟩:∃ v,g 0=v:=⟨_,rfl⟩;rw [hg0] at h0;have HG0:Hid (g 0=g0):=hg0;clear hg0;go_enter Tryz.func62,Tryz.ntmps62;go_wp2_with fail
 go_loop [3,4] (fun m i=>∃ k:Nat,0<k/\k<=n/\i=.int .i64 k/\m=.int .i64 (mxN g k)) (fun _ i=>n-(intOf i).toNat)
 case atStart=>exact ⟨1,Nat.one_pos,hn0,rfl,by show _=Value.int .i64 (max 0 (g 0));rw [HG.out,HG0.out]⟩
 case round=>
  obtain ⟨k,hk0,hk,rfl,rfl⟩:=hrel
  by_cases hlt:k<n
  ·have k0:(0:Int)<=(k:Int):=by omega
   have k1:(k:Int)<(n:Int):=by omega
   have q0:=HX.out k hlt;have HR:Hid (mxN g (k+1)=max (mxN g k) (g k)):=rfl;obtain ⟨x,hx⟩:∃ v,g k=v:=⟨_,rfl⟩;rw [hx] at q0 HR;obtain ⟨m,hm⟩:∃ v,mxN g k=v:=⟨_,rfl⟩;rw [hm] at HR ⊢;clear hx hm;go_wp2_with fail
   go_round
   case rel=>exact ⟨k+1,by omega,by omega,by go_num,by rw [HR.out]⟩
   case measure=>simp [intOf];omega
  ·obtain rfl:k=n:=by omega
   have k1:¬ (k:Int)<(k:Int):=by omega
   go_wp2_with fail
   go_ret
   exact ⟨rfl,by go_grown⟩
theorem stages_any (a:Option Addr) (n cap:Nat) (g:Nat->Int) (E:Int) (w:World) (h:Nl w a n g) (hn:n<=1000000000000) (hg:∀ k,k<n->0<=g k/\g k<=65536) (hE:1<=E) (hE2:E<=65536) :
  Calls Tryz.prog 28 #[.slice a n cap,.int .i64 E] w fun e w'=>e=.returned (.int .i64 (stg n g E))/\Below w.heap.size w w':=by
 by_cases h0:n=0
 ·subst h0;have HS:Hid (stg 0 g E=1):=by show (0:Int) / E+1=1;rw [Int.zero_ediv];rfl
  clear h hg hn;go_enter Tryz.func28,Tryz.ntmps28;go_wp2_with fail
  go_ret
  exact ⟨by rw [HS.out];rfl,by go_grown⟩
 ·have HM:Hid (Calls Tryz.prog 62 #[.slice a n cap] w fun e w'=>e=.returned (.int .i64 (mxN g n))/\Below w.heap.size w w'):=max_any a n cap g w h (by omega) hn (hg 0 (by omega)).1;have m0:=mxN_ge g n;have m1:mxN g n<=65536:=mxN_le (by omega) fun k hk=>(hg k hk).2;have HS:Hid ((mxN g n).tdiv E+1=stg n g E):=by show _=mxN g n / E+1;rw [Int.tdiv_eq_ediv_of_nonneg m0]
  have hn0:((n:Int)==0)=false:=by simpa using h0
  have hE0:¬ E=0:=by omega
  have d0:0<=(mxN g n).tdiv E:=by rw [Int.tdiv_eq_ediv_of_nonneg m0];exact Int.ediv_nonneg m0 (by omega)
  have d1:(mxN g n).tdiv E<=65536:=by
   rw [Int.tdiv_eq_ediv_of_nonneg m0];exact Int.le_trans (Int.ediv_le_self _ m0) m1
  have hn':(n:Int)<=1000000000000:=by omega
  clear h hg h0;generalize stg n g E=r at *;generalize mxN g n=m at *;have hw:IntKind.i64.wrap (Int.tdiv m E)=Int.tdiv m E:=by rw [IntKind.wrap_i64];omega
  go_enter Tryz.func28,Tryz.ntmps28;go_wp2_with (first
   | (go_at_call 62;refine Calls.mono HM.out ?_;rintro e w1 ⟨rfl,b1⟩;have HB:Hid (Below w.heap.size w w1):=b1;clear b1 HM))
  go_ret
  exact ⟨ret_int HS.out,HB.out⟩
def kpB (es:List Ed) (g:Nat->Int) (E:Int):Bool:=es.all fun e=>decide (g e.f.toNat + e.l<=g e.t.toNat + e.d*E)
theorem kpB_no {es:List Ed} {g:Nat->Int} {E:Int} {k:Nat} (h:k<es.length) (e:g es[k].t.toNat + es[k].d*E<g es[k].f.toNat + es[k].l):false=kpB es g E:=by
 symm
 refine List.all_eq_false.2 ⟨es[k],List.getElem_mem h,?_⟩;simp
 omega
theorem kpB_yes {es:List Ed} {g:Nat->Int} {E:Int} (h:∀ (k:Nat) (hk:k<es.length),g es[k].f.toNat + es[k].l<=g es[k].t.toNat + es[k].d*E):true=kpB es g E:=by
 symm
 refine List.all_eq_true.2 fun e he=>?_;obtain ⟨i,hi,rfl⟩:=List.getElem_of_mem he;simpa using h i hi
theorem kpB_iff {es:List Ed} {g:Nat->Int} {E:Int} : kpB es g E=true↔Kp es g E:=by
 unfold kpB Kp;rw [List.all_eq_true];exact ⟨fun h e he=>by simpa using h e he,fun h e he=>by simpa using h e he⟩
theorem keepEdges_any (a:Option Addr) (n cap:Nat) (g:Nat->Int) (E S:Int) (ea:Option Addr) (ec:Nat) (es:List Ed) (w:World) (h:Nl w a n g) (hr:∀ k,k<n->0<=g k/\g k<=65536) (he:Es w ea es) (ho:EL n es) (hl:es.length<=100000000) (hn:n<=1024) (hE:0<=E) (hE2:E<=65536) :
  Calls Tryz.prog 29 #[.agg #[.int .i64 E,.slice a n cap,.int .i64 S],.slice ea es.length ec] w fun e w'=>e=.returned (.bool (kpB es g E))/\Below w.heap.size w w':=by
 have HO:Hid (Nl w a n g):=h;have HE:Hid (Es w ea es):=he;have HEO:Hid (EL n es):=ho;have HRg:Hid (∀ k,k<n->0<=g k/\g k<=65536):=hr;obtain ⟨M,hM⟩:∃ M,es.length=M:=⟨_,rfl⟩;have HM:Hid (es.length=M):=hM;have hM':(M:Int)<=100000000:=by omega
 have hn':(n:Int)<=1024:=by omega
 rw [hM];clear h he ho hr hl hM;have HP0:Hid (At (w.alloc (.cells #[.int .i64 E,.slice a n cap,.int .i64 S] 29)) w.heap.size #[.int .i64 E,.slice a n cap,.int .i64 S]/\Below w.heap.size w (w.alloc (.cells #[.int .i64 E,.slice a n cap,.int .i64 S] 29))):=⟨At.new _ _ _,(Below.refl _ _).alloc (Nat.le_refl _) _⟩;go_enter Tryz.func29,Tryz.ntmps29;go_wp2_with fail
 go_loopw [9] (fun v wr=>∃ k:Nat,k<=M/\v=.int .i64 k/\(∀ (j:Nat) (hj:j<es.length),j<k->g es[j].f.toNat + es[j].l<=g es[j].t.toNat + es[j].d*E)/\At wr w.heap.size #[.int .i64 E,.slice a n cap,.int .i64 S]/\Below w.heap.size w wr) (fun v _=>M-(intOf v).toNat)
 case atStart=>exact ⟨0,by omega,rfl,fun j _ hj=>by omega,HP0.out.1,HP0.out.2⟩
 case round=>
  rename World=>wr;obtain ⟨k,hk,rfl,hok,hp,hb⟩:=hrel;have HK:Hid (∀ (j:Nat) (hj:j<es.length),j<k->g es[j].f.toNat + es[j].l<=g es[j].t.toNat + es[j].d*E):=hok;have HB:Hid (At wr w.heap.size #[.int .i64 E,.slice a n cap,.int .i64 S]/\Below w.heap.size w wr):=⟨hp,hb⟩;clear hok hb hp HP0
  by_cases hlt:k<M
  ·have k0:(0:Int)<=(k:Int):=by omega
   have k1:(k:Int)<(M:Int):=by omega
   have hke:k<es.length:=by rw [HM.out];exact hlt
   obtain ⟨eb,rfl,l1,f0,f1,f2,f3,f4⟩:=(HE.out.up HB.out.2).2 k hke;have hm:=HEO.out _ (List.getElem_mem hke);have g1:=hm.f0;have g2:=hm.fn;have g3:=hm.t0;have g4:=hm.tn;have g5:=hm.l0;have g6:=hm.l8;have g7:es[k].d=0\/es[k].d=1:=by rcases hm.d with ⟨h,-⟩|h;exact .inl h;exact .inr h
   have HNo:Hid (g es[k].t.toNat + es[k].d*E<g es[k].f.toNat + es[k].l->false=kpB es g E):=fun e=>kpB_no hke e;have HNx:Hid (g es[k].f.toNat + es[k].l<=g es[k].t.toNat + es[k].d*E->∀ (j:Nat) (hj:j<es.length),j<k+1->g es[j].f.toNat + es[j].l<=g es[j].t.toNat + es[j].d*E):=fun e j hj hjk=>by
    rcases Nat.lt_or_ge j k with h|h
    ·exact HK.out j hj h
    ·obtain rfl:j=k:=by omega
     exact e
   have HX:Hid (Below w.heap.size w (wr.alloc (.cells #[.int .i64 es[k].f,.int .i64 es[k].t,.int .i64 es[k].l,.int .i64 es[k].d,.int .i8 es[k].y] 47))/\At (wr.alloc (.cells #[.int .i64 es[k].f,.int .i64 es[k].t,.int .i64 es[k].l,.int .i64 es[k].d,.int .i8 es[k].y] 47)) wr.heap.size #[.int .i64 es[k].f,.int .i64 es[k].t,.int .i64 es[k].l,.int .i64 es[k].d,.int .i8 es[k].y]/\At (wr.alloc (.cells #[.int .i64 es[k].f,.int .i64 es[k].t,.int .i64 es[k].l,.int .i64 es[k].d,.int .i8 es[k].y] 47)) w.heap.size #[.int .i64 E,.slice a n cap,.int .i64 S]):=⟨HB.out.2.alloc HB.out.2.size _,At.new _ _ _,HB.out.1.alloc _⟩;clear hm;generalize es[k]=x at *;obtain ⟨xf,xt,xl,xd,xy⟩:=x;obtain ⟨fi,rfl⟩:∃ fi:Nat,xf=fi:=⟨xf.toNat,by have g1:0<=xf:=g1;omega⟩;obtain ⟨ti,rfl⟩:∃ ti:Nat,xt=ti:=⟨xt.toNat,by have g3:0<=xt:=g3;omega⟩;have g2:(fi:Int)<(n:Int):=g2;have g4:(ti:Int)<(n:Int):=g4;have g5:0<=xl:=g5;have g6:xl<=8:=g6;have g7:xd=0\/xd=1:=g7;have g8:(0:Int)<=(fi:Int):=by omega
   have g9:(0:Int)<=(ti:Int):=by omega
   obtain ⟨h1,h2⟩:=HRg.out fi (by omega);obtain ⟨h3,h4⟩:=HRg.out ti (by omega);clear g1 g3;have HNo:Hid (g ti+xd*E<g fi+xl->false=kpB es g E):=HNo.out;have HNx:Hid (g fi+xl<=g ti+xd*E->∀ (j:Nat) (hj:j<es.length),j<k+1->g es[j].f.toNat + es[j].l<=g es[j].t.toNat + es[j].d*E):=HNx.out;go_upto_region 4 with fail
   generalize (wr.alloc (.cells #[.int .i64 (fi:Int),.int .i64 (ti:Int),.int .i64 xl,.int .i64 xd,.int .i8 xy] 47))=X at *;generalize wr.heap.size=ob at *;clear f0 f1 f2 f3 f4 l1 HB;have s2:=HX.out.2.1;have o0:=s2.c 0 _ rfl;have o1:=s2.c 1 _ rfl;have o2:=s2.c 2 _ rfl;have o3:=s2.c 3 _ rfl;have ol:=s2.lt;have s3:=HX.out.2.2;have p0:=s3.c 0 _ rfl;have p1:=s3.c 1 _ rfl;have pl:=s3.lt;obtain ⟨b,f,rfl,hz2,hx⟩:=(HO.out.up HX.out.1).is (by omega);have cf:=hx fi (by omega);have ct:=hx ti (by omega);clear hx s2 s3;obtain ⟨vf,hvf⟩:∃ v,g fi=v:=⟨_,rfl⟩;obtain ⟨vt,hvt⟩:∃ v,g ti=v:=⟨_,rfl⟩;rw [hvf] at HNo HNx h1 h2 cf;rw [hvt] at HNo HNx h3 h4 ct;clear hvf hvt;obtain ⟨q,hq⟩:∃ q,xd*E=q:=⟨_,rfl⟩;have q0:0<=q/\q<=65536:=by rcases g7 with rfl|rfl <;> omega
   obtain ⟨q1,q2⟩:=q0;rw [hq] at HNo HNx;have hqw:IntKind.i64.wrap (xd*E)=q:=by rw [hq,IntKind.wrap_i64];omega
   clear g7 hq
   by_cases hc:vt+q<vf+xl
   ·have HR:Hid (false=kpB es g E):=HNo.out hc;go_quiet (fail)
    go_wp2_with fail
    go_ret
    exact ⟨ret_bool HR.out,⟨HX.out.1.os,HX.out.1.tape,HX.out.1.output,HX.out.1.size,HX.out.1.block⟩⟩
   ·have HR:Hid _:=HNx.out (by omega);have hc':vf+xl<=vt+q:=by omega
    go_quiet (fail)
    go_wp2_with fail
    go_roundw
    case rel=>exact ⟨k+1,by omega,by go_num,HR.out,HX.out.2.2.below ⟨rfl,rfl,rfl,Nat.le_refl _,fun _ _=>rfl⟩ HX.out.2.2.lt,⟨HX.out.1.os,HX.out.1.tape,HX.out.1.output,HX.out.1.size,HX.out.1.block⟩⟩
    case measure=>simp [intOf];omega
  ·obtain rfl:k=M:=by omega
   have k1:¬ (k:Int)<(k:Int):=by omega
   have HR:Hid (true=kpB es g E):=kpB_yes fun j hj=>HK.out j hj (by rw [<- HM.out];exact hj);go_wp2_with fail
   go_ret
   exact ⟨ret_bool HR.out,HB.out.2⟩
end Go.Proofs.YtiejdpjgplikjaaGreatDoor.Mo
namespace Go.Proofs.YtiejdpjgplikjaaGreatDoor.Mo
open Go.ChangeShapes Go.WideShapes Go.ChangeAt Go.RowKit
open YtiejdpjgplikjaaGreatDoor.Op YtiejdpjgplikjaaGreatDoor.So YtiejdpjgplikjaaGreatDoor.Dp YtiejdpjgplikjaaGreatDoor.Bn
open YtiejdpjgplikjaaGreatDoor.Ls (clN clN_at clN_lt Nl arC arC_all arC_yes arC_no areCycles_any)
open YtiejdpjgplikjaaGreatDoor.Rv (RAt Few frB tkF tk_few take_any evOk NwOut ring_ok tn addK)
open YtiejdpjgplikjaaGreatDoor.Tb (Tab TabAt Bnds)
open YtiejdpjgplikjaaGreatDoor.Ls (atFr)
theorem classOf_any (o:O) (w:World):Calls Tryz.prog 44 #[o.val] w fun e w'=>e=.returned (.int .i64 (Ls.clD o.op:Int))/\Below w.heap.size w w':=by
 unfold Ls.clD
 by_cases h1:15<=o.op
 ·rw [if_pos h1];go_enter Tryz.func44,Tryz.ntmps44;go_wp2
  go_ret
  exact ⟨rfl,by go_grown⟩
 ·rw [if_neg h1]
  by_cases h2:12<=o.op
  ·rw [if_pos h2];go_enter Tryz.func44,Tryz.ntmps44;go_wp2
   go_ret
   exact ⟨rfl,by go_grown⟩
  ·rw [if_neg h2];go_enter Tryz.func44,Tryz.ntmps44;go_wp2
   go_ret
   exact ⟨rfl,by go_grown⟩
theorem kuB_no {t:Tab} {xs:List O} {g:Nat->Int} {E:Int} {k:Nat} (h:k<xs.length) (e:frB t (some E) (rcF t xs g E k) (clN xs k:Int) (g k)=false):false=kuB t xs g E:=by
 symm
 refine Bool.and_eq_false_iff.2 (.inl (List.all_eq_false.2 ⟨k,List.mem_range.2 h,?_⟩));rw [e]
 decide
theorem kuB_end {t:Tab} {xs:List O} {g:Nat->Int} {E:Int} (h:∀ k,k<xs.length->frB t (some E) (rcF t xs g E k) (clN xs k:Int) (g k)=true):frB t (some E) (rcF t xs g E xs.length) 3 (E-1-t.d)=kuB t xs g E:=by
 unfold kuB;rw [List.all_eq_true.2 fun k hk=>h k (List.mem_range.1 hk),Bool.true_and]
structure Ku (w W:World) (t:Tab) (E:Int) (pc:Array Value) (rb mb m:Nat) (f:Int->Int->Int):Prop where
 ra:RAt W rb t (some E) mb m f
 up:Below w.heap.size w W
 m0:w.heap.size+2<=mb
 p:At W w.heap.size pc
 t:TabAt W (w.heap.size+1) t
theorem Ku.next {w W W':World} {t:Tab} {E:Int} {pc:Array Value} {rb mb m:Nat} {f:Int->Int->Int} (h:Ku w W t E pc rb mb m f) (g:Below W.heap.size W W'):Ku w W' t E pc rb mb m f:=⟨h.ra.up g,h.up.trans (g.mono h.up.size),h.m0,h.p.below g h.p.lt,h.t.below g h.t.lt⟩
theorem Ku.take {w W W':World} {t:Tab} {E:Int} {pc:Array Value} {rb mb m m':Nat} {f f':Int->Int->Int} (h:Ku w W t E pc rb mb m f) (g:Fr (One mb) W W') (r:RAt W' rb t (some E) mb m' f'):Ku w W' t E pc rb mb m' f':=by
 have hz:=h.t.lt;have h0:=h.m0;have hb:Below (w.heap.size+2) W W':=g.below (by omega) fun k hk e=>by have e:k=mb:=e;omega
 exact ⟨r,h.up.trans (hb.mono (by omega)),h.m0,h.p.below hb (by omega),h.t.below hb (by omega)⟩
theorem ku_start (w:World) (t:Tab) (E S:Int) (a:Option Addr) (n ccap:Nat) {W:World} {rb mb:Nat} (hb:Below (w.heap.size+2) ((w.alloc (.cells #[.int .i64 E,.slice a n ccap,.int .i64 S] 29)).alloc (.cells t.cells 25)) W) (r:RAt W rb t (some E) mb 0 (fun _ _=>0)) (hm:w.heap.size+2<=mb):Ku w W t E #[.int .i64 E,.slice a n ccap,.int .i64 S] rb mb 0 (fun _ _=>0):=by
 have a1:=(At.new w #[.int .i64 E,.slice a n ccap,.int .i64 S] 29).alloc (.cells t.cells 25);have a2:=Tb.tabAt_new (w.alloc (.cells #[.int .i64 E,.slice a n ccap,.int .i64 S] 29)) t 25;rw [show (w.alloc (.cells #[.int .i64 E,.slice a n ccap,.int .i64 S] 29)).heap.size=w.heap.size+1 by simp] at a2;exact ⟨r,Below.trans (by go_grown) (hb.mono (by omega)),hm,a1.below hb (by omega),a2.below hb (by omega)⟩
theorem keepUnits_any (a ao:Option Addr) (ccap cap:Nat) (xs:List O) (t:Tab) (g:Nat->Int) (E S:Int) (w:World) (hg:Nl w a xs.length g) (hr:∀ k,k<xs.length->0<=g k/\g k<=65536) (h:OpsAt w ao xs) (hn:xs.length<=1024) (hG:Bnds w) (ht:t.ok=true) (hE:1+t.d<=E) (hE2:E<=65536) :
  Calls Tryz.prog 31 #[.agg #[.int .i64 E,.slice a xs.length ccap,.int .i64 S],.slice ao xs.length cap,t.val] w fun e w'=>e=.returned (.bool (kuB t xs g E))/\Below w.heap.size w w':=by
 have hck:Tb.ckR t=0:=by unfold Tb.ckR;rw [if_pos ht]
 have ht1:=(tab_in ht).1;have HNw:Hid (∀ W,Below w.heap.size w W->Calls Tryz.prog 63 #[.agg #[.int .i64 (t.u 0),.int .i64 (t.u 1),.int .i64 (t.u 2),.int .i64 (t.u 3),.int .i64 (t.l 0),.int .i64 (t.l 1),.int .i64 (t.l 2),.int .i64 (t.l 3),.int .i64 (t.b 0),.int .i64 (t.b 1),.int .i64 (t.b 2),.int .i64 (t.b 3),.int .i64 t.d],.int .i64 E] W fun e w'=>∃ rb mb,e=.returned (.tuple #[.pointer (some ⟨rb,0,none⟩),.int .i64 0])/\RAt w' rb t (some E) mb 0 (fun _ _=>0)/\(W.heap.size<=rb/\W.heap.size<=mb)/\Below W.heap.size W w'):=fun W hb=>ring_ok t E W (hG.below hb hG.big) hck (by omega) hE2;have HO:Hid (OpsAt w ao xs/\Nl w a xs.length g/\t.ok=true/\(1<=E/\E<=65536)):=⟨h,hg,ht,by omega⟩;have HRg:Hid (∀ k,k<xs.length->0<=g k/\g k<=65536):=hr;obtain ⟨d0,d4⟩:=ht1;clear h hg hr hck hG ht;obtain ⟨n,hN⟩:∃ n,xs.length=n:=⟨_,rfl⟩;have HN:Hid (xs.length=n):=hN;have hn':(n:Int)<=1024:=by omega
 rw [hN];clear hN hn;unfold Tab.val;go_enter Tryz.func31,Tryz.ntmps31;go_wp2_with (first
  | (go_at_call 63;refine Calls.mono (HNw.out _ (by go_grown)) ?_;rintro e w1 ⟨rb,mb,rfl,r1,l1,b1⟩;have HK0:Hid (Ku w w1 t E #[.int .i64 E,.slice a n ccap,.int .i64 S] rb mb 0 (fun _ _=>0)):=ku_start w t E S a n ccap (by simpa using b1) r1 (by have:=l1.2;simpa using this);clear r1 l1 b1 HNw))
 go_loopw [20] (fun v wr=>∃ k m:Nat,k<=n/\v=.int .i64 k/\Ku w wr t E #[.int .i64 E,.slice a n ccap,.int .i64 S] rb mb m (rcF t xs g E k)/\Few (rcF t xs g E k)/\m<=4*k/\∀ j,j<k->frB t (some E) (rcF t xs g E j) (clN xs j:Int) (g j)=true) (fun v _=>n-(intOf v).toNat)
 case atStart=>exact ⟨0,0,by omega,rfl,HK0.out,fun _ _=>⟨Int.le_refl _,by show (0:Int)<=8;decide⟩,by omega,fun j hj=>by omega⟩
 case round=>
  rename World=>wr;obtain ⟨k,m,hk,rfl,hku,hfw,hm,hall⟩:=hrel;have HQ:Hid (Ku w wr t E #[.int .i64 E,.slice a n ccap,.int .i64 S] rb mb m (rcF t xs g E k)/\Few (rcF t xs g E k)/\m<=4*k/\∀ j,j<k->frB t (some E) (rcF t xs g E j) (clN xs j:Int) (g j)=true):=⟨hku,hfw,hm,hall⟩;clear hku hfw hm hall HK0
  by_cases hlt:k<n
  ·have k0:(0:Int)<=(k:Int):=by omega
   have k1:(k:Int)<(n:Int):=by omega
   have hkx:k<xs.length:=by rw [HN.out];exact hlt
   obtain ⟨b,g0,rfl,hz2,hx⟩:=(HO.out.1.below HQ.out.1.up).is (by omega);obtain ⟨q0,q1,q2,q3,q4⟩:=hx k hkx;obtain ⟨cb,cf,rfl,hcl,hcx⟩:=(HO.out.2.1.up HQ.out.1.up).is (by omega);have hck:=hcx k hkx;have HCb:Hid (cb<w.heap.size):=by
    obtain ⟨b',f',e,h1,-⟩:=HO.out.2.1.is (by omega)
    injection e with e
    injection e with e1 _ _
    rw [e1];exact h1
   obtain ⟨g1,g2⟩:=HRg.out k hkx;have HX0:Hid (Ku w (wr.alloc (.cells #[.int .i8 xs[k].op,.int .u8 xs[k].d,.int .u8 xs[k].a,.int .u8 xs[k].b,.int .i64 xs[k].im] 55)) t E #[.int .i64 E,.slice (some ⟨cb,cf,none⟩) n ccap,.int .i64 S] rb mb m (rcF t xs g E k)/\At (wr.alloc (.cells #[.int .i8 xs[k].op,.int .u8 xs[k].d,.int .u8 xs[k].a,.int .u8 xs[k].b,.int .i64 xs[k].im] 55)) wr.heap.size xs[k].cells/\(wr.alloc (.cells #[.int .i8 xs[k].op,.int .u8 xs[k].d,.int .u8 xs[k].a,.int .u8 xs[k].b,.int .i64 xs[k].im] 55)).cell? ⟨cb,cf+k,none⟩=some (.int .i64 (g k))/\cb<(wr.alloc (.cells #[.int .i8 xs[k].op,.int .u8 xs[k].d,.int .u8 xs[k].a,.int .u8 xs[k].b,.int .i64 xs[k].im] 55)).heap.size):=by
    have gg:Below wr.heap.size wr (wr.alloc (.cells #[.int .i8 xs[k].op,.int .u8 xs[k].d,.int .u8 xs[k].a,.int .u8 xs[k].b,.int .i64 xs[k].im] 55)):=(Below.refl _ _).alloc (Nat.le_refl _) _;exact ⟨HQ.out.1.next gg,At.new _ _ _,by rw [(bcell gg).1 _ _ hcl];exact hck,Nat.lt_of_lt_of_le hcl gg.size⟩
   have hobm:¬ wr.heap.size=mb:=by have:=HQ.out.1.ra.cm.lt;omega
   have hcbm:¬ cb=mb:=by have:=HQ.out.1.m0;have:=HCb.out;omega
   have hpbm:¬ w.heap.size=mb:=by have:=HQ.out.1.m0;omega
   have HCl:Hid (∀ Z,Calls Tryz.prog 44 #[xs[k].val] Z fun e w'=>e=.returned (.int .i64 (clN xs k:Int))/\Below Z.heap.size Z w'):=fun Z=>by rw [clN_at hkx];exact classOf_any xs[k] Z
   have HTk:Hid (∀ Z,Ku w Z t E #[.int .i64 E,.slice (some ⟨cb,cf,none⟩) n ccap,.int .i64 S] rb mb m (rcF t xs g E k)->Calls Tryz.prog 64 #[.pointer (some ⟨rb,0,none⟩),.int .i64 (clN xs k:Int),.int .i64 (g k)] Z fun e w'=>e=.returned (.bool (frB t (some E) (rcF t xs g E k) (clN xs k:Int) (g k)))/\∃ n',RAt w' rb t (some E) mb n' (tkF t (some E) (rcF t xs g E k) (clN xs k:Int) (g k))/\n'<=m+4/\Fr (One mb) Z w'):=fun Z hZ=>take_any _ _ Z hZ.ra HO.out.2.2.2 HQ.out.2.1 HO.out.2.2.1 (by have:=HQ.out.2.2.1;omega);have HNo:Hid (frB t (some E) (rcF t xs g E k) (clN xs k:Int) (g k)=false->false=kuB t xs g E):=fun e=>kuB_no hkx e;have HYs:Hid (frB t (some E) (rcF t xs g E k) (clN xs k:Int) (g k)=true->tkF t (some E) (rcF t xs g E k) (clN xs k:Int) (g k)=rcF t xs g E (k+1)/\Few (rcF t xs g E (k+1))/\∀ j,j<k+1->frB t (some E) (rcF t xs g E j) (clN xs j:Int) (g j)=true):=fun e=>by
    have h1:tkF t (some E) (rcF t xs g E k) (clN xs k:Int) (g k)=rcF t xs g E (k+1):=by
     unfold tkF;rw [if_pos e,Int.toNat_natCast];rfl
    refine ⟨h1,by rw [<- h1];exact tk_few HQ.out.2.1 HO.out.2.2.1 _ _,fun j hj=>?_⟩;rcases Nat.lt_or_ge j k with h|h
    ·exact HQ.out.2.2.2 j h
    ·obtain rfl:j=k:=by omega
     exact e
   have HM:Hid (m<=4*k):=HQ.out.2.2.1;obtain ⟨o,hoe⟩:∃ o,xs[k]'hkx=o:=⟨_,rfl⟩;rw [hoe] at HX0 HCl q0 q1 q2 q3 q4;obtain ⟨gk,hgk⟩:∃ v,g k=v:=⟨_,rfl⟩;rw [hgk] at HX0 HTk HNo HYs g1 g2 hck;clear hx hcx hoe hgk;obtain ⟨cl,hcl2⟩:∃ cl,clN xs k=cl:=⟨_,rfl⟩;rw [hcl2] at HTk HCl HNo HYs;clear hcl2;generalize tkF t (some E) (rcF t xs g E k) (cl:Int) gk=f2 at *;generalize hfb:frB t (some E) (rcF t xs g E k) (cl:Int) gk=fb at *;generalize hff:rcF t xs g E k=f at *;clear hff hfb;go_upto_region 5 with fail
   generalize (wr.alloc (.cells #[.int .i8 o.op,.int .u8 o.d,.int .u8 o.a,.int .u8 o.b,.int .i64 o.im] 55))=X at *;have HX:Hid (Ku w X t E #[.int .i64 E,.slice (some ⟨cb,cf,none⟩) n ccap,.int .i64 S] rb mb m f/\At X wr.heap.size #[.int .i8 o.op,.int .u8 o.d,.int .u8 o.a,.int .u8 o.b,.int .i64 o.im]/\X.cell? ⟨cb,cf+k,none⟩=some (.int .i64 gk)/\cb<X.heap.size):=HX0.out;generalize wr.heap.size=ob at *;clear HQ HX0 q0 q1 q2 q3 q4 hz2 hcl hck;refine wp_region_held_drew (S:=fun Z=>At Z ob #[.int .i8 o.op,.int .u8 o.d,.int .u8 o.a,.int .u8 o.b,.int .i64 o.im]/\At Z w.heap.size #[.int .i64 E,.slice (some ⟨cb,cf,none⟩) n ccap,.int .i64 S]/\Z.cell? ⟨cb,cf+k,none⟩=some (.int .i64 gk)/\cb<Z.heap.size) (by kernel_rfl) ⟨HX.out.2.1.below (drew_up _) HX.out.2.1.lt,HX.out.1.p.below (drew_up _) HX.out.1.p.lt,HX.out.2.2.1,HX.out.2.2.2⟩ (fun zH=>?_);refine wg 0 (.pointer (some ⟨rb,0,none⟩)) rfl zH ?_;simp only [pq];refine wt 1 (.agg #[.int .i8 o.op,.int .u8 o.d,.int .u8 o.a,.int .u8 o.b,.int .i64 o.im]) rfl (fun w' hSw=>by (have y0:=hSw.1.c 0 _ rfl;have y1:=hSw.1.c 1 _ rfl;have y2:=hSw.1.c 2 _ rfl;have y3:=hSw.1.c 3 _ rfl;have y4:=hSw.1.c 4 _ rfl;have yl:=hSw.1.lt;go_simp)) zH ?_;simp only [pq];refine wg 3 (.pointer (some ⟨w.heap.size,1,none⟩)) rfl zH ?_;simp only [pq];refine wt 4 (.slice (some ⟨cb,cf,none⟩) n ccap) rfl (fun w' hSw=>by (have y1:=hSw.2.1.c 1 _ rfl;have yl:=hSw.2.1.lt;go_simp)) zH ?_;simp only [pq];refine wg 5 (.int .i64 (k:Int)) rfl zH ?_;simp only [pq];refine wg 6 (.pointer (some ⟨cb,cf+k,none⟩)) rfl zH ?_;simp only [pq];refine wt 7 (.int .i64 gk) rfl (fun w' hSw=>by (have y0:=hSw.2.2.1;have yl:=hSw.2.2.2;go_simp)) zH ?_;simp only [pq];refine wpAnyH_ready (rs:=[2]) (by kernel_rfl) (by simp) ?_;refine AllReadyH.cons rfl (fun K hK=>?_) AllReadyH.nil;go_simp
   refine Calls.mono (HCl.out _) ?_;rintro e w3 ⟨rfl,b3⟩;have HX3:Hid (Ku w w3 t E #[.int .i64 E,.slice (some ⟨cb,cf,none⟩) n ccap,.int .i64 S] rb mb m f/\At w3 ob #[.int .i8 o.op,.int .u8 o.d,.int .u8 o.a,.int .u8 o.b,.int .i64 o.im]/\w3.cell? ⟨cb,cf+k,none⟩=some (.int .i64 gk)/\cb<w3.heap.size):=⟨HX.out.1.next ((drew_up _).trans (b3.mono (Nat.le_refl _))),(HX.out.2.1.below (drew_up _) HX.out.2.1.lt).below b3 HX.out.2.1.lt,by rw [(bcell b3).1 _ _ HX.out.2.2.2];exact HX.out.2.2.1,Nat.lt_of_lt_of_le HX.out.2.2.2 b3.size⟩;clear b3 HCl;refine hK.out _ _ ⟨HX3.out.2.1,HX3.out.1.p,HX3.out.2.2⟩ (fun zH=>?_);clear hK K;refine wpAnyH_ready (rs:=[8]) (by kernel_rfl) (by simp) ?_;refine AllReadyH.cons rfl (fun K hK=>?_) AllReadyH.nil;go_simp
   refine Calls.mono (HTk.out _ HX3.out.1) ?_;rintro e w4 ⟨rfl,m4,r4,l4,f4⟩;have HX4:Hid (Ku w w4 t E #[.int .i64 E,.slice (some ⟨cb,cf,none⟩) n ccap,.int .i64 S] rb mb m4 f2/\m4<=m+4):=⟨HX3.out.1.take f4 r4,l4⟩;have hS4:(fun Z=>At Z ob #[.int .i8 o.op,.int .u8 o.d,.int .u8 o.a,.int .u8 o.b,.int .i64 o.im]/\At Z w.heap.size #[.int .i64 E,.slice (some ⟨cb,cf,none⟩) n ccap,.int .i64 S]/\Z.cell? ⟨cb,cf+k,none⟩=some (.int .i64 gk)/\cb<Z.heap.size) w4:=⟨atFr HX3.out.2.1 f4 hobm,HX4.out.1.p,(f4.cell HX3.out.2.2.2 hcbm (cf+k)).trans HX3.out.2.2.1,Nat.lt_of_lt_of_le HX3.out.2.2.2 f4.size⟩;clear r4 l4 f4 HTk;refine hK.out _ _ hS4 (fun zH=>?_);clear hK K hS4;refine wg 9 (.bool (!fb)) rfl zH ?_;simp only [pq];refine wpAnyH_done (by kernel_rfl) ?_ _;clear zH
   cases fb
   ·have HR:Hid (false=kuB t xs g E):=HNo.out (by simp);go_wp2_with fail
    go_ret
    exact ⟨ret_bool HR.out,HX4.out.1.up⟩
   ·have HR:Hid _:=HYs.out (by simp);go_wp2_with fail
    go_roundw
    case rel=>exact ⟨k+1,m4,by omega,by go_num,by rw [<- HR.out.1];exact HX4.out.1,HR.out.2.1,by have:=HX4.out.2;have:=HM.out;omega,HR.out.2.2⟩
    case measure=>simp [intOf];omega
  ·obtain rfl:k=n:=by omega
   have k1:¬ (k:Int)<(k:Int):=by omega
   have HTk:Hid (∀ Z,Ku w Z t E #[.int .i64 E,.slice a k ccap,.int .i64 S] rb mb m (rcF t xs g E k)->Calls Tryz.prog 64 #[.pointer (some ⟨rb,0,none⟩),.int .i64 3,.int .i64 (E-1-t.d)] Z fun e w'=>e=.returned (.bool (kuB t xs g E))/\Fr (One mb) Z w'):=fun Z hZ=>by
    have hz:=take_any 3 (E-1-t.d) Z hZ.ra HO.out.2.2.2 HQ.out.2.1 HO.out.2.2.1 (by have:=HQ.out.2.2.1;omega);have he:=kuB_end (t:=t) (xs:=xs) (g:=g) (E:=E) fun j hj=>HQ.out.2.2.2 j (by rw [<- HN.out];exact hj);rw [HN.out] at he;rw [he] at hz;refine hz.mono ?_;rintro e w' ⟨h1,n',-,-,h2⟩;exact ⟨h1,h2⟩
   obtain ⟨r,hr⟩:∃ r,kuB t xs g E=r:=⟨_,rfl⟩;rw [hr] at HTk;have HRr:Hid (r=kuB t xs g E):=hr.symm;clear hr;have p0:=HQ.out.1.p.c 0 _ rfl;have pl:=HQ.out.1.p.lt;have qd:=HQ.out.1.t.cd;have qz:=HQ.out.1.t.lt;go_wp2_with (first
    | (go_at_call 64;refine Calls.mono (HTk.out _ HQ.out.1) ?_;rintro e w5 ⟨rfl,f5⟩;have HB:Hid (Below w.heap.size w w5):=HQ.out.1.up.trans (f5.below HQ.out.1.up.size fun j hj e=>by have e:j=mb:=e;have:=HQ.out.1.m0;omega);clear f5 HTk))
   go_ret
   exact ⟨ret_bool HRr.out,HB.out⟩
end Go.Proofs.YtiejdpjgplikjaaGreatDoor.Mo
