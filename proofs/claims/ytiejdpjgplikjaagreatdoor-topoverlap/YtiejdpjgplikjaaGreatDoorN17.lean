/- Parts Za Zx Zb Zg. -/
import Derived.Test.YtiejdpjgplikjaaGreatDoorN03
import Derived.Test.YtiejdpjgplikjaaGreatDoorN02
import Derived.Deep.DeepCutAuto
import Derived.Deep.OwnRows
set_option maxRecDepth 20000
set_option maxHeartbeats 4000000
namespace Go.Proofs.YtiejdpjgplikjaaGreatDoor.Bn
open YtiejdpjgplikjaaGreatDoor.Dp (Ed)
structure EIn (n:Nat) (e:Ed):Prop where
 f0:0<=e.f
 fn:e.f<n
 t0:0<=e.t
 tn:e.t<n
 l0:0<=e.l
 l8:e.l<=8
 d:e.d=0/\e.f<e.t\/e.d=1
def EL (n:Nat) (es:List Ed):Prop:=∀ e∈es,EIn n e
def wt (q:Int) (e:Ed):Int:=e.l-q*e.d
theorem wt_in {n:Nat} {e:Ed} (h:EIn n e) {q:Int} (h0:0<=q) (h1:q<=512) : -512<=wt q e/\wt q e<=8:=by
 have h2:=h.l0;have h3:=h.l8;unfold wt;rcases h.d with ⟨e1,-⟩|e1
 ·rw [e1];simp;omega
 ·rw [e1];simp;omega
def Pot (es:List Ed) (q:Int):Prop:=∃ h:Nat->Int,∀ e∈es,h e.f.toNat + wt q e<=h e.t.toNat
theorem pot_mono {n:Nat} {es:List Ed} (he:EL n es) {q p:Int} (hq:q<=p) (h:Pot es q):Pot es p:=by
 obtain ⟨g,hg⟩:=h;refine ⟨g,fun e hm=>?_⟩;have h1:=hg e hm;unfold wt at *;rcases (he e hm).d with ⟨e1,-⟩|e1
 ·rw [e1] at h1 ⊢;simp at h1 ⊢;omega
 ·rw [e1] at h1 ⊢;simp at h1 ⊢;omega
theorem pot_big {n:Nat} {es:List Ed} (he:EL n es) (hn:n<=64) {q:Int} (hq:512<=q):Pot es q:=by
 refine ⟨fun i=>8*i,fun e hm=>?_⟩;have h:=he e hm;have h1:=h.f0;have h2:=h.fn;have h3:=h.t0;have h4:=h.tn;have h5:=h.l8;unfold wt;rcases h.d with ⟨e1,e2⟩|e1
 ·rw [e1];simp;omega
 ·rw [e1];simp;omega
abbrev Mat:=Nat->Nat->Int
def upd2 (F:Mat) (i j:Nat) (v:Int):Mat:=fun a b=>if a=i/\b=j then v else F a b
theorem upd2_same (F:Mat) (i j:Nat) (v:Int):upd2 F i j v i j=v:=if_pos ⟨rfl,rfl⟩
theorem upd2_other (F:Mat) {i j a b:Nat} (v:Int) (h:¬ (a=i/\b=j)):upd2 F i j v a b=F a b:=if_neg h
def stE (q:Int) (F:Mat) (e:Ed):Mat:=upd2 F e.f.toNat e.t.toNat (max (F e.f.toNat e.t.toNat) (wt q e))
def stp (q:Int) (es:List Ed):Mat:=es.foldl (stE q) (fun _ _=>(-9223372036854775808))
def gOv (F:Mat) (k:Nat):Mat:=fun i j=>if F i k=(-9223372036854775808)\/F k j=(-9223372036854775808) then F i j else max (F i j) (F i k+F k j)
def fw (F:Mat):Nat->Mat
 | 0=>F
 | k+1=>gOv (fw F k) k
def inT (F:Mat):Nat->Bool
 | 0=>true
 | k+1=>inT F k&&decide (fw F k k k<=0)
theorem inT_all {F:Mat} : ∀ {n:Nat},inT F n=true->∀ k,k<n->fw F k k k<=0
 | 0,_,k,hk=>by omega
 | n+1,h,k,hk=>by
  unfold inT at h;simp only [Bool.and_eq_true,decide_eq_true_eq] at h
  by_cases e:k=n
  ·subst e;exact h.2
  ·exact inT_all h.1 k (by omega)
theorem inT_of {F:Mat} : ∀ {n:Nat},(∀ k,k<n->fw F k k k<=0)->inT F n=true
 | 0,_=>rfl
 | n+1,h=>by
  unfold inT;simp only [Bool.and_eq_true,decide_eq_true_eq];exact ⟨inT_of fun k hk=>h k (by omega),h n (by omega)⟩
theorem inT_no {F:Mat} {n k:Nat} (hk:k<n) (h:0<fw F k k k):inT F n=false:=by
 cases e:inT F n
 ·rfl
 ·have:=inT_all e k hk;omega
def Sm (M:Int) (F:Mat):Prop:=∀ i j,F i j=(-9223372036854775808)\/(-M<=F i j/\F i j<=M)
theorem Sm.up {M:Int} {F:Mat} (h:Sm M F) (k:Nat):Sm (2*M) (gOv F k):=fun i j=>by
 have h1:=h i j;have h2:=h i k;have h3:=h k j;unfold gOv
 by_cases c:F i k=(-9223372036854775808)\/F k j=(-9223372036854775808)
 ·rw [if_pos c];omega
 ·rw [if_neg c];omega
def big (M:Int):Nat->Int
 | 0=>M
 | k+1=>2*big M k
theorem Sm.fw {M:Int} {F:Mat} (h:Sm M F):∀ k,Sm (big M k) (fw F k)
 | 0=>h
 | k+1=>(Sm.fw h k).up k
theorem Sm.st {M q:Int} {F:Mat} {e:Ed} (h:Sm M F) (h1 : -M<=wt q e) (h2:wt q e<=M):Sm M (stE q F e):=fun i j=>by
 unfold stE
 by_cases c:i=e.f.toNat/\j=e.t.toNat
 ·obtain ⟨rfl,rfl⟩:=c;rw [upd2_same]
  have:=h e.f.toNat e.t.toNat
  omega
 ·rw [upd2_other _ _ c];exact h i j
theorem foldl_keep {α β:Type} {P:β->Prop} {f:β->α->β} : ∀ (l:List α) (b:β),P b->(∀ b a,a∈l->P b->P (f b a))->P (l.foldl f b)
 | [],_,h,_=>h
 | a::l,b,h,hf=>foldl_keep l _ (hf b a (List.mem_cons_self ..) h) fun b a hm=>hf b a (List.mem_cons_of_mem _ hm)
theorem stp_sm {n:Nat} {es:List Ed} (he:EL n es) {q:Int} (h0:0<=q) (h1:q<=512):Sm 512 (stp q es):=
 foldl_keep es _ (fun _ _=>.inl rfl) fun F e hm h=>by
  have:=wt_in (he e hm) h0 h1
  exact h.st (by omega) (by omega)
def Un (h:Nat->Int) (F:Mat):Prop:=∀ i j,F i j=(-9223372036854775808)\/h i+F i j<=h j
theorem Un.st {h:Nat->Int} {F:Mat} {q:Int} {e:Ed} (a:Un h F) (b:h e.f.toNat + wt q e<=h e.t.toNat):Un h (stE q F e):=fun i j=>by
 unfold stE
 by_cases c:i=e.f.toNat/\j=e.t.toNat
 ·obtain ⟨rfl,rfl⟩:=c;rw [upd2_same];have h1:=a e.f.toNat e.t.toNat;rcases Int.le_total (F e.f.toNat e.t.toNat) (wt q e) with g|g
  ·rw [Int.max_eq_right g];exact .inr b
  ·rw [Int.max_eq_left g];exact h1
 ·rw [upd2_other _ _ c];exact a i j
theorem Un.go {h:Nat->Int} {F:Mat} (a:Un h F) (k:Nat):Un h (gOv F k):=fun i j=>by
 have h1:=a i j;have h2:=a i k;have h3:=a k j;unfold gOv
 by_cases c:F i k=(-9223372036854775808)\/F k j=(-9223372036854775808)
 ·rw [if_pos c];exact h1
 ·rw [if_neg c];rcases Int.le_total (F i j) (F i k+F k j) with g|g
  ·rw [Int.max_eq_right g];right;omega
  ·rw [Int.max_eq_left g];exact h1
theorem Un.fw {h:Nat->Int} {F:Mat} (a:Un h F):∀ k,Un h (fw F k)
 | 0=>a
 | k+1=>(Un.fw a k).go k
theorem inT_pot {es:List Ed} {q:Int} {n:Nat} (h:Pot es q):inT (stp q es) n=true:=by
 obtain ⟨g,hg⟩:=h;refine inT_of fun k _=>?_;have h0:Un g (stp q es):=foldl_keep es _ (fun _ _=>.inl rfl) fun F e hm h=>h.st (hg e hm);have h1:=h0.fw k k k;rcases h1 with h1|h1
 ·rw [h1];decide
 ·omega
def Tri (F:Mat) (o:Nat):Prop:=∀ i j,F i o≠(-9223372036854775808)->F o j≠(-9223372036854775808)->F i j≠(-9223372036854775808)/\F i o+F o j<=F i j
theorem gOv_to {F:Mat} {k:Nat} (h:F k k<=0) (i:Nat):gOv F k i k=F i k:=by
 unfold gOv
 split
 ·rfl
 ·omega
theorem gOv_from {F:Mat} {k:Nat} (h:F k k<=0) (j:Nat):gOv F k k j=F k j:=by
 unfold gOv
 split
 ·rfl
 ·omega
theorem gOv_no {F:Mat} {i j k:Nat} (h:F i k=(-9223372036854775808)\/F k j=(-9223372036854775808)):gOv F k i j=F i j:=if_pos h
theorem gOv_yes {F:Mat} {i j k:Nat} (h:¬ (F i k=(-9223372036854775808)\/F k j=(-9223372036854775808))):gOv F k i j=max (F i j) (F i k+F k j):=if_neg h
theorem gOv_ge (F:Mat) (i j k:Nat):F i j<=gOv F k i j:=by
 unfold gOv
 split
 ·exact Int.le_refl _
 ·omega
theorem tri_new {M:Int} {F:Mat} {k:Nat} (hs:Sm M F) (hM:M<=4611686018427387903) (h:F k k<=0):Tri (gOv F k) k:=fun i j h1 h2=>by
 rw [gOv_to h] at h1 ⊢;rw [gOv_from h] at h2 ⊢;have h3:=hs i k;have h4:=hs k j;rw [gOv_yes (fun c=>c.elim h1 h2)];omega
theorem mx4 {a b c d e f g:Int} (h1:c+e<=0) (h2:a+e<=b) (h3:c+d<=f) (h4:a+d<=max g (b+f)):max a (b+c)+max d (e+f)<=max g (b+f):=by omega
theorem tri_keep {M:Int} {F:Mat} {k o:Nat} (hs:Sm M F) (hM:M<=2305843009213693951) (h:F k k<=0) (ht:Tri F o):Tri (gOv F k) o:=fun i j h1 h2=>by
 have s1:=hs i o;have s2:=hs o j;have s3:=hs i k;have s4:=hs k o;have s5:=hs o k;have s6:=hs k j;have g0:=gOv_ge F i j k
 by_cases c1:F i k=(-9223372036854775808)\/F k o=(-9223372036854775808)
 ·rw [gOv_no c1] at h1 ⊢
  by_cases c2:F o k=(-9223372036854775808)\/F k j=(-9223372036854775808)
  ·rw [gOv_no c2] at h2 ⊢
   have:=ht i j h1 h2
   have h3:=hs i j;omega
  ·have e2:=gOv_yes c2;have c3:F o k≠(-9223372036854775808):=fun e=>c2 (.inl e);have c4:F k j≠(-9223372036854775808):=fun e=>c2 (.inr e);have t1:=ht i k h1 c3;have e3:=gOv_yes (F:=F) (i:=i) (j:=j) (k:=k) (fun c=>c.elim t1.1 c4);have s7:=hs i j
   by_cases c5:F o j=(-9223372036854775808)
   ·rw [e2,e3];omega
   ·have t2:=ht i j h1 c5;rw [e2,e3];omega
 ·have e1:=gOv_yes c1;have c3:F i k≠(-9223372036854775808):=fun e=>c1 (.inl e);have c4:F k o≠(-9223372036854775808):=fun e=>c1 (.inr e)
  by_cases c2:F o k=(-9223372036854775808)\/F k j=(-9223372036854775808)
  ·rw [gOv_no c2] at h2 ⊢;have t1:=ht k j c4 h2;have e3:=gOv_yes (F:=F) (i:=i) (j:=j) (k:=k) (fun c=>c.elim c3 t1.1);have s7:=hs i j
   by_cases c5:F i o=(-9223372036854775808)
   ·rw [e1,e3];omega
   ·have t2:=ht i j c5 h2;rw [e1,e3];omega
  ·have c5:F o k≠(-9223372036854775808):=fun e=>c2 (.inl e);have c6:F k j≠(-9223372036854775808):=fun e=>c2 (.inr e);have e2:=gOv_yes c2;have t1:=ht k k c4 c5;have e3:=gOv_yes (F:=F) (i:=i) (j:=j) (k:=k) (fun c=>c.elim c3 c6);have s7:=hs i j;have k1:F k o+F o k<=0:=by omega
   have k2:F i o+F o k<=F i k:=by
    by_cases c7:F i o=(-9223372036854775808)
    ·clear t1 e1 e2 e3 g0;omega
    ·exact (ht i k c7 c5).2
   have k3:F k o+F o j<=F k j:=by
    by_cases c8:F o j=(-9223372036854775808)
    ·clear t1 e1 e2 e3 g0;omega
    ·exact (ht k j c4 c8).2
   have k4:F i o+F o j<=max (F i j) (F i k+F k j):=by
    by_cases c7:F i o=(-9223372036854775808)
    ·clear t1 e1 e2 e3 g0 k1 k2 k3;omega
    ·by_cases c8:F o j=(-9223372036854775808)
     ·clear t1 e1 e2 e3 g0 k1 k2 k3;omega
     ·have:=(ht i j c7 c8).2;clear t1 e1 e2 e3 g0 k1 k2 k3;omega
   rw [e1,e2,e3];exact ⟨by clear t1 e1 e2 e3 g0 k1 k2 k3 k4;omega,mx4 k1 k2 k3 k4⟩
theorem fw_tri {F:Mat} {M:Int} (hM:M<=2305843009213693951):∀ {n:Nat},(∀ k,k<=n->Sm M (fw F k))->(∀ k,k<n->fw F k k k<=0)->∀ o,o<n->Tri (fw F n) o
 | 0,_,_,o,ho=>by omega
 | n+1,hs,h,o,ho=>by
  show Tri (gOv (fw F n) n) o
  by_cases e:o=n
  ·subst e;exact tri_new (hs o (by omega)) (by omega) (h o (by omega))
  ·exact tri_keep (hs n (by omega)) hM (h n (by omega)) (fw_tri hM (fun k hk=>hs k (by omega)) (fun k hk=>h k (by omega)) o (by omega))
theorem fw_ge (F:Mat) (i j:Nat):∀ k,F i j<=fw F k i j
 | 0=>Int.le_refl _
 | k+1=>Int.le_trans (fw_ge F i j k) (gOv_ge ..)
theorem stE_ge (q:Int) (F:Mat) (e:Ed) (i j:Nat):F i j<=stE q F e i j:=by
 unfold stE
 by_cases c:i=e.f.toNat/\j=e.t.toNat
 ·obtain ⟨rfl,rfl⟩:=c;rw [upd2_same];omega
 ·rw [upd2_other _ _ c];exact Int.le_refl _
theorem foldl_ge (q:Int) (i j:Nat):∀ (es:List Ed) (F:Mat),F i j<=es.foldl (stE q) F i j
 | [],_=>Int.le_refl _
 | e::es,F=>Int.le_trans (stE_ge q F e i j) (foldl_ge q i j es _)
theorem foldl_mem (q:Int):∀ (es:List Ed) (F:Mat) (e:Ed),e∈es->wt q e<=es.foldl (stE q) F e.f.toNat e.t.toNat
 | a::es,F,e,h=>by
  rcases List.mem_cons.1 h with rfl|h
  ·refine Int.le_trans ?_ (foldl_ge q _ _ es _);unfold stE;rw [upd2_same];omega
  ·exact foldl_mem q es _ e h
def mxF (F:Mat) (j:Nat):Nat->Int
 | 0=>0
 | i+1=>max (mxF F j i) (F i j)
theorem mxF_ge (F:Mat) (j:Nat):∀ {n i:Nat},i<n->F i j<=mxF F j n
 | 0,_,h=>by omega
 | n+1,i,h=>by
  unfold mxF
  by_cases e:i=n
  ·subst e;omega
  ·have:=mxF_ge F j (n:=n) (i:=i) (by omega);omega
theorem mxF_0 (F:Mat) (j:Nat):∀ n,0<=mxF F j n
 | 0=>Int.le_refl _
 | n+1=>by have:=mxF_0 F j n;unfold mxF;omega
theorem mxF_ex (F:Mat) (j:Nat):∀ n,mxF F j n=0\/∃ i,i<n/\mxF F j n=F i j
 | 0=>.inl rfl
 | n+1=>by
  unfold mxF;rcases Int.le_total (mxF F j n) (F n j) with g|g
  ·rw [Int.max_eq_right g];exact .inr ⟨n,by omega,rfl⟩
  ·rw [Int.max_eq_left g];rcases mxF_ex F j n with h|⟨i,h1,h2⟩
   ·exact .inl h
   ·exact .inr ⟨i,by omega,h2⟩
def up1 (L:Nat->Int) (k:Nat) (v:Int):Nat->Int:=fun j=>if j=k then v else L j
theorem up1_same (L:Nat->Int) (k:Nat) (v:Int):up1 L k v k=v:=if_pos rfl
theorem up1_other (L:Nat->Int) {k j:Nat} (v:Int) (h:¬ j=k):up1 L k v j=L j:=if_neg h
def rlx (q:Int) (g:Nat->Int) (e:Ed):Nat->Int:=if g e.t.toNat<g e.f.toNat + wt q e then up1 g e.t.toNat (g e.f.toNat + wt q e) else g
def pas (q:Int) (es:List Ed) (g:Nat->Int):Nat->Int:=es.foldl (rlx q) g
def chg (q:Int):List Ed->(Nat->Int)->Bool
 | [],_=>false
 | e::es,g=>decide (g e.t.toNat<g e.f.toNat + wt q e) || chg q es (rlx q g e)
def bf (q:Int) (es:List Ed):Nat->(Nat->Int)->Bool
 | 0,_=>false
 | r+1,g=>if chg q es g then bf q es r (pas q es g) else true
def cnt (p:Nat->Bool):Nat->Nat
 | 0=>0
 | n+1=>cnt p n+(if p n then 1 else 0)
theorem cnt_le (p:Nat->Bool):∀ n,cnt p n<=n
 | 0=>Nat.le_refl _
 | n+1=>by have:=cnt_le p n;unfold cnt;split <;> omega
theorem cnt_mono {p r:Nat->Bool} : ∀ {n:Nat},(∀ i,i<n->p i=true->r i=true)->cnt p n<=cnt r n
 | 0,_=>Nat.le_refl _
 | n+1,h=>by
  have h1:=cnt_mono (p:=p) (r:=r) (n:=n) fun i hi=>h i (by omega);have h2:=h n (by omega);unfold cnt
  cases e:p n
  ·rw [if_neg (by simp)];split <;> omega
  ·rw [h2 e];simp;omega
theorem cnt_lt {p r:Nat->Bool} : ∀ {n:Nat},(∀ i,i<n->p i=true->r i=true)->(∃ i,i<n/\r i=true/\p i=false)->cnt p n<cnt r n
 | 0,_,⟨i,hi,_⟩=>by omega
 | n+1,h,⟨i,hi,h1,h2⟩=>by
  unfold cnt
  by_cases e:i=n
  ·subst e;have h3:=cnt_mono (p:=p) (r:=r) (n:=i) fun j hj=>h j (by omega);rw [h1,h2];simp;omega
  ·have h3:=cnt_lt (p:=p) (r:=r) (n:=n) (fun j hj=>h j (by omega)) ⟨i,by omega,h1,h2⟩;have h4:=h n (by omega)
   cases e2:p n
   ·rw [if_neg (by simp)];split <;> omega
   ·rw [h4 e2];simp;omega
def sm (h:Nat->Int):Nat->Nat
 | 0=>0
 | n+1=>sm h n+(h n).toNat
def un (D g:Nat->Int):Nat->Bool:=fun i=>decide (g i<D i)
def lo (P:Int->Bool):Nat->Int->Int
 | 0,a=>a
 | k+1,a=>if P a then a else lo P k (a+1)
theorem lo_is {P:Int->Bool} : ∀ (k:Nat) (a:Int),P (a+k)=true->P (lo P k a)=true/\a<=lo P k a/\lo P k a<=a+k/\∀ m,a<=m->m<lo P k a->P m=false
 | 0,a,h=>by
  unfold lo;exact ⟨by simpa using h,by omega,by omega,fun m h1 h2=>by omega⟩
 | k+1,a,h=>by
  unfold lo
  cases e:P a
  ·simp only [Bool.false_eq_true,if_false];obtain ⟨h1,h2,h3,h4⟩:=lo_is k (a+1) (by rw [show a+1+(k:Int)=a+((k+1:Nat):Int) by omega];exact h);refine ⟨h1,by omega,by omega,fun m g1 g2=>?_⟩
   by_cases c:m=a
   ·subst c;exact e
   ·exact h4 m (by omega) g2
  ·simp only [if_true];exact ⟨e,by omega,by omega,fun m g1 g2=>by omega⟩
def rnd (P:Int->Bool):Int:=lo P 511 1
theorem rnd_is {P:Int->Bool} (h:P 512=true):P (rnd P)=true/\1<=rnd P/\rnd P<=512/\∀ m,1<=m->m<rnd P->P m=false:=lo_is 511 1 h
theorem rnd_uniq {P:Int->Bool} (h:P 512=true) {r:Int} (h1:P r=true) (h2:1<=r) (h3:∀ m,1<=m->m<r->P m=false):r=rnd P:=by
 obtain ⟨g1,g2,g3,g4⟩:=rnd_is h;rcases Int.lt_trichotomy r (rnd P) with c|c|c
 ·rw [g4 r h2 c] at h1;cases h1
 ·exact c
 ·rw [h3 _ g2 c] at g1;cases g1
end Go.Proofs.YtiejdpjgplikjaaGreatDoor.Bn
namespace Go.Proofs.YtiejdpjgplikjaaGreatDoor.Bn
def su (f:Nat->Nat):Nat->Nat
 | 0=>0
 | n+1=>su f n+f n
theorem su_le {f g:Nat->Nat} : ∀ {n:Nat},(∀ i,i<n->f i<=g i)->su f n<=su g n
 | 0,_=>Nat.le_refl _
 | n+1,h=>by
  have h1:=su_le (f:=f) (g:=g) (n:=n) fun i hi=>h i (by omega);have h2:=h n (by omega);unfold su;omega
theorem su_congr {f g:Nat->Nat} : ∀ {n:Nat},(∀ i,i<n->f i=g i)->su f n=su g n
 | 0,_=>rfl
 | n+1,h=>by unfold su;rw [su_congr fun i hi=>h i (by omega),h n (by omega)]
theorem su_add (f g:Nat->Nat):∀ n,su (fun i=>f i+g i) n=su f n+su g n
 | 0=>rfl
 | n+1=>by unfold su;rw [su_add f g n];omega
theorem su_zero:∀ n,su (fun _=>0) n=0
 | 0=>rfl
 | n+1=>by unfold su;rw [su_zero n]
theorem su_const (m:Nat):∀ n,su (fun _=>m) n=n*m
 | 0=>by simp [su]
 | n+1=>by unfold su;rw [su_const m n,Nat.add_mul,Nat.one_mul]
theorem cnt_su (p:Nat->Bool):∀ n,cnt p n=su (fun i=>if p i then 1 else 0) n
 | 0=>rfl
 | n+1=>by unfold cnt su;rw [cnt_su p n]
theorem cnt_less (q:Nat->Bool) (x:Nat):∀ {B:Nat},x<B->q x=true->cnt (fun s=>q s && !(s==x)) B+1=cnt q B
 | 0,h,_=>by omega
 | B+1,h,hq=>by
  unfold cnt
  by_cases e:x=B
  ·subst e
   have:cnt (fun s=>q s && !(s==x)) x=cnt q x:=by
    rw [cnt_su,cnt_su];refine su_congr fun i hi=>?_;have hne:(i==x)=false:=by simp;omega
    simp [hne]
   rw [this,hq];simp
  ·have ih:=cnt_less q x (B:=B) (by omega) hq;have hne:(B==x)=false:=by simp;omega
   simp only [hne,Bool.not_false,Bool.and_true];omega
theorem cnt_inj {p:Nat->Bool} {f:Nat->Nat} {B:Nat} : ∀ {k:Nat} {q:Nat->Bool},(∀ r,r<k->p r=true->f r<B/\q (f r)=true)->(∀ r s,r<k->s<k->p r=true->p s=true->f r=f s->r=s)->cnt p k<=cnt q B
 | 0,_,_,_=>Nat.zero_le _
 | k+1,q,h,hi=>by
  show cnt p k+(if p k then 1 else 0)<=cnt q B
  cases e:p k
  ·rw [if_neg (by simp)];exact cnt_inj (k:=k) (q:=q) (fun r hr=>h r (by omega)) fun r s hr hs=>hi r s (by omega) (by omega)
  ·have hk:=h k (by omega) e;have ih:=cnt_inj (p:=p) (f:=f) (B:=B) (k:=k) (q:=fun s=>q s && !(s==f k)) (fun r hr hp=>by
    have h1:=h r (by omega) hp;refine ⟨h1.1,?_⟩;have hne:f r≠f k:=fun e2=>by have:=hi r k (by omega) (by omega) hp e e2;omega
    simp [h1.2,hne]) fun r s hr hs=>hi r s (by omega) (by omega)
   have:=cnt_less q (f k) hk.1 hk.2
   rw [if_pos rfl];omega
def rg (E x z:Int) (B:Nat):Nat:=cnt (fun s=>decide ((x+s)%E=z)) B
theorem round_le {E x y:Int} (hE:0<E) (B k:Nat):cnt (fun r=>decide ((r:Int)*E+x<=y/\y<(r:Int)*E+x+B)) k<=rg E x (y%E) B:=by
 unfold rg;refine cnt_inj (f:=fun r=>(y-(r:Int)*E-x).toNat) (fun r _ hp=>?_) fun r s _ _ h1 h2 e=>?_
 ·simp only [decide_eq_true_eq] at hp ⊢;refine ⟨by omega,?_⟩;rw [show x+((y-(r:Int)*E-x).toNat : Int)=y-(r:Int)*E by omega];rw [Int.sub_emod,Int.mul_emod_left,Int.sub_zero,Int.emod_emod]
 ·simp only [decide_eq_true_eq] at h1 h2;have e:(y-(r:Int)*E-x).toNat = (y-(s:Int)*E-x).toNat:=e;have e2:(r:Int)*E=(s:Int)*E:=by omega
  have:=Int.eq_of_mul_eq_mul_right (by omega) e2
  omega
theorem su_one {v:Int} : ∀ {E:Nat},0<=v->v<E->su (fun z=>if decide (v=(z:Int)) then 1 else 0) E=1
 | 0,h0,h=>by omega
 | E+1,h0,h=>by
  unfold su
  by_cases e:v=(E:Int)
  ·have:su (fun z=>if decide (v=(z:Int)) then 1 else 0) E=0:=(su_congr fun i hi=>by
    have:¬ v=(i:Int):=by omega
    simp [this]).trans (su_zero E)
   rw [this];simp [e]
  ·rw [su_one (E:=E) h0 (by omega)];simp [e]
theorem su_swap (f:Nat->Nat->Nat) (n:Nat):∀ m,su (fun z=>su (fun a=>f a z) n) m=su (fun a=>su (fun z=>f a z) m) n
 | 0=>(su_zero n).symm
 | m+1=>by
  show su (fun z=>su (fun a=>f a z) n) m+su (fun a=>f a m) n=_;rw [su_swap f n m,<- su_add];rfl
theorem rg_all {E:Nat} (hE:0<E) (x:Int) (B:Nat):su (fun z=>rg E x z B) E=B:=by
 have e:∀ z:Nat,rg E x (z:Int) B=su (fun s=>if decide ((x+(s:Int))%(E:Int)=(z:Int)) then 1 else 0) B:=fun z=>cnt_su _ _;rw [su_congr fun z _=>e z,su_swap];rw [su_congr (g:=fun _=>1) fun s _=>su_one (Int.emod_nonneg _ (by omega)) (Int.emod_lt_of_pos _ (by omega)),su_const];omega
theorem ring_bound {n E B U:Nat} (hE:0<E) {C:Nat->Int} {cl:Nat->Bool} (h:∀ z:Nat,z<E->su (fun a=>if cl a then rg E (C a) z B else 0) n<=U):cnt cl n*B<=E*U:=by
 have h1:su (fun z=>su (fun a=>if cl a then rg E (C a) (z:Int) B else 0) n) E<=su (fun _=>U) E:=su_le h;rw [su_const,su_swap] at h1;have h2:su (fun a=>su (fun z:Nat=>if cl a then rg E (C a) (z:Int) B else 0) E) n=su (fun a=>if cl a then B else 0) n:=su_congr fun a _=>by
  cases cl a
  ·exact (su_congr fun i _=>by simp).trans (su_zero E)
  ·rw [if_pos rfl];exact (su_congr fun i _=>by simp).trans (rg_all hE (C a) B)
 have h3:∀ m,su (fun a=>if cl a then B else 0) m=cnt cl m*B:=fun m=>by
  induction m with
  | zero=>simp [su,cnt]
  | succ m ih=>
   unfold su cnt;rw [ih]
   cases cl m
   ·simp
   ·simp [Nat.add_mul]
 rw [h2,h3] at h1;exact h1
theorem cnt_one (x z:Int):∀ B:Nat,cnt (fun s=>decide (x+(s:Int)=z)) B=if x<=z/\z<x+B then 1 else 0
 | 0=>by rw [if_neg (by omega)];rfl
 | B+1=>by
  unfold cnt;rw [cnt_one x z B]
  by_cases c:x+(B:Int)=z
  ·rw [if_neg (by omega),if_pos (by simpa using c),if_pos (by omega)]
  ·rw [if_neg (show ¬ decide (x+(B:Int)=z)=true by simpa using c)]
   by_cases d:x<=z/\z<x+B
   ·rw [if_pos d,if_pos (by omega)]
   ·rw [if_neg d,if_neg (by omega)]
theorem rg_row {E x z:Int} {B:Nat} (h0:0<=x) (h1:x+B<=E):rg E x z B=if x<=z/\z<x+B then 1 else 0:=by
 rw [<- cnt_one x z B];unfold rg;rw [cnt_su,cnt_su];refine su_congr fun s hs=>?_;rw [Int.emod_eq_of_lt (by omega) (by omega)]
theorem rg_le {E x z:Int} (hE:0<E) {B:Nat} (h1:(B:Int)<=E):rg E x z B<=1:=by
 unfold rg;have h:cnt (fun s=>decide ((x+(s:Int))%E=z)) B<=cnt (fun _=>true) 1:=by
  refine cnt_inj (f:=fun _=>0) (fun _ _ _=>⟨by omega,rfl⟩) fun r s hr hs p1 p2 _=>?_;simp only [decide_eq_true_eq] at p1 p2;have h2:(x+(r:Int))%E=(x+(s:Int))%E:=p1.trans p2.symm;have h3:=Int.emod_add_mul_ediv (x+(r:Int)) E;have h4:=Int.emod_add_mul_ediv (x+(s:Int)) E;have h5:E*((x+(r:Int)) / E-(x+(s:Int)) / E)=(r:Int)-s:=by rw [Int.mul_sub];omega
  generalize (x+(r:Int)) / E-(x+(s:Int)) / E=q at h5;rcases Int.lt_trichotomy q 0 with c|c|c
  ·have:E*q<=E*(-1):=Int.mul_le_mul_of_nonneg_left (by omega) (by omega)
   omega
  ·subst c;omega
  ·have:E*1<=E*q:=Int.mul_le_mul_of_nonneg_left (by omega) (by omega)
   omega
 simpa [cnt] using h
end Go.Proofs.YtiejdpjgplikjaaGreatDoor.Bn
namespace Go.Proofs.YtiejdpjgplikjaaGreatDoor.Bn
open Go.ChangeShapes Go.WideShapes Go.ChangeAt Go.RowKit
open YtiejdpjgplikjaaGreatDoor.Op YtiejdpjgplikjaaGreatDoor.So
open YtiejdpjgplikjaaGreatDoor.Dp (Ed)
open YtiejdpjgplikjaaGreatDoor.Tb (Tab TabAt Bnds)
def clD (d:Int):Nat:=if 15<=d then 2 else if 12<=d then 1 else 0
theorem clD_lt (d:Int):clD d<3:=by
 unfold clD;split;· omega
 ·split <;> omega
theorem classOf_any (o:O) (w:World):Calls Tryz.prog 104 #[o.val] w fun e w'=>e=.returned (.int .i64 (clD o.op:Int))/\Below w.heap.size w w':=by
 unfold clD
 by_cases h1:15<=o.op
 ·rw [if_pos h1];go_enter Tryz.func104,Tryz.ntmps104;go_wp2
  go_ret
  exact ⟨rfl,by go_grown⟩
 ·rw [if_neg h1]
  by_cases h2:12<=o.op
  ·rw [if_pos h2];go_enter Tryz.func104,Tryz.ntmps104;go_wp2
   go_ret
   exact ⟨rfl,by go_grown⟩
  ·rw [if_neg h2];go_enter Tryz.func104,Tryz.ntmps104;go_wp2
   go_ret
   exact ⟨rfl,by go_grown⟩
structure Iv (W:World) (b n:Nat) (h:Nat->Int):Prop where
 c:∀ k,k<n->W.cell? ⟨b,k,none⟩=some (.int .i64 (h k))
 f:∀ k,W.frozen? ⟨b,k,none⟩=false
 lt:b<W.heap.size
theorem Iv.fr {X:Nat->Prop} {W W':World} {b n:Nat} {h:Nat->Int} (a:Iv W b n h) (g:So.Fr X W W') (hx:¬ X b):Iv W' b n h:=
 ⟨fun k hk=>(g.cell a.lt hx k).trans (a.c k hk),fun k=>(g.frozen a.lt hx k).trans (a.f k),Nat.lt_of_lt_of_le a.lt g.size⟩
theorem Iv.up {W W':World} {b n:Nat} {h:Nat->Int} (a:Iv W b n h) (g:Below W.heap.size W W'):Iv W' b n h:=a.fr (So.Fr.of (X:=So.Non) g) fun h=>h
theorem Iv.set {W:World} {b n:Nat} {h:Nat->Int} (a:Iv W b n h) {k:Nat} (hk:k<n) (v:Int):Iv (W.setCell ⟨b,k,none⟩ (.int .i64 v)) b n (up1 h k v):=by
 refine ⟨fun j hj=>?_,fun j=>by rw [World.frozen?_setCell];exact a.f j,by simpa using a.lt⟩
 by_cases e:j=k
 ·subst e;rw [up1_same,World.cell?_setCell_same _ _ _ (a.c j hj)]
 ·rw [up1_other _ _ e,World.cell?_setCell_other]
  ·exact a.c j hj
  ·intro h';injection h' with _ h2;exact e h2.symm
theorem Iv.same {W:World} {b n:Nat} {h g:Nat->Int} (a:Iv W b n h) (e:∀ k,k<n->h k=g k):Iv W b n g:=⟨fun k hk=>by rw [<- e k hk];exact a.c k hk,a.f,a.lt⟩
def ctL (xs:List O):Nat->Int:=xs.foldl (fun f o=>up1 f (clD o.op) (f (clD o.op)+1)) fun _=>0
theorem ctL_next {xs:List O} {k:Nat} (h:k<xs.length):ctL (xs.take (k+1))=up1 (ctL (xs.take k)) (clD xs[k].op) (ctL (xs.take k) (clD xs[k].op)+1):=by
 unfold ctL;rw [List.take_add_one,List.getElem?_eq_getElem h,List.foldl_append];rfl
theorem ctL_take (xs:List O) (c:Nat):∀ k,k<=xs.length->0<=ctL (xs.take k) c/\ctL (xs.take k) c<=k
 | 0,_=>by unfold ctL;simp
 | k+1,h=>by
  have ih:=ctL_take xs c k (by omega);rw [ctL_next (by omega)];unfold up1
  split
  ·rename_i e;rw [<- e];omega
  ·omega
theorem ctL_in (xs:List O) (c:Nat):0<=ctL xs c/\ctL xs c<=xs.length:=by
 have:=ctL_take xs c xs.length (Nat.le_refl _)
 rw [List.take_length] at this;exact this
theorem ctL_3 (xs:List O):ctL xs 3=0:=by
 have h:∀ k,k<=xs.length->ctL (xs.take k) 3=0:=fun k=>by
  induction k with
  | zero=>intro _;unfold ctL;simp
  | succ k ih=>
   intro h;rw [ctL_next (by omega),up1_other _ _ (by have:=clD_lt xs[k].op;omega)];exact ih (by omega)
 have:=h xs.length (Nat.le_refl _)
 rw [List.take_length] at this;exact this
def cts (xs:List O):Nat->Int:=up1 (ctL xs) 3 (ctL xs 3+1)
theorem cts_in (xs:List O) (c:Nat):0<=cts xs c/\cts xs c<=xs.length+1:=by
 have h1:=ctL_in xs c;have h2:=ctL_in xs 3;unfold cts up1
 split <;> omega
theorem cts_3 (xs:List O):cts xs 3=1:=by unfold cts;rw [up1_same,ctL_3];rfl
theorem cts_lo (xs:List O) {c:Nat} (h:¬ c=3):cts xs c=ctL xs c:=by unfold cts;rw [up1_other _ _ h]
structure Cw (w W:World) (f:Nat->Int):Prop where
 r:Iv W w.heap.size 4 fun _=>0
 c:Iv W (w.heap.size+1) 4 f
 up:Below w.heap.size w W
theorem Cw.next {w W W':World} {f:Nat->Int} (h:Cw w W f) (g:Below W.heap.size W W'):Cw w W' f:=⟨h.r.up g,h.c.up g,h.up.trans (g.mono h.up.size)⟩
theorem Cw.set {w W:World} {f:Nat->Int} (h:Cw w W f) {k:Nat} (hk:k<4) (v:Int):Cw w (W.setCell ⟨w.heap.size+1,k,none⟩ (.int .i64 v)) (up1 f k v):=
 ⟨h.r.fr ((So.Fr.refl (So.One (w.heap.size+1)) W).setCell (.inr rfl) _ _) (by show ¬ w.heap.size=w.heap.size+1;omega),h.c.set hk v,h.up.setCell (by show w.heap.size<=w.heap.size+1;omega) _⟩
abbrev z4:Array Value:=#[.int .i64 0,.int .i64 0,.int .i64 0,.int .i64 0]
theorem iv_new (w:World) (t:TypeId):Iv (w.alloc (.cells z4 t)) w.heap.size 4 fun _=>0:=by
 have h:=At.new w z4 t;refine ⟨fun k hk=>?_,h.f,h.lt⟩
 match k,hk with
 | 0,_=>exact h.c 0 _ rfl
 | 1,_=>exact h.c 1 _ rfl
 | 2,_=>exact h.c 2 _ rfl
 | 3,_=>exact h.c 3 _ rfl
theorem cw_start (w:World):Cw w ((w.alloc (.cells z4 23)).alloc (.cells z4 23)) fun _=>0:=by
 have a2:=iv_new (w.alloc (.cells z4 23)) 23;rw [show (w.alloc (.cells z4 23)).heap.size=w.heap.size+1 by simp] at a2;exact ⟨(iv_new w 23).up ((Below.refl _ _).alloc (Nat.le_refl _) _),a2,by go_grown⟩
def agg4 (f:Nat->Int):Value:=.agg #[.int .i64 (f 0),.int .i64 (f 1),.int .i64 (f 2),.int .i64 (f 3)]
theorem countsOf_any (ao:Option Addr) (cap:Nat) (xs:List O) (w:World) (h:OpsAt w ao xs) :
  Calls Tryz.prog 57 #[.slice ao xs.length cap] w fun e w'=>e=.returned (agg4 (cts xs))/\Below w.heap.size w w':=by
 have HO:Hid (OpsAt w ao xs):=h;have hlen:=h.len;have HCl:Hid (∀ (o:O) W,Calls Tryz.prog 104 #[o.val] W fun e w'=>e=.returned (.int .i64 (clD o.op:Int))/\Below W.heap.size W w'):=fun o W=>classOf_any o W;have HS:Hid (Cw w ((w.alloc (.cells z4 23)).alloc (.cells z4 23)) (ctL (xs.take 0))):=cw_start w;clear h;go_enter Tryz.func57,Tryz.ntmps57;go_upto_region 2 with fail
 generalize ((w.alloc (.cells z4 23)).alloc (.cells z4 23))=V at *;go_wp2_with fail
 go_loopw [8] (fun v wr=>∃ k:Nat,k<=xs.length/\v=.int .i64 k/\Cw w wr (ctL (xs.take k))) (fun v _=>xs.length-(intOf v).toNat)
 case atStart=>exact ⟨0,by omega,rfl,HS.out⟩
 case round=>
  rename World=>wr;obtain ⟨k,hk,rfl,hs⟩:=hrel;have HQ:Hid (Cw w wr (ctL (xs.take k))):=hs;clear hs HS
  by_cases hlt:k<xs.length
  ·have k0:(0:Int)<=(k:Int):=by omega
   have k1:(k:Int)<(xs.length:Int):=by omega
   obtain ⟨b,f,rfl,hz2,hx⟩:=(HO.out.below HQ.out.up).is (by omega);obtain ⟨q0,q1,q2,q3,q4⟩:=hx k hlt;have HNx:Hid (ctL (xs.take (k+1))=up1 (ctL (xs.take k)) (clD xs[k].op) (ctL (xs.take k) (clD xs[k].op)+1)):=ctL_next hlt;have HQ2:Hid (Cw w (wr.alloc (.cells #[.int .i8 xs[k].op,.int .u8 xs[k].d,.int .u8 xs[k].a,.int .u8 xs[k].b,.int .i64 xs[k].im] 55)) (ctL (xs.take k))/\At (wr.alloc (.cells #[.int .i8 xs[k].op,.int .u8 xs[k].d,.int .u8 xs[k].a,.int .u8 xs[k].b,.int .i64 xs[k].im] 55)) wr.heap.size #[.int .i8 xs[k].op,.int .u8 xs[k].d,.int .u8 xs[k].a,.int .u8 xs[k].b,.int .i64 xs[k].im]):=⟨HQ.out.next ((Below.refl _ _).alloc (Nat.le_refl _) _),At.new _ _ _⟩;have cin:=ctL_take xs (clD xs[k].op) k hk;have hc3:=clD_lt xs[k].op;have HC1:Hid (∀ W,Calls Tryz.prog 104 #[xs[k].val] W fun e w'=>e=.returned (.int .i64 (clD xs[k].op:Int))/\Below W.heap.size W w'):=fun W=>HCl.out _ W;clear hx;generalize xs[k]=o at *;go_upto_region 5 with fail
   have HX:Hid (Cw w (wr.alloc (.cells #[.int .i8 o.op,.int .u8 o.d,.int .u8 o.a,.int .u8 o.b,.int .i64 o.im] 55)) (ctL (xs.take k))/\At (wr.alloc (.cells #[.int .i8 o.op,.int .u8 o.d,.int .u8 o.a,.int .u8 o.b,.int .i64 o.im] 55)) wr.heap.size #[.int .i8 o.op,.int .u8 o.d,.int .u8 o.a,.int .u8 o.b,.int .i64 o.im]):=HQ2.out;generalize (wr.alloc (.cells #[.int .i8 o.op,.int .u8 o.d,.int .u8 o.a,.int .u8 o.b,.int .i64 o.im] 55))=X at *;generalize wr.heap.size=ob at *;clear HQ HQ2 q0 q1 q2 q3 q4 hz2;have s2:=HX.out.2;have o0:=s2.c 0 _ rfl;have o1:=s2.c 1 _ rfl;have o2:=s2.c 2 _ rfl;have o3:=s2.c 3 _ rfl;have o4:=s2.c 4 _ rfl;have ol:=s2.lt;clear s2;generalize clD o.op=cl at *;have cl0:(0:Int)<=(cl:Int):=by omega
   have cl1:(cl:Int)<4:=by omega
   generalize hct:ctL (xs.take k)=g at *;obtain ⟨gv,hgv⟩:∃ gv,g cl=gv:=⟨_,rfl⟩;rw [hgv] at cin HNx;go_wp2_with (first
    | (go_at_call 104;refine Calls.mono (HC1.out _) ?_;rintro e w2 ⟨rfl,hb2⟩;have HQ3:Hid (Cw w w2 g):=HX.out.1.next hb2;clear hb2 HC1 HX o0 o1 o2 o3 o4 ol;have cc:=HQ3.out.c.c cl (by omega);rw [hgv] at cc;have cf:=HQ3.out.c.f cl;have hl:=HQ3.out.c.lt))
   go_roundw
   case rel=>exact ⟨k+1,by omega,by go_num,by rw [HNx.out];exact HQ3.out.set (by omega) _⟩
   case measure=>simp [intOf];omega
  ·obtain rfl:k=xs.length:=by omega
   have k1:¬ (xs.length:Int)<(xs.length:Int):=by omega
   have HX:Hid (Cw w wr (ctL xs)):=by have h:=HQ.out;rw [List.take_length] at h;exact h
   have HF:Hid (cts xs=up1 (ctL xs) 3 (ctL xs 3+1)):=rfl;clear HQ;have cin:=ctL_in xs 3;generalize hct:ctL xs=g at *;have c3:=HX.out.c.c 3 (by omega);have cf:=HX.out.c.f 3;have hl:=HX.out.c.lt;go_upto_region 8 with fail
   have HY:Hid (Cw w (wr.setCell ⟨w.heap.size+1,3,none⟩ (.int .i64 (g 3+1))) (cts xs)):=by show Cw w _ _;rw [HF.out];exact HX.out.set (by omega) _
   generalize (wr.setCell ⟨w.heap.size+1,3,none⟩ (.int .i64 (g 3+1)))=Y at *;clear HX c3 cf hl;obtain ⟨F,hF⟩:∃ F,cts xs=F:=⟨_,rfl⟩;have HFF:Hid (cts xs=F):=hF;rw [hF] at HY;clear hF HF;have d0:=HY.out.c.c 0 (by omega);have d1:=HY.out.c.c 1 (by omega);have d2:=HY.out.c.c 2 (by omega);have d3:=HY.out.c.c 3 (by omega);have dl:=HY.out.c.lt;have r0:=HY.out.r.c 0 (by omega);have r1:=HY.out.r.c 1 (by omega);have r2:=HY.out.r.c 2 (by omega);have r3:=HY.out.r.c 3 (by omega);have rf0:=HY.out.r.f 0;have rf1:=HY.out.r.f 1;have rf2:=HY.out.r.f 2;have rf3:=HY.out.r.f 3;have rl:=HY.out.r.lt;go_wp2_with fail
   refine bodyPost_ret (v:=agg4 F) (by simp [results,Tryz.results57,go_sem,r0,r1,r2,r3,agg4]) rfl ⟨by rw [HFF.out],?_⟩;exact (((HY.out.up.setCell (Nat.le_refl _) _).setCell (Nat.le_refl _) _).setCell (Nat.le_refl _) _).setCell (Nat.le_refl _) _
def huB (t:Tab) (f:Nat->Int):Nat->Bool
 | 0=>true
 | k+1=>huB t f k && !(decide (0<f k)&&decide (t.u k=0))
theorem huB_le {t:Tab} {f:Nat->Int} : ∀ {n k:Nat},k<n->(decide (0<f k)&&decide (t.u k=0))=true->huB t f n=false
 | 0,_,h,_=>by omega
 | n+1,k,h,e=>by
  unfold huB
  by_cases c:k=n
  ·subst c;rw [e];simp
  ·rw [huB_le (n:=n) (k:=k) (by omega) e];rfl
def buI (t:Tab) (f:Nat->Int):Nat->Int
 | 0=>0
 | k+1=>if 0<f k then max (buI t f k) ((f k*t.b k+t.u k-1).tdiv (t.u k)) else buI t f k
structure Tq (w W:World) (t:Tab):Prop where
 t:TabAt W w.heap.size t
 up:Below w.heap.size w W
theorem Tq.start (w:World) (t:Tab) {W:World} (hb:Below (w.alloc (.cells t.cells 25)).heap.size (w.alloc (.cells t.cells 25)) W):Tq w W t:=by
 have h2:=Tb.tabAt_new w t 25;exact ⟨h2.below hb h2.lt,((Below.refl _ _).alloc (Nat.le_refl _) _).trans (hb.mono (by simp))⟩
theorem Tq.next {w W W':World} {t:Tab} (h:Tq w W t) (g:Below W.heap.size W W'):Tq w W' t:=⟨h.t.below g h.t.lt,h.up.trans (g.mono h.up.size)⟩
theorem agg4_at (f:Nat->Int) (w:World) {k:Nat} (h:k<4):(Instr.index 23 (agg4 f) (.int .i64 (k:Int))).run Tryz.prog w=.ok (.int .i64 (f k)) w:=by
 match k,h with
 | 0,_=>rfl
 | 1,_=>rfl
 | 2,_=>rfl
 | 3,_=>rfl
end Go.Proofs.YtiejdpjgplikjaaGreatDoor.Bn
namespace Go.Proofs.YtiejdpjgplikjaaGreatDoor.Bn
open Go.ChangeShapes Go.WideShapes Go.ChangeAt Go.RowKit
open YtiejdpjgplikjaaGreatDoor.Op YtiejdpjgplikjaaGreatDoor.So
open YtiejdpjgplikjaaGreatDoor.Tb (Tab TabAt Bnds)
theorem haveUnits_any (ao:Option Addr) (cap:Nat) (xs:List O) (t:Tab) (w:World) (h:OpsAt w ao xs) :
  Calls Tryz.prog 56 #[.slice ao xs.length cap,t.val] w fun e w'=>e=.returned (.bool (huB t (cts xs) 4))/\Below w.heap.size w w':=by
 have HC:Hid (∀ W,Below w.heap.size w W->Calls Tryz.prog 57 #[.slice ao xs.length cap] W fun e w'=>e=.returned (agg4 (cts xs))/\Below W.heap.size W w'):=fun W g=>countsOf_any ao cap xs W (h.below g);clear h;generalize cts xs=F at *;unfold Tab.val at *;go_enter Tryz.func56,Tryz.ntmps56;go_wp2_with (first
  | (go_at_call 57;refine Calls.mono (HC.out _ (by go_grown)) ?_;rintro e w1 ⟨rfl,hb⟩;have HT:Hid (Tq w w1 t):=Tq.start w t hb;clear hb HC))
 go_loopw [9] (fun v wr=>∃ k:Nat,k<=4/\v=.int .i64 k/\huB t F k=true/\Tq w wr t) (fun v _=>4-(intOf v).toNat)
 case atStart=>exact ⟨0,by omega,rfl,rfl,HT.out⟩
 case round=>
  rename World=>wr;obtain ⟨k,hk,rfl,hu,hs⟩:=hrel;have HQ:Hid (Tq w wr t):=hs;have HU:Hid (huB t F k=true):=hu;clear hs hu HT
  by_cases hlt:k<4
  ·have k0:(0:Int)<=(k:Int):=by omega
   have k1:(k:Int)<4:=by omega
   have hidx:∀ w,(Instr.index 23 (agg4 F) (.int .i64 (k:Int))).run Tryz.prog w=.ok (.int .i64 (F k)) w:=fun w=>agg4_at F w hlt;have cu:=HQ.out.t.cu k hlt;have cl:=HQ.out.t.lt;have HNx:Hid (huB t F (k+1) = !(decide (0<F k)&&decide (t.u k=0))):=by show huB t F (k+1)=_;unfold huB;rw [HU.out];simp
   have HNo:Hid ((decide (0<F k)&&decide (t.u k=0))=true->huB t F 4=false):=huB_le hlt;generalize F k=fv at *;generalize t.u k=uv at *
   by_cases h1:0<fv
   ·by_cases h2:uv=0
    ·subst h2;have HRes:Hid (huB t F 4=false):=HNo.out (by simpa using h1);go_wp2_with fail
     go_ret
     exact ⟨by rw [HRes.out];rfl,HQ.out.up⟩
    ·have HRel:Hid (huB t F (k+1)=true):=by show huB t F (k+1)=true;rw [HNx.out];simp [h2]
     have h2':(uv==0)=false:=by simpa using h2
     go_wp2_with fail
     go_roundw
     case rel=>exact ⟨k+1,by omega,by go_num,HRel.out,HQ.out⟩
     case measure=>simp [intOf];omega
   ·have HRel:Hid (huB t F (k+1)=true):=by show huB t F (k+1)=true;rw [HNx.out];simp [h1]
    go_wp2_with fail
    go_roundw
    case rel=>exact ⟨k+1,by omega,by go_num,HRel.out,HQ.out⟩
    case measure=>simp [intOf];omega
  ·obtain rfl:k=4:=by omega
   have k1:¬ ((4:Nat):Int)<4:=by omega
   go_wp2_with fail
   go_ret
   exact ⟨by rw [HU.out];rfl,HQ.out.up⟩
theorem divideUp_any (n d:Int) (w:World) (hn0:0<=n) (hn1:n<=1152921504606846976) (hd0:1<=d) (hd1:d<=8):Calls Tryz.prog 58 #[.int .i64 n,.int .i64 d] w fun e w'=>e=.returned (.int .i64 ((n+d-1).tdiv d))/\w'=w:=by
 have hd:¬ d=0:=by omega
 have h3:0<=(n+d-1).tdiv d:=Int.tdiv_nonneg (by omega) (by omega);have h4:(n+d-1).tdiv d<=n+d-1:=by
  rw [Int.tdiv_eq_ediv_of_nonneg (by omega)];exact Int.ediv_le_self _ (by omega)
 go_enter Tryz.func58,Tryz.ntmps58;go_wp2
 go_ret
 exact ⟨rfl,rfl⟩
end Go.Proofs.YtiejdpjgplikjaaGreatDoor.Bn
