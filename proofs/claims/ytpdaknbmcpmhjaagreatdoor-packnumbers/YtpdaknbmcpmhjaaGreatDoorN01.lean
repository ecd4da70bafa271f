/- Parts Ss Sm Math Forms Bc Ka Kb Kc. -/
import Derived.Test.YtpdaknbmcpmhjaaGreatDoorChecked
import Derived.ProofKit
import Derived.WalkKit
import Derived.WalkLawsBesides
import Derived.ChangeOld
import Derived.Below
import Derived.BigRegion
import Derived.BigQuiet
import Derived.Deep.LoopGhost
import Derived.Deep.QuietTactic
import Derived.Laws.BitsAllLaws
import Derived.Test.YtpdaknbmcpmhjaaGreatDoorProg
import Derived.OpenShut
import Derived.WalkSpells
import Derived.Handy
import Derived.Deep.RegionHeld3
import Derived.Deep.DrawnRows
import Derived.Deep.WholeRow
set_option maxRecDepth 20000
set_option maxHeartbeats 4000000
namespace Go.Proofs.YtpdaknbmcpmhjaaGreatDoor.Ss
variable {α:Type}
def swp (f:Nat->α) (i j:Nat):Nat->α:=fun k=>if k=i then f j else if k=j then f i else f k
def Srt (key:α->Int) (f:Nat->α) (a b:Nat):Prop:=∀ i j,a<=i->i<j->j<b->key (f i)<=key (f j)
structure Pm (a b:Nat) (f g:Nat->α):Prop where
 out:∀ k,(k<a\/b<=k)->g k=f k
 fwd:∀ k,a<=k->k<b->∃ j,a<=j/\j<b/\g k=f j
 bwd:∀ k,a<=k->k<b->∃ j,a<=j/\j<b/\f k=g j
theorem Pm.refl (a b:Nat) (f:Nat->α):Pm a b f f:=⟨fun _ _=>rfl,fun k h1 h2=>⟨k,h1,h2,rfl⟩,fun k h1 h2=>⟨k,h1,h2,rfl⟩⟩
theorem Pm.trans {a b:Nat} {f g h:Nat->α} (p:Pm a b f g) (q:Pm a b g h):Pm a b f h:=by
 refine ⟨fun k hk=>(q.out k hk).trans (p.out k hk),fun k h1 h2=>?_,fun k h1 h2=>?_⟩
 ·obtain ⟨j,j1,j2,e⟩:=q.fwd k h1 h2;obtain ⟨l,l1,l2,e'⟩:=p.fwd j j1 j2;exact ⟨l,l1,l2,e.trans e'⟩
 ·obtain ⟨j,j1,j2,e⟩:=p.bwd k h1 h2;obtain ⟨l,l1,l2,e'⟩:=q.bwd j j1 j2;exact ⟨l,l1,l2,e.trans e'⟩
theorem Pm.mono {a b c d:Nat} {f g:Nat->α} (p:Pm a b f g) (h1:c<=a) (h2:b<=d):Pm c d f g:=by
 refine ⟨fun k hk=>p.out k (by omega),fun k k1 k2=>?_,fun k k1 k2=>?_⟩
 ·by_cases h:a<=k/\k<b
  ·obtain ⟨j,j1,j2,e⟩:=p.fwd k h.1 h.2;exact ⟨j,by omega,by omega,e⟩
  ·exact ⟨k,k1,k2,p.out k (by omega)⟩
 ·by_cases h:a<=k/\k<b
  ·obtain ⟨j,j1,j2,e⟩:=p.bwd k h.1 h.2;exact ⟨j,by omega,by omega,e⟩
  ·exact ⟨k,k1,k2,(p.out k (by omega)).symm⟩
theorem Pm.swp {a b:Nat} (f:Nat->α) {i j:Nat} (h1:a<=i) (h2:i<b) (h3:a<=j) (h4:j<b):Pm a b f (swp f i j):=by
 refine ⟨fun k hk=>?_,fun k k1 k2=>?_,fun k k1 k2=>?_⟩
 ·unfold Ss.swp;rw [if_neg (by omega),if_neg (by omega)]
 ·unfold Ss.swp
  by_cases e:k=i
  ·exact ⟨j,h3,h4,by simp [e]⟩
  ·by_cases e':k=j
   ·exact ⟨i,h1,h2,by rw [if_neg e,if_pos e']⟩
   ·exact ⟨k,k1,k2,by rw [if_neg e,if_neg e']⟩
 ·unfold Ss.swp
  by_cases e:k=i
  ·subst e
   by_cases e':j=k
   ·exact ⟨k,h1,h2,by simp [e']⟩
   ·exact ⟨j,h3,h4,by rw [if_neg e',if_pos rfl]⟩
  ·by_cases e':k=j
   ·subst e';exact ⟨i,h1,h2,by rw [if_pos rfl]⟩
   ·exact ⟨k,k1,k2,by rw [if_neg e,if_neg e']⟩
theorem Srt.sub {key:α->Int} {f:Nat->α} {a b c d:Nat} (h:Srt key f a b) (h1:a<=c) (h2:d<=b):Srt key f c d:=fun i j i1 ij j1=>h i j (by omega) ij (by omega)
theorem Srt.same {key:α->Int} {f g:Nat->α} {a b:Nat} (h:Srt key f a b) (e:∀ k,a<=k->k<b->g k=f k):Srt key g a b:=fun i j i1 ij j1=>by
 rw [e i i1 (by omega),e j (by omega) j1];exact h i j i1 ij j1
theorem Srt.few (key:α->Int) (f:Nat->α) {a b:Nat} (h:b<=a+1):Srt key f a b:=fun i j i1 ij j1=>by omega
theorem Srt.out {key:α->Int} {f g:Nat->α} {a b c d:Nat} (h:Srt key f a b) (p:Pm c d f g) (hd:b<=c\/d<=a):Srt key g a b:=h.same fun k k1 k2=>p.out k (by omega)
theorem Srt.join {key:α->Int} {f:Nat->α} {a m b:Nat} (h1:Srt key f a m) (h2:Srt key f m b) (h:∀ i j,a<=i->i<m->m<=j->j<b->key (f i)<=key (f j)):Srt key f a b:=fun i j i1 ij j1=>by
 by_cases c:j<m
 ·exact h1 i j i1 ij c
 ·by_cases c':i<m
  ·exact h i j i1 c' (by omega) j1
  ·exact h2 i j (by omega) ij j1
def Ins (key:α->Int) (f:Nat->α) (a i j:Nat):Prop:=∀ x y,a<=x->x<y->y<=i->y≠j->key (f x)<=key (f y)
theorem Ins.start {key:α->Int} {f:Nat->α} {a i:Nat} (h:Srt key f a i):Ins key f a i i:=fun x y x1 xy y1 ne=>h x y x1 xy (by omega)
theorem Ins.step {key:α->Int} {f:Nat->α} {a i j:Nat} (h:Ins key f a i j) (ha:a<j) (hj:j<=i) (hl:key (f j)<key (f (j-1))):Ins key (swp f j (j-1)) a i (j-1):=by
 intro x y x1 xy y1 ne;unfold swp
 by_cases c1:y=j
 ·subst c1;rw [if_pos rfl]
  by_cases c2:x=y-1
  ·rw [if_neg (by omega),if_pos c2];omega
  ·rw [if_neg (by omega),if_neg c2];exact h x (y-1) x1 (by omega) (by omega) (by omega)
 ·rw [if_neg c1,if_neg ne]
  by_cases c2:x=j
  ·rw [if_pos c2];exact h (j-1) y (by omega) (by omega) y1 c1
  ·rw [if_neg c2]
   by_cases c3:x=j-1
   ·rw [if_pos c3];exact h j y (by omega) (by omega) y1 c1
   ·rw [if_neg c3];exact h x y x1 xy y1 c1
theorem Ins.low {key:α->Int} {f:Nat->α} {a i j:Nat} (h:Ins key f a i j) (ha:j<=a):Srt key f a (i+1):=fun x y x1 xy y1=>h x y x1 xy (by omega) (by omega)
theorem Ins.stop {key:α->Int} {f:Nat->α} {a i j:Nat} (h:Ins key f a i j) (ha:a<j) (hj:j<=i) (hl:¬ key (f j)<key (f (j-1))):Srt key f a (i+1):=fun x y x1 xy y1=>by
 by_cases c:y=j
 ·subst c
  by_cases c2:x=y-1
  ·subst c2;omega
  ·have:=h x (y-1) x1 (by omega) (by omega) (by omega)
   omega
 ·exact h x y x1 xy (by omega) c
def sr (f:Nat->α) (a b n:Nat):Nat->α:=fun k=>if a<=k/\k<a+n then f (k-a+b) else if b<=k/\k<b+n then f (k-b+a) else f k
theorem sr_zero (f:Nat->α) (a b:Nat):sr f a b 0=f:=funext fun k=>by
 unfold sr;rw [if_neg (by omega),if_neg (by omega)]
theorem sr_step (f:Nat->α) {a b n i:Nat} (h:a+n<=b) (hi:i<n):swp (sr f a b i) (a+i) (b+i)=sr f a b (i+1):=funext fun k=>by
 unfold swp sr
 by_cases c1:k=a+i
 ·subst c1;rw [if_pos rfl,if_neg (by omega),if_neg (by omega),if_pos (by omega)]
  congr 1;omega
 ·rw [if_neg c1]
  by_cases c2:k=b+i
  ·subst c2;rw [if_pos rfl,if_neg (by omega),if_neg (by omega),if_neg (by omega),if_pos (by omega)]
   congr 1;omega
  ·rw [if_neg c2]
   by_cases c3:a<=k/\k<a+i
   ·rw [if_pos c3,if_pos (by omega)]
   ·rw [if_neg c3]
    by_cases c4:b<=k/\k<b+i
    ·rw [if_pos c4,if_neg (by omega),if_pos (by omega)]
    ·rw [if_neg c4,if_neg (by omega),if_neg (by omega)]
theorem Pm.sr (f:Nat->α) {a b n lo hi:Nat} (h:a+n<=b) (h1:lo<=a) (h2:b+n<=hi):∀ i,i<=n->Pm lo hi f (sr f a b i)
 | 0,_=>by rw [sr_zero];exact Pm.refl _ _ _
 | i+1,hi'=>by
  rw [<- sr_step f h hi'];exact (Pm.sr f h h1 h2 i (by omega)).trans (Pm.swp _ (by omega) (by omega) (by omega) (by omega))
def rot (f:Nat->α) (a m b:Nat):Nat->α:=fun k=>if a<=k/\k<a+(b-m) then f (k+(m-a)) else if a+(b-m)<=k/\k<b then f (k-(b-m)) else f k
theorem rot_gt (f:Nat->α) {m i j:Nat} (h:j<i) (hi:i<=m):rot (sr f (m-i) m j) (m-(i-j)) m (m+j)=rot f (m-i) m (m+j):=funext fun k=>by
 unfold rot sr
 by_cases c1:m-i<=k/\k<m-i+(m+j-m)
 ·rw [if_pos c1,if_neg (by omega),if_neg (by omega),if_pos (by omega)]
  congr 1;omega
 ·rw [if_neg c1]
  by_cases c2:m-i+(m+j-m)<=k/\k<m+j
  ·rw [if_pos c2]
   by_cases c3:m-(i-j)<=k/\k<m-(i-j)+(m+j-m)
   ·rw [if_pos c3,if_neg (by omega),if_pos (by omega)]
    congr 1;omega
   ·rw [if_neg c3,if_pos (by omega),if_neg (by omega),if_neg (by omega)]
  ·rw [if_neg c2,if_neg (by omega),if_neg (by omega),if_neg (by omega),if_neg (by omega)]
theorem rot_lt (f:Nat->α) {m i j:Nat} (h:i<j) (hi:i<=m):rot (sr f (m-i) (m+j-i) i) (m-i) m (m+(j-i))=rot f (m-i) m (m+j):=funext fun k=>by
 unfold rot sr
 by_cases c1:m-i<=k/\k<m-i+(m+j-m)
 ·rw [if_pos c1]
  by_cases c3:m-i<=k/\k<m-i+(m+(j-i)-m)
  ·rw [if_pos c3,if_neg (by omega),if_neg (by omega)]
  ·rw [if_neg c3]
   by_cases c4:k<m+(j-i)
   ·rw [if_pos (by omega),if_pos (by omega)]
    congr 1;omega
   ·omega
 ·rw [if_neg c1]
  by_cases c2:m-i+(m+j-m)<=k/\k<m+j
  ·rw [if_pos c2,if_neg (by omega),if_neg (by omega),if_neg (by omega),if_pos (by omega)]
   congr 1;omega
  ·rw [if_neg c2,if_neg (by omega),if_neg (by omega),if_neg (by omega),if_neg (by omega)]
theorem rot_eq (f:Nat->α) {m i:Nat} (hi:i<=m):sr f (m-i) m i=rot f (m-i) m (m+i):=funext fun k=>by
 unfold rot sr
 by_cases c1:m-i<=k/\k<m-i+(m+i-m)
 ·rw [if_pos c1,if_pos (by omega)]
  congr 1;omega
 ·rw [if_neg c1,if_neg (by omega)]
  by_cases c2:m-i+(m+i-m)<=k/\k<m+i
  ·rw [if_pos c2,if_pos (by omega)]
   congr 1;omega
  ·rw [if_neg c2,if_neg (by omega)]
theorem Pm.rot (f:Nat->α) {a m b:Nat} (h1:a<=m) (h2:m<=b):Pm a b f (rot f a m b):=by
 refine ⟨fun k hk=>?_,fun k k1 k2=>?_,fun k k1 k2=>?_⟩
 ·unfold Ss.rot;rw [if_neg (by omega),if_neg (by omega)]
 ·unfold Ss.rot
  by_cases c:a<=k/\k<a+(b-m)
  ·exact ⟨k+(m-a),by omega,by omega,by rw [if_pos c]⟩
  ·exact ⟨k-(b-m),by omega,by omega,by rw [if_neg c,if_pos (by omega)]⟩
 ·unfold Ss.rot
  by_cases c:k<m
  ·exact ⟨k+(b-m),by omega,by omega,by rw [if_neg (by omega),if_pos (by omega)];congr 1;omega⟩
  ·exact ⟨k-(m-a),by omega,by omega,by rw [if_pos (by omega)];congr 1;omega⟩
def movR (f:Nat->α) (a k:Nat):Nat->α:=fun x=>if a<=x/\x<k then f (x+1) else if x=k then f a else f x
theorem movR_start (f:Nat->α) (a:Nat):movR f a a=f:=funext fun x=>by
 unfold movR;rw [if_neg (by omega)]
 by_cases c:x=a
 ·rw [if_pos c,c]
 ·rw [if_neg c]
theorem movR_step (f:Nat->α) {a k:Nat} (h:a<=k):swp (movR f a k) k (k+1)=movR f a (k+1):=funext fun x=>by
 unfold swp movR
 by_cases c1:x=k
 ·subst c1;rw [if_pos rfl,if_neg (by omega),if_neg (by omega),if_pos (by omega)]
 ·rw [if_neg c1]
  by_cases c2:x=k+1
  ·subst c2;rw [if_pos rfl,if_neg (by omega),if_pos rfl,if_neg (by omega),if_pos rfl]
  ·rw [if_neg c2,if_neg c2]
   by_cases c3:a<=x/\x<k
   ·rw [if_pos c3,if_pos (by omega)]
   ·rw [if_neg c3,if_neg c1,if_neg (by omega)]
theorem Pm.movR (f:Nat->α) {a b:Nat} : ∀ k,a<=k->k<b->Pm a b f (movR f a k):=by
 intro k h1 h2
 induction k with
 | zero=>
  obtain rfl:a=0:=by omega
  rw [movR_start];exact Pm.refl _ _ _
 | succ k ih=>
  by_cases c:a=k+1
  ·subst c;rw [movR_start];exact Pm.refl _ _ _
  ·rw [<- movR_step f (by omega)];exact (ih (by omega) (by omega)).trans (Pm.swp _ (by omega) (by omega) (by omega) (by omega))
theorem Srt.movR {key:α->Int} {f:Nat->α} {a b i:Nat} (h:Srt key f (a+1) b) (i1:a+1<=i) (i2:i<=b) (hl:i=a+1\/key (f (i-1))<key (f a)) (hh:i=b\/key (f a)<=key (f i)):Srt key (movR f a (i-1)) a b:=by
 intro x y x1 xy y1;have low:∀ z,a+1<=z->z<i->key (f z)<=key (f a):=fun z z1 z2=>by
  rcases hl with hl|hl
  ·omega
  ·by_cases c:z=i-1
   ·subst c;omega
   ·have:=h z (i-1) z1 (by omega) (by omega);omega
 have high:∀ z,i<=z->z<b->key (f a)<=key (f z):=fun z z1 z2=>by
  rcases hh with hh|hh
  ·omega
  ·by_cases c:z=i
   ·subst c;exact hh
   ·have:=h i z i1 (by omega) z2;omega
 unfold Ss.movR
 by_cases c1:x<i-1
 ·rw [if_pos (by omega)]
  by_cases c2:y<i-1
  ·rw [if_pos (by omega)];exact h (x+1) (y+1) (by omega) (by omega) (by omega)
  ·rw [if_neg (by omega)]
   by_cases c3:y=i-1
   ·rw [if_pos c3];exact low (x+1) (by omega) (by omega)
   ·rw [if_neg c3];exact h (x+1) y (by omega) (by omega) y1
 ·rw [if_neg (by omega)]
  by_cases c2:x=i-1
  ·rw [if_pos c2,if_neg (by omega),if_neg (by omega)];exact high y (by omega) y1
  ·rw [if_neg c2,if_neg (by omega),if_neg (by omega)];exact h x y (by omega) xy y1
def movL (f:Nat->α) (m k:Nat):Nat->α:=fun x=>if k<x/\x<=m then f (x-1) else if x=k then f m else f x
theorem movL_start (f:Nat->α) (m:Nat):movL f m m=f:=funext fun x=>by
 unfold movL;rw [if_neg (by omega)]
 by_cases c:x=m
 ·rw [if_pos c,c]
 ·rw [if_neg c]
theorem movL_step (f:Nat->α) {m k:Nat} (h:k<=m) (h0:0<k):swp (movL f m k) k (k-1)=movL f m (k-1):=funext fun x=>by
 unfold swp movL
 by_cases c1:x=k
 ·subst c1;rw [if_pos rfl,if_neg (by omega),if_neg (by omega),if_pos (by omega)]
 ·rw [if_neg c1]
  by_cases c2:x=k-1
  ·rw [if_pos c2,if_neg (by omega),if_pos rfl,if_neg (by omega),if_pos c2]
  ·rw [if_neg c2,if_neg c2]
   by_cases c3:k<x/\x<=m
   ·rw [if_pos c3,if_pos (by omega)]
   ·rw [if_neg c3,if_neg c1,if_neg (by omega)]
theorem Pm.movL (f:Nat->α) {a m:Nat} : ∀ d,d<=m->a<=m-d->Pm a (m+1) f (movL f m (m-d)):=by
 intro d h1 h2
 induction d with
 | zero=>rw [Nat.sub_zero,movL_start];exact Pm.refl _ _ _
 | succ d ih=>
  have e:m-(d+1)=m-d-1:=by omega
  rw [e,<- movL_step f (by omega) (by omega)];exact (ih (by omega) (by omega)).trans (Pm.swp _ (by omega) (by omega) (by omega) (by omega))
theorem Srt.movL {key:α->Int} {f:Nat->α} {a m i:Nat} (h:Srt key f a m) (i1:a<=i) (i2:i<=m) (hl:i=a\/key (f (i-1))<=key (f m)) (hh:i=m\/key (f m)<key (f i)):Srt key (movL f m i) a (m+1):=by
 intro x y x1 xy y1;have low:∀ z,a<=z->z<i->key (f z)<=key (f m):=fun z z1 z2=>by
  rcases hl with hl|hl
  ·omega
  ·by_cases c:z=i-1
   ·subst c;exact hl
   ·have:=h z (i-1) z1 (by omega) (by omega);omega
 have high:∀ z,i<=z->z<m->key (f m)<=key (f z):=fun z z1 z2=>by
  rcases hh with hh|hh
  ·omega
  ·by_cases c:z=i
   ·subst c;omega
   ·have:=h i z i1 (by omega) z2;omega
 unfold Ss.movL
 by_cases c1:y<i
 ·rw [if_neg (by omega),if_neg (by omega),if_neg (by omega),if_neg (by omega)];exact h x y x1 xy (by omega)
 ·by_cases c2:y=i
  ·rw [if_neg (by omega),if_neg (by omega),if_neg (by omega),if_pos c2];exact low x x1 (by omega)
  ·rw [if_pos (show i<y/\y<=m by omega)]
   by_cases c3:x<i
   ·rw [if_neg (by omega),if_neg (by omega)];exact h x (y-1) x1 (by omega) (by omega)
   ·by_cases c4:x=i
    ·rw [if_neg (by omega),if_pos c4];exact high (y-1) (by omega) (by omega)
    ·rw [if_pos (by omega)];exact h (x-1) (y-1) (by omega) (by omega) (by omega)
theorem cross {key:α->Int} {f:Nat->α} {a m b mid s e:Nat} (h1:Srt key f a m) (h2:Srt key f m b) (s1:a<=s) (s2:s<=m) (e1:m<=e) (e2:e<=b) (hm:mid+m=s+e)
  (hl:s=a\/e=b\/key (f (s-1))<=key (f e)) (hh:s=m\/e=m\/key (f (e-1))<key (f s)) :
  Srt key (rot f s m e) a s/\Srt key (rot f s m e) s mid/\Srt key (rot f s m e) mid e/\Srt key (rot f s m e) e b/\∀ i j,a<=i->i<mid->mid<=j->j<b->key (rot f s m e i)<=key (rot f s m e j):=by
 have A:∀ k,k<s->rot f s m e k=f k:=fun k hk=>by unfold rot;rw [if_neg (by omega),if_neg (by omega)]
 have B:∀ k,s<=k->k<mid->rot f s m e k=f (k+(m-s)):=fun k k1 k2=>by unfold rot;rw [if_pos (by omega)]
 have C:∀ k,mid<=k->k<e->rot f s m e k=f (k-(e-m)):=fun k k1 k2=>by unfold rot;rw [if_neg (by omega),if_pos (by omega)]
 have D:∀ k,e<=k->rot f s m e k=f k:=fun k hk=>by unfold rot;rw [if_neg (by omega),if_neg (by omega)]
 have lo:∀ x y,a<=x->x<s->e<=y->y<b->key (f x)<=key (f y):=fun x y x1 x2 y1 y2=>by
  rcases hl with hl|hl|hl
  ·omega
  ·omega
  ·have p:key (f x)<=key (f (s-1)):=by
    by_cases c:x=s-1
    ·subst c;exact Int.le_refl _
    ·exact h1 x (s-1) x1 (by omega) (by omega)
   have q:key (f e)<=key (f y):=by
    by_cases c:y=e
    ·subst c;exact Int.le_refl _
    ·exact h2 e y e1 (by omega) y2
   omega
 have hi:∀ x y,m<=x->x<e->s<=y->y<m->key (f x)<=key (f y):=fun x y x1 x2 y1 y2=>by
  rcases hh with hh|hh|hh
  ·omega
  ·omega
  ·have p:key (f x)<=key (f (e-1)):=by
    by_cases c:x=e-1
    ·subst c;exact Int.le_refl _
    ·exact h2 x (e-1) x1 (by omega) (by omega)
   have q:key (f s)<=key (f y):=by
    by_cases c:y=s
    ·subst c;exact Int.le_refl _
    ·exact h1 s y s1 (by omega) y2
   omega
 refine ⟨fun i j i1 ij j1=>?_,fun i j i1 ij j1=>?_,fun i j i1 ij j1=>?_,fun i j i1 ij j1=>?_,fun i j i1 i2 j1 j2=>?_⟩
 ·rw [A i (by omega),A j j1];exact h1 i j i1 ij (by omega)
 ·rw [B i i1 (by omega),B j (by omega) j1];exact h2 _ _ (by omega) (by omega) (by omega)
 ·rw [C i i1 (by omega),C j (by omega) j1];exact h1 _ _ (by omega) (by omega) (by omega)
 ·rw [D i i1,D j (by omega)];exact h2 i j (by omega) ij j1
 ·by_cases c1:i<s
  ·rw [A i c1]
   by_cases c2:j<e
   ·rw [C j j1 c2];exact h1 _ _ i1 (by omega) (by omega)
   ·rw [D j (by omega)];exact lo i j i1 c1 (by omega) j2
  ·rw [B i (by omega) i2]
   by_cases c2:j<e
   ·rw [C j j1 c2];exact hi _ _ (by omega) (by omega) (by omega) (by omega)
   ·rw [D j (by omega)];exact h2 _ _ (by omega) (by omega) j2
theorem apart {key:α->Int} {f g:Nat->α} {a m b:Nat} (p:Pm a m f g) (h:∀ i j,a<=i->i<m->m<=j->j<b->key (f i)<=key (f j)) :
  ∀ i j,a<=i->i<m->m<=j->j<b->key (g i)<=key (g j):=fun i j i1 i2 j1 j2=>by
 obtain ⟨l,l1,l2,e⟩:=p.fwd i i1 i2;rw [e,p.out j (by omega)];exact h l j l1 l2 j1 j2
theorem apart' {key:α->Int} {f g:Nat->α} {a m b:Nat} (p:Pm m b f g) (h:∀ i j,a<=i->i<m->m<=j->j<b->key (f i)<=key (f j)) :
  ∀ i j,a<=i->i<m->m<=j->j<b->key (g i)<=key (g j):=fun i j i1 i2 j1 j2=>by
 obtain ⟨l,l1,l2,e⟩:=p.fwd j j1 j2;rw [e,p.out i (by omega)];exact h i l i1 i2 l1 l2
def Blk (key:α->Int) (f:Nat->α) (s lo n:Nat):Prop:=∀ c,s∣c->lo<=c->c<n->Srt key f c (min (c+s) n)
def Done (key:α->Int) (f:Nat->α) (s hi:Nat):Prop:=∀ c,s∣c->c<hi->Srt key f c (min (c+s) hi)
theorem le_of_dvd {s c a:Nat} (h1:s∣c) (h2:s∣a) (h:c<a+s):c<=a:=by
 obtain ⟨k,rfl⟩:=h1;obtain ⟨l,rfl⟩:=h2
 have:s*k<s*(l+1):=by rw [Nat.mul_add,Nat.mul_one];exact h
 have:=Nat.lt_of_mul_lt_mul_left this
 exact Nat.mul_le_mul_left s (by omega)
theorem Done.nil (key:α->Int) (f:Nat->α) (s:Nat):Done key f s 0:=fun c _ h=>by omega
theorem Done.step {key:α->Int} {f g:Nat->α} {s a b:Nat} (h:Done key f s a) (ha:s∣a) (p:Pm a b f g) (hb:a<=b) (hb':b<=a+s) (ho:Srt key g a b):Done key g s b:=fun c hc hlt=>by
 have hle:c<=a:=le_of_dvd hc ha (by omega)
 by_cases e:c=a
 ·subst e;exact ho.sub (Nat.le_refl _) (by omega)
 ·have h1:c+s<=a:=by
   have:=le_of_dvd (Nat.dvd_add hc (Nat.dvd_refl s)) ha (by omega)
   exact this
  have h2:=h c hc (by omega);have e1:min (c+s) b=c+s:=by omega
  have e2:min (c+s) a=c+s:=by omega
  rw [e2] at h2;rw [e1];exact h2.out p (Or.inl h1)
theorem Done.blk {key:α->Int} {f:Nat->α} {s n:Nat} (h:Done key f s n):Blk key f s 0 n:=fun c hc _ hlt=>h c hc hlt
theorem Blk.after {key:α->Int} {f g:Nat->α} {s a b n:Nat} (h:Blk key f s a n) (p:Pm a b f g) (hb:a<=b):Blk key g s b n:=fun c hc hlo hlt=>(h c hc (by omega) hlt).out p (Or.inr hlo)
theorem Done.all {key:α->Int} {f:Nat->α} {s n:Nat} (h:Done key f s n) (hs:n<=s):Srt key f 0 n:=by
 by_cases e:n=0
 ·exact Srt.few key f (by omega)
 ·exact (h 0 (Nat.dvd_zero s) (by omega)).sub (Nat.le_refl _) (by omega)
structure Cd (key:α->Int) (f g:Nat->α) (n k:Nat):Prop where
 le:k<=n
 rise:∀ i j,i<j->j<k->key (g i)<key (g j)
 of:∀ i,i<k->∃ j,j<n/\g i=f j
 all:∀ j,j<n->∃ i,i<k/\key (g i)=key (f j)
structure Cp (key:α->Int) (f g:Nat->α) (n x k:Nat):Prop where
 pos:0<k
 le:k<=x
 lt:x<n
 cd:Cd key f g (x+1) k
 last:key (g (k-1))=key (f x)
 rest:∀ y,x<=y->y<n->g y=f y
theorem Cp.start {key:α->Int} {f:Nat->α} {k n:Nat} (h:∀ i j,i<j->j<k->key (f i)<key (f j)) (hk:k<n) (h0:0<k) (he:key (f k)=key (f (k-1))):Cp key f f n k k:=by
 refine ⟨h0,Nat.le_refl _,hk,⟨by omega,h,fun i hi=>⟨i,by omega,rfl⟩,fun j hj=>?_⟩,he.symm,fun y _ _=>rfl⟩
 by_cases c:j<k
 ·exact ⟨j,c,rfl⟩
 ·obtain rfl:j=k:=by omega
  exact ⟨j-1,by omega,he.symm⟩
theorem Cp.skip {key:α->Int} {f g:Nat->α} {n x k:Nat} (h:Cp key f g n x k) (hx:x+1<n) (he:key (f (x+1))=key (f x)):Cp key f g n (x+1) k:=by
 have hle:=h.le;have hpos:=h.pos;refine ⟨hpos,by omega,hx,⟨by omega,h.cd.rise,fun i hi=>?_,fun j hj=>?_⟩,h.last.trans he.symm,fun y y1 y2=>h.rest y (by omega) y2⟩
 ·obtain ⟨j,j1,e⟩:=h.cd.of i hi;exact ⟨j,by omega,e⟩
 ·by_cases c:j<x+1
  ·exact h.cd.all j c
  ·obtain rfl:j=x+1:=by omega
   exact ⟨k-1,by omega,h.last.trans he.symm⟩
def put (g:Nat->α) (k:Nat) (v:α):Nat->α:=fun x=>if x=k then v else g x
theorem put_same (g:Nat->α) (k:Nat) (v:α):put g k v k=v:=if_pos rfl
theorem put_other (g:Nat->α) {k x:Nat} (v:α) (h:x≠k):put g k v x=g x:=if_neg h
theorem swp_put (f:Nat->α) {i j:Nat} : put (put f i (f j)) j (f i)=swp f i j:=funext fun k=>by
 unfold put swp
 by_cases c1:k=j
 ·by_cases c2:k=i
  ·rw [if_pos c1,if_pos c2];rw [<- c2,c1]
  ·rw [if_pos c1,if_neg c2,if_pos c1]
 ·rw [if_neg c1]
  by_cases c2:k=i
  ·rw [if_pos c2,if_pos c2]
  ·rw [if_neg c2,if_neg c2,if_neg c1]
theorem Cp.keep {key:α->Int} {f g:Nat->α} {n x k:Nat} (hs:Srt key f 0 n) (h:Cp key f g n x k) (hx:x+1<n) (hne:key (f (x+1))≠key (f x)):Cp key f (put g k (f (x+1))) n (x+1) (k+1):=by
 have hle:=h.le;have hpos:=h.pos;have hlt:key (f x)<key (f (x+1)):=by
  have:=hs x (x+1) (by omega) (by omega) hx
  omega
 refine ⟨by omega,by omega,hx,⟨by omega,fun i j ij j1=>?_,fun i hi=>?_,fun j hj=>?_⟩,?_,fun y y1 y2=>?_⟩
 ·rw [put_other g _ (show i≠k by omega)]
  by_cases c:j<k
  ·rw [put_other g _ (by omega)];exact h.cd.rise i j ij c
  ·obtain rfl:j=k:=by omega
   rw [put_same];have hl:=h.last
   by_cases c':i=j-1
   ·subst c';omega
   ·have:=h.cd.rise i (j-1) (by omega) (by omega)
    omega
 ·by_cases c:i<k
  ·obtain ⟨j,j1,e⟩:=h.cd.of i c;exact ⟨j,by omega,by rw [put_other g _ (by omega),e]⟩
  ·obtain rfl:i=k:=by omega
   exact ⟨x+1,by omega,put_same g _ _⟩
 ·by_cases c:j<x+1
  ·obtain ⟨i,i1,e⟩:=h.cd.all j c;exact ⟨i,by omega,by rw [put_other g _ (by omega),e]⟩
  ·obtain rfl:j=x+1:=by omega
   exact ⟨k,by omega,by rw [put_same]⟩
 ·rw [Nat.add_sub_cancel,put_same]
 ·rw [put_other g _ (by omega)];exact h.rest y (by omega) y2
theorem Cp.end {key:α->Int} {f g:Nat->α} {n x k:Nat} (h:Cp key f g n x k) (hx:x+1=n):Cd key f g n k:=hx ▸ h.cd
end Go.Proofs.YtpdaknbmcpmhjaaGreatDoor.Ss
namespace Go.Proofs.YtpdaknbmcpmhjaaGreatDoor.So
open Go.ChangeShapes Go.WideShapes Go.ChangeAt Go.RowKit
structure Fr (X:Nat->Prop) (w w':World):Prop where
 os:w'.os=w.os
 tape:w'.tape=w.tape
 output:w'.output=w.output
 size:w.heap.size<=w'.heap.size
 block:∀ k,k<w.heap.size->¬ X k->w'.heap[k]?=w.heap[k]?
abbrev Non:Nat->Prop:=fun _=>False
abbrev One (q:Nat):Nat->Prop:=fun k=>k=q
theorem Fr.refl (X:Nat->Prop) (w:World):Fr X w w:=⟨rfl,rfl,rfl,Nat.le_refl _,fun _ _ _=>rfl⟩
theorem Fr.of {X:Nat->Prop} {w w':World} (h:Below w.heap.size w w'):Fr X w w':=⟨h.os,h.tape,h.output,h.size,fun k hk _=>h.block k hk⟩
theorem Fr.trans {X Y:Nat->Prop} {a b c:World} (h:Fr X a b) (g:Fr Y b c) (hY:∀ k,k<a.heap.size->Y k->X k):Fr X a c:=
 ⟨g.os.trans h.os,g.tape.trans h.tape,g.output.trans h.output,Nat.le_trans h.size g.size,fun k hk hx=>(g.block k (Nat.lt_of_lt_of_le hk h.size) fun hy=>hx (hY k hk hy)).trans (h.block k hk hx)⟩
theorem Fr.then {X:Nat->Prop} {a b c:World} (h:Fr X a b) (g:Below b.heap.size b c):Fr X a c:=h.trans (Fr.of (X:=Non) g) fun _ _ hy=>hy.elim
theorem Fr.same {X:Nat->Prop} {a b c:World} (h:Fr X a b) (g:Fr X b c):Fr X a c:=h.trans g fun _ _ hy=>hy
theorem Fr.new {X:Nat->Prop} {q:Nat} {a b c:World} (h:Fr X a b) (g:Fr (One q) b c) (hq:a.heap.size<=q):Fr X a c:=h.trans g fun k hk hy=>by subst hy;omega
theorem Fr.below {X:Nat->Prop} {B:Nat} {w w':World} (h:Fr X w w') (hB:B<=w.heap.size) (hX:∀ k,k<B->¬ X k):Below B w w':=⟨h.os,h.tape,h.output,h.size,fun k hk=>h.block k (Nat.lt_of_lt_of_le hk hB) (hX k hk)⟩
theorem Fr.non {w w':World} (h:Fr Non w w'):Below w.heap.size w w':=h.below (Nat.le_refl _) fun _ _ hk=>hk
theorem Fr.mono {X Y:Nat->Prop} {w w':World} (h:Fr X w w') (hX:∀ k,k<w.heap.size->X k->Y k):Fr Y w w':=⟨h.os,h.tape,h.output,h.size,fun k hk hy=>h.block k hk fun hx=>hy (hX k hk hx)⟩
theorem Fr.cell {X:Nat->Prop} {w w':World} (h:Fr X w w') {b:Nat} (hb:b<w.heap.size) (hx:¬ X b) (o:Nat):w'.cell? ⟨b,o,none⟩=w.cell? ⟨b,o,none⟩:=World.cell?_of_block (w:=w) (h.block b hb hx)
theorem Fr.frozen {X:Nat->Prop} {w w':World} (h:Fr X w w') {b:Nat} (hb:b<w.heap.size) (hx:¬ X b) (o:Nat):w'.frozen? ⟨b,o,none⟩=w.frozen? ⟨b,o,none⟩:=World.frozen?_of_block (a:=⟨b,o,none⟩) (h.block b hb hx)
theorem Fr.setCell {X:Nat->Prop} {w w':World} (h:Fr X w w') {b:Nat} (hb:w.heap.size<=b\/X b) (o:Nat) (v:Value):Fr X w (w'.setCell ⟨b,o,none⟩ v):=by
 refine ⟨h.os,h.tape,h.output,by rw [World.size_setCell];exact h.size,fun k hk hx=>?_⟩;have hne:k≠b:=by
  rintro rfl;rcases hb with hb|hb
  ·omega
  ·exact hx hb
 rw [Below.heap_setCell _ _ _ _ hne];exact h.block k hk hx
theorem Fr.alloc {X:Nat->Prop} {w w':World} (h:Fr X w w') (o:Obj):Fr X w (w'.alloc o):=h.then ((Below.refl _ _).alloc (Nat.le_refl _) _)
theorem Fr.drewN {X:Nat->Prop} {w w':World} (h:Fr X w w') (n:Nat):Fr X w (w'.drewN n):=⟨h.os,h.tape,h.output,h.size,h.block⟩
theorem Fr.drew {X:Nat->Prop} {w w':World} (h:Fr X w w'):Fr X w w'.drew:=⟨h.os,h.tape,h.output,h.size,h.block⟩
def c3 (a b:Int):Int:=if a<b then -1 else if b<a then 1 else 0
theorem c3_lt {a b:Int} : c3 a b<0↔a<b:=by
 unfold c3
 by_cases h:a<b
 ·rw [if_pos h];omega
 ·rw [if_neg h]
  by_cases h':b<a
  ·rw [if_pos h'];omega
  ·rw [if_neg h'];omega
end Go.Proofs.YtpdaknbmcpmhjaaGreatDoor.So
namespace Go.Proofs.YtpdaknbmcpmhjaaGreatDoor.Op
def fieldB (a n:Int):Bool:=decide (1<=n/\n<=64/\0<=a/\a<=64-n)
def cl (n:Int):Int:=if n<1 then 1 else if 64<n then 64 else n
theorem cl_lo (n:Int):1<=cl n:=by unfold cl;split <;> (try split) <;> omega
theorem cl_hi (n:Int):cl n<=64:=by unfold cl;split <;> (try split) <;> omega
theorem cl_id (n:Int) (h1:1<=n) (h2:n<=64):cl n=n:=by unfold cl;split <;> (try split) <;> omega
def getN (X a n:Nat):Nat:=X / 2^a%2^n
theorem getN_lt (X a n:Nat) (h:n<=64):getN X a n<2^64:=
 Nat.lt_of_lt_of_le (Nat.mod_lt _ (Nat.two_pow_pos _)) (Nat.pow_le_pow_right (by decide) h)
theorem ones_div (n:Nat) (h:n<=64):18446744073709551615 / 2^(64-n)=2^n-1:=by
 have e:(18446744073709551616:Nat)=2^n*2^(64-n):=by
  rw [<- Nat.pow_add,show n+(64-n)=64 by omega]
 have hp:0<2^(64-n):=Nat.two_pow_pos _;have hn:0<2^n:=Nat.two_pow_pos _;refine Nat.div_eq_of_lt_le ?_ ?_
 ·rw [Nat.sub_mul,<- e];omega
 ·rw [Nat.sub_add_cancel hn,<- e];omega
theorem get_masks (X a n:Nat):X / 2^a &&& (2^n-1)=getN X a n:=by
 unfold getN;exact Nat.and_two_pow_sub_one_eq_mod _ _
theorem get_step (X a k:Nat):getN X (a+1) k*2+X / 2^a%2=getN X a (k+1):=by
 unfold getN;rw [Nat.pow_succ 2 a,<- Nat.div_div_eq_div_mul,Nat.pow_succ 2 k,Nat.mul_comm (2^k) 2,Nat.mod_mul];omega
def sg (x:Int) (c:Nat):Int:=(x+2^(c-1))%2^c-2^(c-1)
theorem pow_split (c:Nat) (h:1<=c):(2:Int)^c=2*2^(c-1):=by
 obtain ⟨d,rfl⟩:∃ d,c=d+1:=⟨c-1,by omega⟩;rw [Nat.add_sub_cancel,Int.pow_succ];omega
theorem pow_pos' (c:Nat):(0:Int)<2^c:=Int.pow_pos (by decide)
theorem sg_lo (x:Int) (c:Nat) : -(2^(c-1))<=sg x c:=by
 unfold sg
 have:=Int.emod_nonneg (x+2^(c-1)) (Int.ne_of_gt (pow_pos' c));omega
theorem sg_hi (x:Int) (c:Nat) (h:1<=c):sg x c<2^(c-1):=by
 unfold sg
 have:=Int.emod_lt_of_pos (x+2^(c-1)) (pow_pos' c)
 have:=pow_split c h;omega
theorem sg_id (x:Int) (c:Nat) (h:1<=c) (h1 : -(2^(c-1))<=x) (h2:x<2^(c-1)):sg x c=x:=by
 unfold sg
 have:=pow_split c h
 rw [Int.emod_eq_of_lt (by omega) (by omega)];omega
theorem sg_iff (x:Int) (c:Nat) (h:1<=c):sg x c=x↔-(2^(c-1))<=x/\x<2^(c-1):=by
 constructor
 ·intro e;have h1:=sg_lo x c;have h2:=sg_hi x c h;rw [e] at h1 h2;exact ⟨h1,h2⟩
 ·intro e;exact sg_id x c h e.1 e.2
theorem sg_mod (x:Int) (c d:Nat) (h:c<=d):sg (x%2^d) c=sg x c:=by
 unfold sg;have e:(2:Int)^c∣2^d:=⟨2^(d-c),by rw [<- Int.pow_add];congr 1;omega⟩;rw [Int.add_emod,Int.emod_emod_of_dvd x e,<- Int.add_emod]
theorem pow_le63 (c:Nat) (h:c<=64):(2:Int)^(c-1)<=9223372036854775808:=by
 have h1:2^(c-1)<=2^63:=Nat.pow_le_pow_right (by decide:0<2) (by omega:c-1<=63);have h2:((2^(c-1):Nat):Int)=2^(c-1):=by simp
 omega
theorem sg_one (y:Int):sg y 1 = -(y%2):=by unfold sg;simp;omega
theorem emod_two (u b m:Int) (hm:0<m) (b0:0<=b) (b1:b<=1):(2*u+b)%(2*m)=2*(u%m)+b:=by
 have e:u=m*(u / m)+u%m:=(Int.mul_ediv_add_emod u m).symm;have l:=Int.emod_nonneg u (Int.ne_of_gt hm);have g:=Int.emod_lt_of_pos u hm;generalize u / m=q at *;generalize u%m=r at *;subst e;rw [show 2*(m*q+r)+b=(2*r+b)+2*m*q by rw [Int.mul_add,Int.mul_assoc];omega,Int.add_mul_emod_self_left];exact Int.emod_eq_of_lt (by omega) (by omega)
theorem sg_step (y:Int) (k:Nat) (h:1<=k):sg (y / 2) k*2+y%2=sg y (k+1):=by
 unfold sg;rw [Nat.add_sub_cancel,Int.pow_succ,Int.mul_comm (2^k) 2];have hs:=pow_split k h;have e:y+2^k=2*(y / 2+2^(k-1))+y%2:=by omega
 rw [e,emod_two _ _ _ (pow_pos' k) (by omega) (by omega)];omega
theorem sg_shift (x:Int) (c:Nat) (h:1<=c) (h64:c<=64) :
  ((x*2^(64-c)%18446744073709551616+9223372036854775808)%18446744073709551616-9223372036854775808) / 2^(64-c)=sg x c:=by
 have e64:(18446744073709551616:Int)=2^c*2^(64-c):=by
  rw [<- Int.pow_add,show c+(64-c)=64 by omega];rfl
 have e63:(9223372036854775808:Int)=2^(c-1)*2^(64-c):=by
  rw [<- Int.pow_add,show c-1+(64-c)=63 by omega];rfl
 have hp:=pow_pos' (64-c);rw [Int.emod_add_emod,e64,e63,<- Int.add_mul,Int.mul_comm _ (2^(64-c)),Int.mul_comm (2^c) (2^(64-c)),Int.mul_emod_mul_of_pos _ _ hp,
  Int.mul_comm (2^(c-1)) (2^(64-c)),<- Int.mul_sub,Int.mul_ediv_cancel_left _ (Int.ne_of_gt hp)]
 rfl
end Go.Proofs.YtpdaknbmcpmhjaaGreatDoor.Op
namespace Go.Proofs.YtpdaknbmcpmhjaaGreatDoor.Op
open Go.RowKit
def getI (x a n:Int):Int:=if fieldB a n=true then ((getN x.toNat a.toNat n.toNat : Nat):Int) else 0
def sgI (x n:Int):Int:=sg x (cl n).toNat
def fitsI (x n:Int):Bool:=decide (sgI x n=x)
theorem field_iff (a n:Int):fieldB a n=true↔1<=n/\n<=64/\0<=a/\a<=64-n:=by unfold fieldB;simp
theorem pow_cast (k:Nat):((2:Int)^k)=((2^k:Nat):Int):=by simp
theorem ones_int (n:Int) (h1:1<=n) (h2:n<=64):(18446744073709551615:Int) / 2^(64-n).toNat = ((2^n.toNat - 1:Nat):Int):=by
 rw [pow_cast,show (18446744073709551615:Int)=((18446744073709551615:Nat):Int) from rfl,<- Int.natCast_ediv,
  show (64-n).toNat = 64-n.toNat by omega,ones_div n.toNat (by omega)]
theorem get_form (x a n:Int) (h1:1<=n) (h2:n<=64) (h3:0<=a) (h4:a<=64-n)
  (x0:0<=x) (x1:x<18446744073709551616) :
  bits BinOp.and IntKind.u64 (x / 2^a.toNat) (18446744073709551615 / 2^(64-n).toNat)=getI x a n:=by
 unfold getI;rw [if_pos ((field_iff a n).2 ⟨h1,h2,h3,h4⟩),ones_int n h1 h2];obtain ⟨X,rfl⟩:=Int.eq_ofNat_of_zero_le x0;have hq:X / 2^a.toNat<=X:=Nat.div_le_self _ _;have hn:2^n.toNat<=2^64:=Nat.pow_le_pow_right (by decide) (by omega);rw [pow_cast,<- Int.natCast_ediv,u64_and_nat _ _ (by omega) (by omega),get_masks,Int.toNat_natCast]
theorem sg_form (x n:Int):wrap64 (IntKind.u64.wrap (x*2^(64-cl n).toNat)) / 2^(64-cl n).toNat = sgI x n:=by
 have h1:=cl_lo n;have h2:=cl_hi n
 have:=sg_shift x (cl n).toNat (by omega) (by omega)
 rw [show 64-(cl n).toNat = (64-cl n).toNat by omega] at this;unfold sgI;rw [<- this,IntKind.wrap_u64,wrap64]
theorem fits_form (x n:Int):(sgI (IntKind.u64.wrap x) n==x)=fitsI x n:=by
 have h1:=cl_lo n;have h2:=cl_hi n;have e:sgI (IntKind.u64.wrap x) n=sgI x n:=by
  unfold sgI;rw [IntKind.wrap_u64,<- sg_mod x (cl n).toNat 64 (by omega)];rfl
 rw [e];unfold fitsI;rw [Bool.eq_iff_iff];simp
end Go.Proofs.YtpdaknbmcpmhjaaGreatDoor.Op
namespace Go.Proofs.YtpdaknbmcpmhjaaGreatDoor.Op
open Go.ChangeShapes Go.WideShapes Go.ChangeAt Go.RowKit
theorem ret_bool {a b:Bool} (h:a=b):Ending.returned (.bool a)=.returned (.bool b):=by rw [h]
theorem ret_int {k:IntKind} {a b:Int} (h:a=b):Ending.returned (.int k a)=.returned (.int k b):=by rw [h]
theorem isField_any (a n:Int) (w:World) :
  Calls Tryz.prog 340 #[.int .i64 a,.int .i64 n] w fun e w'=>e=.returned (.bool (fieldB a n))/\w'=w:=by
 by_cases h1:1<=n
 ·by_cases h2:n<=64
  ·by_cases h3:0<=a
   all_goals
    go_enter Tryz.func340,Tryz.ntmps340;go_wp2
    go_ret
    refine ⟨ret_bool ?_,rfl⟩;rw [Bool.eq_iff_iff,field_iff];simp;omega
  ·go_enter Tryz.func340,Tryz.ntmps340;go_wp2
   go_ret
   refine ⟨ret_bool ?_,rfl⟩;rw [Bool.eq_iff_iff,field_iff];simp;omega
 ·go_enter Tryz.func340,Tryz.ntmps340;go_wp2
  go_ret
  refine ⟨ret_bool ?_,rfl⟩;rw [Bool.eq_iff_iff,field_iff];simp;omega
theorem lowest_any (n:Int) (w:World) (h1:1<=n) (h2:n<=64) :
  Calls Tryz.prog 341 #[.int .i64 n] w fun e w'=>e=.returned (.int .u64 (18446744073709551615 / 2^(64-n).toNat))/\w'=w:=by
 go_enter Tryz.func341,Tryz.ntmps341;go_wp2
 go_ret
 exact ⟨rfl,rfl⟩
theorem count_any (n:Int) (w:World) :
  Calls Tryz.prog 362 #[.int .i64 n] w fun e w'=>e=.returned (.int .i64 (cl n))/\w'=w:=by
 go_enter Tryz.func362,Tryz.ntmps362;go_wp2
 all_goals
  go_ret
  refine ⟨ret_int ?_,rfl⟩;unfold cl
  split at * <;> (try split) <;> omega
theorem get_any (x a n:Int) (w:World) (x0:0<=x) (x1:x<18446744073709551616) :
  Calls Tryz.prog 299 #[.int .u64 x,.int .i64 a,.int .i64 n] w fun e w'=>e=.returned (.int .u64 (getI x a n))/\w'=w:=by
 cases h:fieldB a n
 ·have H0:getI x a n=0:=by unfold getI;rw [if_neg (by rw [h];decide)]
  have H:Hid (getI x a n=0):=H0;clear H0;go_enter Tryz.func299,Tryz.ntmps299;go_wp2_with (go_at_call 340;refine (isField_any _ _ _).mono ?_;rintro e w' ⟨rfl,rfl⟩)
  go_ret
  exact ⟨ret_int H.out.symm,rfl⟩
 ·obtain ⟨h1,h2,h3,h4⟩:=(field_iff a n).1 h;have H:Hid _:=(get_form x a n h1 h2 h3 h4 x0 x1);go_enter Tryz.func299,Tryz.ntmps299;go_wp2_with (first|(go_at_call 340;refine (isField_any _ _ _).mono ?_;rintro e w' ⟨rfl,rfl⟩)|(go_at_call 341;refine (lowest_any _ _ (by omega) (by omega)).mono ?_;rintro e w' ⟨rfl,rfl⟩))
  go_ret
  exact ⟨ret_int (H.out),rfl⟩
theorem signed_any (x n:Int) (w:World) :
  Calls Tryz.prog 358 #[.int .u64 x,.int .i64 n] w fun e w'=>e=.returned (.int .i64 (sgI x n))/\w'=w:=by
 have hlo:=cl_lo n;have hhi:=cl_hi n;have H:Hid _:=(sg_form x n);go_enter Tryz.func358,Tryz.ntmps358;go_wp2_with (go_at_call 362;refine (count_any _ _).mono ?_;rintro e w' ⟨rfl,rfl⟩)
 go_ret
 exact ⟨ret_int (H.out),rfl⟩
theorem fits_any (x n:Int) (w:World) :
  Calls Tryz.prog 342 #[.int .i64 x,.int .i64 n] w fun e w'=>e=.returned (.bool (fitsI x n))/\w'=w:=by
 have H:Hid _:=(fits_form x n);go_enter Tryz.func342,Tryz.ntmps342;go_wp2_with (go_at_call 358;refine (signed_any _ _ _).mono ?_;rintro e w' ⟨rfl,rfl⟩)
 go_ret
 exact ⟨ret_bool (H.out),rfl⟩
theorem bcell {B:Nat} {W w1:World} (hb:Below B W w1):(∀ b o,b<B->w1.cell? ⟨b,o,none⟩=W.cell? ⟨b,o,none⟩)/\(∀ b o,b<B->w1.frozen? ⟨b,o,none⟩=W.frozen? ⟨b,o,none⟩):=
  ⟨fun b o h=>hb.cell (p:=⟨b,o,none⟩) h,fun b o h=>hb.frozen (p:=⟨b,o,none⟩) h⟩
structure Wd (G:World->Prop) where
  w:World
  ok:G w
theorem wp_region_in {P:Program} {id:Nat} {Q:Exit->Act->World->Prop} {a:Act} {w:World} {l:List Oper} (G:World->Prop) (hm:P.follows .mixedOrders=true) (hB:Region.lexB .any l.toArray=true)
    (hG:G w.drew) (h:wpQuiet P l.toArray (fun w'=>∃ x:Wd G,w'=x.w) (fun a'=>∀ w',(∃ x:Wd G,w'=x.w)->Q .normal a' w') l a):(Code.region id l.toArray true).wp P Q a w:=
  wp_region_quiet (C:=fun w'=>∃ x:Wd G,w'=x.w) hm hB ⟨⟨_,hG⟩,rfl⟩ (by simpa using h)
theorem calls_in {P:Program} {B:Nat} {W:World} {f:FuncId} {args:Array Value} {v:Value} (hB:B<=W.heap.size) (x:Wd (Below B W)) (c:Calls P f args x.w fun e w'=>e=.returned v/\Below x.w.heap.size x.w w') :
    Calls P f args x.w fun e w''=>e=.returned v/\∃ y:Wd (Below B W),w''=y.w:=
  c.mono fun _ w' h=>⟨h.1,⟨w',x.ok.trans (h.2.mono (Nat.le_trans hB x.ok.size))⟩,rfl⟩
structure K where
  name:List UInt8
  cls:Int
  D:Bool
  A:Bool
  B:Bool
  N:Bool
  I:Bool
def bi (b:Bool) (n:Int):Int:=if b then n else 0
def K.fields (k:K):Int:=bi k.D 1+bi k.A 2+bi k.B 4+bi k.I 8+bi k.N 16
def K.s (k:K):ByteArray:=⟨k.name.toArray⟩
def K.cells (k:K):List Value:=[.string k.s,.int .i8 k.cls,.int .u8 k.fields]
def kindL:List K:=
  [⟨[110,111,112],-1,false,false,false,false,false⟩,⟨[99,111,110,115,116],0,true,false,false,false,true⟩,
   ⟨[97,100,100],0,true,true,true,false,false⟩,⟨[115,117,98],0,true,true,true,false,false⟩,⟨[97,110,100],0,true,true,true,false,false⟩,
   ⟨[111,114],0,true,true,true,false,false⟩,⟨[120,111,114],0,true,true,true,false,false⟩,⟨[115,104,108],0,true,true,true,false,false⟩,
   ⟨[115,104,114],0,true,true,true,false,false⟩,⟨[108,101,115,115],0,true,true,true,false,false⟩,⟨[101,113,117,97,108],0,true,true,true,false,false⟩,
   ⟨[109,111,118,101],0,true,true,false,false,false⟩,
   ⟨[116,105,109,101,115],1,true,true,true,false,false⟩,⟨[100,105,118,105,100,101],1,true,true,true,false,false⟩,⟨[114,101,115,116],1,true,true,true,false,false⟩,
   ⟨[108,111,97,100],2,true,true,false,false,true⟩,⟨[115,116,111,114,101],2,false,true,true,false,true⟩,⟨[112,114,105,110,116],2,false,true,false,false,false⟩,
   ⟨[106,117,109,112],3,false,false,false,false,true⟩,⟨[98,114,97,110,99,104],3,false,true,false,false,true⟩,⟨[104,97,108,116],3,false,true,false,false,false⟩,
   ⟨[99,111,117,110,116],3,false,true,false,false,true⟩,⟨[115,104,111,114,116],3,false,true,false,true,true⟩,⟨[97,103,97,105,110],3,false,false,false,false,true⟩]
def kOf (d:Int):Option K:=if 0<=d then kindL[d.toNat]? else none
def kindCells:Array Value:=(kindL.flatMap K.cells).toArray
def zeroCells:Array Value:=(List.replicate 24 [Value.string ⟨#[]⟩,.int .i8 0,.int .u8 0]).flatten.toArray
theorem kind_one:kindCells.all (·.oneCell')=true:=by kernel_rfl
theorem info214:(Tryz.prog.info? 214).map (·.size)=some 72:=by kernel_rfl
theorem kindSize:kindCells.size=72:=by kernel_rfl
theorem zeroSize:zeroCells.size=72:=by kernel_rfl
theorem kinds_any (w:World):Calls Tryz.prog 136 #[] w fun e w'=>e=.returned (.agg kindCells)/\Below w.heap.size w w':=by
  have hZ:=(zero_of_info (P:=Tryz.prog) (t:=214) (v:=.agg zeroCells) (n:=72) (by kernel_rfl)).1
  have hzs:=zeroSize
  have hsc:Hid (_):=run_storeCells_new (P:=Tryz.prog) w 214 zeroCells kindCells (by rw [kindSize];exact info214) (by rw [kindSize,zeroSize]) kind_one
  go_enter Tryz.func136,Tryz.ntmps136
  go_wp2
  conv in storeCells _ _ _=>arg 2;change kindCells.toList
  rw [hsc.out]
  simp only [Result.andThen]
  rw [Oper.upon_skip]
  go_wp2
  (try simp only [Exit.inBlock,Exit.then])
  refine bodyPost_ret (v:=.agg kindCells) (results_cell_row (P:=Tryz.prog) Tryz.results136 _ _ w.heap.size 214 kindCells (0,0) _ rfl (heap_alloc_last w _) Tryz.underlying214 rfl (by rw [kindSize];exact info214)) rfl ⟨rfl,by go_grown⟩
abbrev kz:Value:=.agg #[.string ⟨#[]⟩,.int .i8 0,.int .u8 0]
abbrev K.val (k:K):Value:=.agg #[.string k.s,.int .i8 k.cls,.int .u8 k.fields]
theorem new_cells (w:World) (c:Array Value) (t:TypeId) {w':World} (hb:Below (w.alloc (.cells c t)).heap.size (w.alloc (.cells c t)) w') :
  (∀ (j:Nat) v,c[j]?=some v->w'.cell? ⟨w.heap.size,j,none⟩=some v)/\(∀ j:Nat,w'.frozen? ⟨w.heap.size,j,none⟩=false)/\Below w.heap.size w w'/\w.heap.size<w'.heap.size:=by
 have hz:=hb.size;simp at hz
 refine ⟨fun j v h=>?_,fun j=>?_,((Below.refl _ _).alloc (Nat.le_refl _) _).trans (hb.mono (by simp)),hz⟩
 ·rw [(bcell hb).1 _ _ (by simp)];simp [h]
 ·rw [(bcell hb).2 _ _ (by simp)];simp
theorem kOf_some {d:Int} {k:K} (h:kOf d=some k):∃ (n:Nat) (hn:n<24),d=n/\kindL[n]'hn=k:=by
 unfold kOf at h
 split at h
 ·rename_i h0;obtain ⟨n,rfl⟩:=Int.eq_ofNat_of_zero_le h0;obtain ⟨hn,e⟩:=List.getElem?_eq_some_iff.1 h;exact ⟨n,hn,rfl,e⟩
 ·cases h
theorem kOf_out {d:Int} (h:kOf d=none):d<0\/24<=d:=by
 unfold kOf at h
 split at h
 ·rename_i h0
  have:=List.getElem?_eq_none_iff.1 h
  simp [kindL] at this
  omega
 ·omega
theorem kindOf_no (d:Int) (w:World) (h1 : -128<=d) (h2:d<=127) (h:kOf d=none) :
  Calls Tryz.prog 75 #[.int .i8 d] w fun e w'=>e=.returned (.tuple #[kz,.bool false])/\Below w.heap.size w w':=by
 have hd:24<=d%256:=by have:=kOf_out h;omega
 clear h;go_enter Tryz.func75,Tryz.ntmps75;go_wp2
 refine bodyPost_ret (v:=.tuple #[kz,.bool false]) (by simp [results,Tryz.results75,go_sem]) rfl ⟨rfl,by go_grown⟩
theorem index80 (d:Nat) (h:d<24) (w:World):(Instr.index 214 (.agg kindCells) (.int .i8 d)).run Tryz.prog w=.ok (.agg (kindCells.extract (d*3) (d*3+3))) w:=by
 simp [Instr.index,asIntOf,Tryz.sizeOf134,Tryz.isAgg134,part,go_sem]
 intro hc;omega
theorem kindRow (d:Nat) (h:d<24):Value.agg (kindCells.extract (d*3) (d*3+3))=(kindL[d]'h).val:=by
 match d,h with
 | 0,_=>rfl
 | 1,_=>rfl
 | 2,_=>rfl
 | 3,_=>rfl
 | 4,_=>rfl
 | 5,_=>rfl
 | 6,_=>rfl
 | 7,_=>rfl
 | 8,_=>rfl
 | 9,_=>rfl
 | 10,_=>rfl
 | 11,_=>rfl
 | 12,_=>rfl
 | 13,_=>rfl
 | 14,_=>rfl
 | 15,_=>rfl
 | 16,_=>rfl
 | 17,_=>rfl
 | 18,_=>rfl
 | 19,_=>rfl
 | 20,_=>rfl
 | 21,_=>rfl
 | 22,_=>rfl
 | 23,_=>rfl
 | _+24,h=>exact absurd h (by omega)
theorem kindOf_yes (d:Int) (k:K) (w:World) (h:kOf d=some k) :
  Calls Tryz.prog 75 #[.int .i8 d] w fun e w'=>e=.returned (.tuple #[k.val,.bool true])/\Below w.heap.size w w':=by
 obtain ⟨n,hn,rfl,hk⟩:=kOf_some h;clear h;have hi:∀ w,(Instr.index 214 (.agg kindCells) (.int .i8 n)).run Tryz.prog w=.ok k.val w:=fun w=>by rw [index80 n hn,kindRow n hn,hk]
 clear hk;have hd:(n:Int)%256<24:=by omega
 go_enter Tryz.func75,Tryz.ntmps75;go_wp2_with (first|(go_at_call 136;refine (kinds_any _).mono ?_;rintro e w' ⟨rfl,hb⟩;obtain ⟨hc,hf,HB0,hz⟩:=new_cells w _ _ hb;have c0:=hc 0 _ rfl;have c1:=hc 1 _ rfl;have c2:=hc 2 _ rfl;have f0:=hf 0;have f1:=hf 1;have f2:=hf 2;have HB:Hid (Below w.heap.size w w'):=HB0;clear hb HB0 hc hf))
 refine bodyPost_ret (v:=.tuple #[k.val,.bool true]) (by simp [results,Tryz.results75,go_sem,c0,c1,c2]) rfl ⟨rfl,HB.out.trans ?_⟩
 go_grown
theorem counts_any (s:ByteArray) (c f m:Int) (w:World):Calls Tryz.prog 302 #[.agg #[.string s,.int .i8 c,.int .u8 f],.int .u8 m] w fun e w'=>e=.returned (.bool (bits .and .u8 f m != 0))/\Below w.heap.size w w':=by
 go_enter Tryz.func302,Tryz.ntmps302;go_wp2
 go_ret
 exact ⟨rfl,by go_grown⟩
theorem and_D (k:K):(bits .and .u8 k.fields 1 != 0)=k.D:=
 (by decide:∀ D A B N I:Bool,(bits .and .u8 (bi D 1+bi A 2+bi B 4+bi I 8+bi N 16) 1 != 0)=D) k.D k.A k.B k.N k.I
theorem and_A (k:K):(bits .and .u8 k.fields 2 != 0)=k.A:=
 (by decide:∀ D A B N I:Bool,(bits .and .u8 (bi D 1+bi A 2+bi B 4+bi I 8+bi N 16) 2 != 0)=A) k.D k.A k.B k.N k.I
theorem and_B (k:K):(bits .and .u8 k.fields 4 != 0)=k.B:=
 (by decide:∀ D A B N I:Bool,(bits .and .u8 (bi D 1+bi A 2+bi B 4+bi I 8+bi N 16) 4 != 0)=B) k.D k.A k.B k.N k.I
theorem and_I (k:K):(bits .and .u8 k.fields 8 != 0)=k.I:=
 (by decide:∀ D A B N I:Bool,(bits .and .u8 (bi D 1+bi A 2+bi B 4+bi I 8+bi N 16) 8 != 0)=I) k.D k.A k.B k.N k.I
theorem and_BN (k:K):(bits .and .u8 k.fields 20 != 0)=(k.B || k.N):=
 (by decide:∀ D A B N I:Bool,(bits .and .u8 (bi D 1+bi A 2+bi B 4+bi I 8+bi N 16) 20 != 0)=(B || N)) k.D k.A k.B k.N k.I
theorem cnt_D (k:K) (w:World):Calls Tryz.prog 302 #[k.val,.int .u8 1] w fun e w'=>e=.returned (.bool k.D)/\Below w.heap.size w w':=by
 have h:=counts_any k.s k.cls k.fields 1 w;rw [and_D] at h;exact h
theorem cnt_A (k:K) (w:World):Calls Tryz.prog 302 #[k.val,.int .u8 2] w fun e w'=>e=.returned (.bool k.A)/\Below w.heap.size w w':=by
 have h:=counts_any k.s k.cls k.fields 2 w;rw [and_A] at h;exact h
theorem cnt_B (k:K) (w:World):Calls Tryz.prog 302 #[k.val,.int .u8 4] w fun e w'=>e=.returned (.bool k.B)/\Below w.heap.size w w':=by
 have h:=counts_any k.s k.cls k.fields 4 w;rw [and_B] at h;exact h
def rH (r:Int) (c:Bool):Bool:=if c then decide (r<32) else r==0
def iH (i:Int) (c:Bool):Bool:=if c then decide (-2147483648<=i/\i<=2147483647) else i==0
theorem regHolds (r:Int) (c:Bool) (w:World):Calls Tryz.prog 301 #[.int .u8 r,.bool c] w fun e w'=>e=.returned (.bool (rH r c))/\w'=w:=by
 cases c
 all_goals
  go_enter Tryz.func301,Tryz.ntmps301;go_wp2
  go_ret
  exact ⟨rfl,rfl⟩
theorem fits32 (i:Int):fitsI i 32=decide (-2147483648<=i/\i<=2147483647):=by
 unfold fitsI sgI;rw [show (cl 32).toNat = 32 from rfl,Bool.eq_iff_iff];simp only [decide_eq_true_eq];rw [sg_iff _ 32 (by decide)];simp
 omega
theorem immHolds (i:Int) (c:Bool) (w:World):Calls Tryz.prog 303 #[.int .i64 i,.bool c] w fun e w'=>e=.returned (.bool (iH i c))/\w'=w:=by
 cases c
 all_goals
  go_enter Tryz.func303,Tryz.ntmps303;go_wp2_with (first|(go_at_call 342;refine (fits_any _ _ _).mono ?_;rintro e w' ⟨rfl,rfl⟩))
  go_ret
  exact ⟨by simp [iH,fits32],rfl⟩
structure O where
 op:Int
 d:Int
 a:Int
 b:Int
 im:Int
abbrev O.cells (o:O):Array Value:=#[.int .i8 o.op,.int .u8 o.d,.int .u8 o.a,.int .u8 o.b,.int .i64 o.im]
abbrev O.val (o:O):Value:=.agg #[.int .i8 o.op,.int .u8 o.d,.int .u8 o.a,.int .u8 o.b,.int .i64 o.im]
structure O.Ok (o:O):Prop where
 op0 : -128<=o.op
 op1:o.op<=127
 d0:0<=o.d
 d1:o.d<=255
 a0:0<=o.a
 a1:o.a<=255
 b0:0<=o.b
 b1:o.b<=255
 i0 : -9223372036854775808<=o.im
 i1:o.im<=9223372036854775807
def okF (k:K) (o:O):Bool:=rH o.d k.D&&rH o.a k.A&&rH o.b (k.B || k.N)&&iH o.im k.I
def okO (o:O):Bool:=match kOf o.op with|some k=>okF k o|none=>false
theorem regHoldsV (r:Int) (c v:Bool) (w:World) (h:rH r c=v):Calls Tryz.prog 301 #[.int .u8 r,.bool c] w fun e w'=>e=.returned (.bool v)/\Below w.heap.size w w':=
 (regHolds r c w).mono fun _ _ g=>⟨by rw [g.1,h],by rw [g.2];exact Below.refl _ _⟩
theorem fieldsHold_any (k:K) (o:O) (w:World) :
  Calls Tryz.prog 257 #[k.val,o.val] w fun e w'=>e=.returned (.bool (okF k o))/\Below w.heap.size w w':=by
 have hW:Below w.heap.size w ((w.alloc (.cells #[.string k.s,.int .i8 k.cls,.int .u8 k.fields] 134)).alloc (.cells o.cells 60)):=by go_grown
 generalize hV:(w.alloc (.cells #[.string k.s,.int .i8 k.cls,.int .u8 k.fields] 134)).alloc (.cells o.cells 60)=V at hW;have hsz:w.heap.size+2=V.heap.size:=by rw [<- hV];simp
 have c0:∀ x:Wd (Below V.heap.size V),x.w.cell? ⟨w.heap.size,0,none⟩=some (.string k.s):=fun x=>by rw [(bcell x.ok).1 _ _ (by omega),<- hV];simp
 have c1:∀ x:Wd (Below V.heap.size V),x.w.cell? ⟨w.heap.size,1,none⟩=some (.int .i8 k.cls):=fun x=>by rw [(bcell x.ok).1 _ _ (by omega),<- hV];simp
 have c2:∀ x:Wd (Below V.heap.size V),x.w.cell? ⟨w.heap.size,2,none⟩=some (.int .u8 k.fields):=fun x=>by rw [(bcell x.ok).1 _ _ (by omega),<- hV];simp
 have d1:∀ x:Wd (Below V.heap.size V),x.w.cell? ⟨w.heap.size+1,1,none⟩=some (.int .u8 o.d):=fun x=>by rw [(bcell x.ok).1 _ _ (by omega),<- hV];simp
 have d2:∀ x:Wd (Below V.heap.size V),x.w.cell? ⟨w.heap.size+1,2,none⟩=some (.int .u8 o.a):=fun x=>by rw [(bcell x.ok).1 _ _ (by omega),<- hV];simp
 have d3:∀ x:Wd (Below V.heap.size V),x.w.cell? ⟨w.heap.size+1,3,none⟩=some (.int .u8 o.b):=fun x=>by rw [(bcell x.ok).1 _ _ (by omega),<- hV];simp
 have d4:∀ x:Wd (Below V.heap.size V),x.w.cell? ⟨w.heap.size+1,4,none⟩=some (.int .i64 o.im):=fun x=>by rw [(bcell x.ok).1 _ _ (by omega),<- hV];simp
 haveI inst:Nonempty (Wd (Below V.heap.size V)):=⟨⟨V,Below.refl _ _⟩⟩
 have HW:Hid (Below w.heap.size w V):=hW;have HV:Hid (_=V):=hV;clear hW hV;have hdef:okF k o=(rH o.d k.D&&rH o.a k.A&&rH o.b (k.B || k.N)&&iH o.im k.I):=rfl;rw [hdef];clear hdef;have aD:=and_D k;have aA:=and_A k;have aB:=and_BN k;have aI:=and_I k
 cases h1:rH o.d k.D
 rotate_left
 cases h2:rH o.a k.A
 rotate_left
 cases h3:rH o.b (k.B || k.N)
 rotate_left
 all_goals
  go_enter Tryz.func257,Tryz.ntmps257;go_wp2
  rw [HV.out];refine wp_region_in (Below V.heap.size V) (by kernel_rfl) (by kernel_rfl) ((Below.refl _ _).drew) ?_
  repeat (first|go_big_quiet_step ((first
   | (go_at_call 302;exact calls_in (Nat.le_refl _) _ (counts_any _ _ _ _ _))
   | (go_at_call 301;exact calls_in (Nat.le_refl _) _ (regHoldsV _ _ _ _ (by assumption)))
   | (go_at_call 303;exact calls_in (Nat.le_refl _) _ ((immHolds _ _ _).mono fun _ _ h=>⟨h.1,by rw [h.2];exact Below.refl _ _⟩)))))
  refine wpQuiet_nil ?_;rintro _ ⟨x,rfl⟩;have hx:=x.ok;go_wp2
  go_ret
  refine ⟨ret_bool (by simp),HW.out.trans (hx.mono HW.out.size)⟩
end Go.Proofs.YtpdaknbmcpmhjaaGreatDoor.Op
