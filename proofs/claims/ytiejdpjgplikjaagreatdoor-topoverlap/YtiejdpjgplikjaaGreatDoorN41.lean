/- Parts RSm RSap RScp RSdp RSbp. -/
import Derived.Test.YtiejdpjgplikjaaGreatDoorChecked
import Derived.Test.YtiejdpjgplikjaaGreatDoorN40
import Derived.ProofKit
import Derived.OpenShut
import Derived.WalkKit
import Derived.WalkSpells
import Derived.WalkLawsBesides
import Derived.Handy
import Derived.ChangeOld
import Derived.Below
import Derived.BigRegion
import Derived.BigQuiet
import Derived.Deep.LoopGhost
import Derived.Deep.QuietTactic
import Derived.Deep.RegionHeld3
import Derived.Deep.DrawnRows
import Derived.Deep.WholeRow
set_option maxRecDepth 20000
set_option maxHeartbeats 4000000
namespace Go.Proofs.YtiejdpjgplikjaaGreatDoor.R7.So
open Go.ChangeShapes Go.WideShapes Go.ChangeAt Go.RowKit
structure Fr (X:Nat->Prop) (w w':World):Prop where
 os:w'.os=w.os
 tape:w'.tape=w.tape
 output:w'.output=w.output
 size:w.heap.size<=w'.heap.size
 block:∀ k,k<w.heap.size->¬ X k->w'.heap[k]?=w.heap[k]?
abbrev Non:Nat->Prop:=fun _=>False
abbrev One (q:Nat):Nat->Prop:=fun k=>k=q
theorem Fr.refl (X:Nat->Prop) (w:World):Fr X w w:=⟨rfl,rfl,rfl,Nat.le_refl _,fun _ _ _=>rfl⟩
theorem Fr.of {X:Nat->Prop} {w w':World} (h:Below w.heap.size w w'):Fr X w w':=⟨h.os,h.tape,h.output,h.size,fun k hk _=>h.block k hk⟩
theorem Fr.trans {X Y:Nat->Prop} {a b c:World} (h:Fr X a b) (g:Fr Y b c) (hY:∀ k,k<a.heap.size->Y k->X k):Fr X a c:=
 ⟨g.os.trans h.os,g.tape.trans h.tape,g.output.trans h.output,Nat.le_trans h.size g.size,fun k hk hx=>(g.block k (Nat.lt_of_lt_of_le hk h.size) fun hy=>hx (hY k hk hy)).trans (h.block k hk hx)⟩
theorem Fr.then {X:Nat->Prop} {a b c:World} (h:Fr X a b) (g:Below b.heap.size b c):Fr X a c:=h.trans (Fr.of (X:=Non) g) fun _ _ hy=>hy.elim
theorem Fr.same {X:Nat->Prop} {a b c:World} (h:Fr X a b) (g:Fr X b c):Fr X a c:=h.trans g fun _ _ hy=>hy
theorem Fr.new {X:Nat->Prop} {q:Nat} {a b c:World} (h:Fr X a b) (g:Fr (One q) b c) (hq:a.heap.size<=q):Fr X a c:=h.trans g fun k hk hy=>by subst hy;omega
theorem Fr.below {X:Nat->Prop} {B:Nat} {w w':World} (h:Fr X w w') (hB:B<=w.heap.size) (hX:∀ k,k<B->¬ X k):Below B w w':=⟨h.os,h.tape,h.output,h.size,fun k hk=>h.block k (Nat.lt_of_lt_of_le hk hB) (hX k hk)⟩
theorem Fr.mono {X Y:Nat->Prop} {w w':World} (h:Fr X w w') (hX:∀ k,k<w.heap.size->X k->Y k):Fr Y w w':=⟨h.os,h.tape,h.output,h.size,fun k hk hy=>h.block k hk fun hx=>hy (hX k hk hx)⟩
theorem Fr.cell {X:Nat->Prop} {w w':World} (h:Fr X w w') {b:Nat} (hb:b<w.heap.size) (hx:¬ X b) (o:Nat):w'.cell? ⟨b,o,none⟩=w.cell? ⟨b,o,none⟩:=World.cell?_of_block (w:=w) (h.block b hb hx)
theorem Fr.frozen {X:Nat->Prop} {w w':World} (h:Fr X w w') {b:Nat} (hb:b<w.heap.size) (hx:¬ X b) (o:Nat):w'.frozen? ⟨b,o,none⟩=w.frozen? ⟨b,o,none⟩:=World.frozen?_of_block (a:=⟨b,o,none⟩) (h.block b hb hx)
theorem Fr.setCell {X:Nat->Prop} {w w':World} (h:Fr X w w') {b:Nat} (hb:w.heap.size<=b\/X b) (o:Nat) (v:Value):Fr X w (w'.setCell ⟨b,o,none⟩ v):=by
 refine ⟨h.os,h.tape,h.output,by rw [World.size_setCell];exact h.size,fun k hk hx=>?_⟩;have hne:k≠b:=by
  rintro rfl;rcases hb with hb|hb
  ·omega
  ·exact hx hb
 rw [Below.heap_setCell _ _ _ _ hne];exact h.block k hk hx
theorem Fr.alloc {X:Nat->Prop} {w w':World} (h:Fr X w w') (o:Obj):Fr X w (w'.alloc o):=h.then ((Below.refl _ _).alloc (Nat.le_refl _) _)
theorem Fr.drewN {X:Nat->Prop} {w w':World} (h:Fr X w w') (n:Nat):Fr X w (w'.drewN n):=⟨h.os,h.tape,h.output,h.size,h.block⟩
theorem Fr.drew {X:Nat->Prop} {w w':World} (h:Fr X w w'):Fr X w w'.drew:=⟨h.os,h.tape,h.output,h.size,h.block⟩
def c3 (a b:Int):Int:=if a<b then -1 else if b<a then 1 else 0
theorem c3_lt {a b:Int} : c3 a b<0↔a<b:=by
 unfold c3
 by_cases h:a<b
 ·rw [if_pos h];omega
 ·rw [if_neg h]
  by_cases h':b<a
  ·rw [if_pos h'];omega
  ·rw [if_neg h'];omega
end Go.Proofs.YtiejdpjgplikjaaGreatDoor.R7.So
namespace Go.Proofs.YtiejdpjgplikjaaGreatDoor.R7.Op
open Go.ChangeShapes Go.WideShapes Go.ChangeAt Go.RowKit
theorem ret_bool {a b:Bool} (h:a=b):Ending.returned (.bool a)=.returned (.bool b):=by rw [h]
theorem ret_int {k:IntKind} {a b:Int} (h:a=b):Ending.returned (.int k a)=.returned (.int k b):=by rw [h]
theorem bcell {B:Nat} {W w1:World} (hb:Below B W w1):(∀ b o,b<B->w1.cell? ⟨b,o,none⟩=W.cell? ⟨b,o,none⟩)/\(∀ b o,b<B->w1.frozen? ⟨b,o,none⟩=W.frozen? ⟨b,o,none⟩):=
 ⟨fun b o h=>hb.cell (p:=⟨b,o,none⟩) h,fun b o h=>hb.frozen (p:=⟨b,o,none⟩) h⟩
structure Wd (G:World->Prop) where
 w:World
 ok:G w
theorem wp_region_in {P:Program} {id:Nat} {Q:Exit->Act->World->Prop} {a:Act} {w:World} {l:List Oper} (G:World->Prop) (hm:P.follows .mixedOrders=true) (hB:Region.lexB .any l.toArray=true)
  (hG:G w.drew) (h:wpQuiet P l.toArray (fun w'=>∃ x:Wd G,w'=x.w) (fun a'=>∀ w',(∃ x:Wd G,w'=x.w)->Q .normal a' w') l a):(Code.region id l.toArray true).wp P Q a w:=
 wp_region_quiet (C:=fun w'=>∃ x:Wd G,w'=x.w) hm hB ⟨⟨_,hG⟩,rfl⟩ (by simpa using h)
theorem calls_in {P:Program} {B:Nat} {W:World} {f:FuncId} {args:Array Value} {v:Value} (hB:B<=W.heap.size) (x:Wd (Below B W)) (c:Calls P f args x.w fun e w'=>e=.returned v/\Below x.w.heap.size x.w w') :
  Calls P f args x.w fun e w''=>e=.returned v/\∃ y:Wd (Below B W),w''=y.w:=
 c.mono fun _ w' h=>⟨h.1,⟨w',x.ok.trans (h.2.mono (Nat.le_trans hB x.ok.size))⟩,rfl⟩
structure At (w:World) (b:Nat) (cs:Array Value):Prop where
 c:∀ (j:Nat) v,cs[j]?=some v->w.cell? ⟨b,j,none⟩=some v
 f:∀ j:Nat,w.frozen? ⟨b,j,none⟩=false
 lt:b<w.heap.size
theorem At.new (w:World) (c:Array Value) (t:TypeId):At (w.alloc (.cells c t)) w.heap.size c:=
 ⟨fun j v h=>by simp [h],fun j=>by simp,by simp⟩
theorem At.below {w w':World} {b B:Nat} {cs:Array Value} (h:At w b cs) (hb:Below B w w') (hB:b<B):At w' b cs:=
 ⟨fun j v e=>by rw [(bcell hb).1 _ _ hB];exact h.c j v e,fun j=>by rw [(bcell hb).2 _ _ hB];exact h.f j,Nat.lt_of_lt_of_le h.lt hb.size⟩
theorem At.alloc {w:World} {b:Nat} {cs:Array Value} (h:At w b cs) (o:Obj):At (w.alloc o) b cs:=
 h.below ((Below.refl _ _).alloc (Nat.le_refl _) o) h.lt
theorem drew_up (w:World):Below w.heap.size w w.drew:=⟨rfl,rfl,rfl,Nat.le_refl _,fun _ _=>rfl⟩
end Go.Proofs.YtiejdpjgplikjaaGreatDoor.R7.Op
namespace Go.Proofs.YtiejdpjgplikjaaGreatDoor.R7.Sp
open Go.ChangeShapes Go.WideShapes Go.ChangeAt Go.RowKit
open YtiejdpjgplikjaaGreatDoor.R7.Op YtiejdpjgplikjaaGreatDoor.R7.So YtiejdpjgplikjaaGreatDoor.R7.Ss
abbrev Pr:=Int×Int
structure Rw (blk n:Nat) (Ok:Pr->Prop) (w0 w:World) (f:Nat->Pr):Prop where
 fr:Fr (One blk) w0 w
 lt:blk<w0.heap.size
 c:∀ k,k<n->w.cell? ⟨blk,k*2,none⟩=some (.int .i64 (f k).1)
 d:∀ k,k<n->w.cell? ⟨blk,k*2+1,none⟩=some (.int .i64 (f k).2)
 z:∀ k,w.frozen? ⟨blk,k,none⟩=false
 ok:∀ k,k<n->Ok (f k)
abbrev set2 (w:World) (b i:Nat) (v:Pr):World:=(w.setCell ⟨b,i*2,none⟩ (.int .i64 v.1)).setCell ⟨b,i*2+1,none⟩ (.int .i64 v.2)
section
variable {blk n:Nat} {Ok:Pr->Prop} {w0 w:World} {f:Nat->Pr}
theorem Rw.drewN (h:Rw blk n Ok w0 w f) (q:Nat):Rw blk n Ok w0 (w.drewN q) f:=⟨h.fr.drewN q,h.lt,h.c,h.d,h.z,h.ok⟩
theorem Rw.drew (h:Rw blk n Ok w0 w f):Rw blk n Ok w0 w.drew f:=⟨h.fr.drew,h.lt,h.c,h.d,h.z,h.ok⟩
theorem Rw.up {w':World} (h:Rw blk n Ok w0 w f) (g:Below w.heap.size w w'):Rw blk n Ok w0 w' f:=by
 have hl:blk<w.heap.size:=Nat.lt_of_lt_of_le h.lt h.fr.size;exact ⟨h.fr.then g,h.lt,fun k hk=>by rw [(bcell g).1 _ _ hl];exact h.c k hk,fun k hk=>by rw [(bcell g).1 _ _ hl];exact h.d k hk,fun k=>by rw [(bcell g).2 _ _ hl];exact h.z k,h.ok⟩
theorem Rw.q (h:Rw blk n Ok w0 w f) (k:Nat) (hk:k<n):∀ xx:Wd (Below w.heap.size w),xx.w.cell? ⟨blk,k*2,none⟩=some (.int .i64 (f k).1):=fun xx=>(h.up xx.ok).c k hk
theorem Rw.r (h:Rw blk n Ok w0 w f) (k:Nat) (hk:k<n):∀ xx:Wd (Below w.heap.size w),xx.w.cell? ⟨blk,k*2+1,none⟩=some (.int .i64 (f k).2):=fun xx=>(h.up xx.ok).d k hk
theorem Rw.put (h:Rw blk n Ok w0 w f) {i:Nat} (hi:i<n) {v:Pr} (hv:Ok v):Rw blk n Ok w0 (set2 w blk i v) (put f i v):=by
 have ne:∀ a b:Nat,a≠b->(⟨blk,a,none⟩:Addr)≠⟨blk,b,none⟩:=fun a b hab e=>by injection e with _ h2;exact hab h2
 refine ⟨(h.fr.setCell (Or.inr rfl) _ _).setCell (Or.inr rfl) _ _,h.lt,fun k hk=>?_,fun k hk=>?_,fun k=>by rw [World.frozen?_setCell,World.frozen?_setCell];exact h.z k,fun k hk=>?_⟩
 ·rw [World.cell?_setCell_other _ _ _ _ (ne _ _ (by omega))]
  by_cases e:k=i
  ·subst e;rw [World.cell?_setCell_same (h:=h.c k hk),put_same]
  ·rw [World.cell?_setCell_other _ _ _ _ (ne _ _ (by omega)),put_other f v e];exact h.c k hk
 ·by_cases e:k=i
  ·subst e;rw [World.cell?_setCell_same (h:=(World.cell?_setCell_other _ _ _ _ (ne _ _ (by omega))).trans (h.d k hk)),put_same]
  ·rw [World.cell?_setCell_other _ _ _ _ (ne _ _ (by omega)),World.cell?_setCell_other _ _ _ _ (ne _ _ (by omega)),put_other f v e];exact h.d k hk
 ·by_cases e:k=i
  ·subst e;rw [put_same];exact hv
  ·rw [put_other f v e];exact h.ok k hk
theorem Rw.swap (h:Rw blk n Ok w0 w f) {i j:Nat} (hi:i<n) (hj:j<n):Rw blk n Ok w0 (set2 (set2 w blk i (f j)) blk j (f i)).drew (swp f i j):=by
 rw [<- swp_put f];exact ((h.put hi (h.ok j hj)).put hj (h.ok i hi)).drew
theorem Rw.c2 (h:Rw blk n Ok w0 w f) {i j:Nat} (hi:i<n) (hj:j<n) (v:Pr) (hv:Ok v):∃ u u',(set2 w blk i v).cell? ⟨blk,j*2,none⟩=some u/\(set2 w blk i v).cell? ⟨blk,j*2+1,none⟩=some u':=
 ⟨_,_,(h.put hi hv).c j hj,(h.put hi hv).d j hj⟩
end
theorem swapRange_any (blk n cap a b m:Nat) (cv:Value) (Ok:Pr->Prop) (f:Nat->Pr) (w0 w:World) (S:Rw blk n Ok w0 w f) (h1:a+m<=b) (h2:b+m<=n) (hn:n<1099511627776) :
  Calls Tryz.prog 179 #[.slice (some ⟨blk,0,none⟩) n cap,.int .i64 a,.int .i64 b,.int .i64 m,cv] w fun e w'=>e=.returned (.tuple #[])/\Rw blk n Ok w0 w' (sr f a b m):=by
 have S0:Aside (Rw blk n Ok w0 w f):=S;clear S;go_enter Tryz.func179,Tryz.ntmps179;go_wp2
 go_loopg [10] m (fun g1 vi wr=>∃ i:Nat,vi=.int .i64 i/\i<=m/\m-i<=g1/\Aside (Rw blk n Ok w0 wr (sr f a b i)))
 case atStart=>exact ⟨0,rfl,by omega,by omega,by rw [sr_zero];exact S0⟩
 case round=>
  clear S0;obtain ⟨i,rfl,him,hg1,S1⟩:=hrel
  by_cases hlt:i<m
  ·have hltz:(i:Int)<(m:Int):=by omega
   obtain ⟨p,hp⟩:∃ p,p=a+i:=⟨_,rfl⟩;obtain ⟨q,hq⟩:∃ q,q=b+i:=⟨_,rfl⟩;have ea:((a:Int)+(i:Int)).toNat = p:=by omega
   have pa:(0:Int)<=(a:Int)+(i:Int):=by omega
   have ba:(a:Int)+(i:Int)<(n:Int):=by omega
   have ra:IntKind.i64.wrap ((a:Int)+(i:Int))=(a:Int)+(i:Int):=by rw [IntKind.wrap_i64];omega
   have eb:((b:Int)+(i:Int)).toNat = q:=by omega
   have pb:(0:Int)<=(b:Int)+(i:Int):=by omega
   have bb:(b:Int)+(i:Int)<(n:Int):=by omega
   have rb:IntKind.i64.wrap ((b:Int)+(i:Int))=(b:Int)+(i:Int):=by rw [IntKind.wrap_i64];omega
   obtain ⟨x,hx⟩:∃ x,x=sr f a b i p:=⟨_,rfl⟩;obtain ⟨y,hy⟩:∃ y,y=sr f a b i q:=⟨_,rfl⟩;have S2:Aside (Rw blk n Ok w0 (set2 (set2 wr blk p y) blk q x).drew (sr f a b (i+1))):=by
    rw [hx,hy,<- sr_step f h1 hlt,hp,hq];exact S1.out.swap (by omega) (by omega)
   have ca:=S1.out.c p (by omega);have da:=S1.out.d p (by omega);have cb:=S1.out.c q (by omega);have db:=S1.out.d q (by omega);have fa:=S1.out.z (p*2);have ga:=S1.out.z (p*2+1);have fb:=S1.out.z (q*2);have gb:=S1.out.z (q*2+1);obtain ⟨u,u2,cc,dc⟩:=S1.out.c2 (i:=p) (j:=q) (by omega) (by omega) y (by rw [hy];exact S1.out.ok _ (by omega));rw [<- hx] at ca da;rw [<- hy] at cb db;clear S1 hx hy hp hq;go_wp2_with fail
   go_region
   clear ca cb cc fa fb da db dc ga gb;generalize (set2 (set2 wr blk p y) blk q x).drew=w3 at S2 ⊢;go_wp2
   go_roundg (m-(i+1))
   case measure=>omega
   case rel=>exact ⟨i+1,by go_num,by omega,by omega,S2⟩
  ·have hltz:¬ (i:Int)<(m:Int):=by omega
   obtain rfl:i=m:=by omega
   go_wp2
   go_end0
   exact ⟨rfl,S1.out⟩
def Cmp (bx blk:Nat) (Ok:Pr->Prop) (key:Pr->Int) (w0:World):Prop:=
 ∀ w',Fr (One blk) w0 w'->∀ x y,Ok x->Ok y->Calls Tryz.prog 120 #[.agg #[.int .i64 (x).1,.int .i64 (x).2],.agg #[.int .i64 (y).1,.int .i64 (y).2],.pointer (some ⟨bx,0,none⟩)] w' fun e w2=>e=.returned (.int .i64 (c3 (key x) (key y)))/\Below w'.heap.size w' w2
theorem Cmp.at {bx blk n:Nat} {Ok:Pr->Prop} {key:Pr->Int} {w0 w:World} {f:Nat->Pr} (h:Cmp bx blk Ok key w0) (S:Rw blk n Ok w0 w f) {x y:Pr} (hx:Ok x) (hy:Ok y) (xx:Wd (Below w.heap.size w)) :
  Calls Tryz.prog 120 #[.agg #[.int .i64 (x).1,.int .i64 (x).2],.agg #[.int .i64 (y).1,.int .i64 (y).2],.pointer (some ⟨bx,0,none⟩)] xx.w fun e w2=>e=.returned (.int .i64 (c3 (key x) (key y)))/\∃ yy:Wd (Below w.heap.size w),w2=yy.w:=calls_in (Nat.le_refl _) xx (h _ (S.up xx.ok).fr x y hx hy)
theorem insertion_any (bx blk n cap a b:Nat) (Ok:Pr->Prop) (key:Pr->Int) (f:Nat->Pr) (w0 w:World) (hC:Cmp bx blk Ok key w0) (S:Rw blk n Ok w0 w f) (h1:a<=b) (h2:b<=n) (hn:n<1099511627776) :
  Calls Tryz.prog 163 #[.slice (some ⟨blk,0,none⟩) n cap,.int .i64 a,.int .i64 b,.func (.func 120) #[] #[.pointer (some ⟨bx,0,none⟩)]] w fun e w'=>e=.returned (.tuple #[])/\∃ g,Rw blk n Ok w0 w' g/\Ps key a b f g/\Srt key g a b:=by
 have S0:Aside (Rw blk n Ok w0 w f):=S;have HC:Aside (Cmp bx blk Ok key w0):=hC;clear S hC;go_enter Tryz.func163,Tryz.ntmps163;go_wp2
 go_loopg [8] (b-a) (fun g1 vi wr=>∃ (i:Nat) (g:Nat->Pr),vi=.int .i64 i/\a<i/\i<=b+1/\b+1-i<=g1+1/\Aside (Rw blk n Ok w0 wr g)/\Aside (Ps key a b f g)/\Aside (Srt key g a i))
 case atStart=>exact ⟨a+1,f,by first|rfl|go_num,by omega,by omega,by omega,S0,Ps.refl _ _ _ _,Srt.few key f (by omega)⟩
 case round=>
  clear S0;obtain ⟨i,g,rfl,hai,hib,hg1,S1,P1,O1⟩:=hrel
  by_cases hlt:i<b
  ·have hltz:(i:Int)<(b:Int):=by omega
   go_wp2
   go_loopg [9] i (fun g2 vj wr2=>∃ (j:Nat) (h:Nat->Pr),vj=.int .i64 j/\a<=j/\j<=i/\j<=g2/\Aside (Rw blk n Ok w0 wr2 h)/\Aside (Ps key a b f h)/\Aside (Ins key h a i j))
   case atStart=>exact ⟨i,g,rfl,by omega,Nat.le_refl _,Nat.le_refl _,S1,P1,Ins.start O1.out⟩
   case round=>
    clear S1 P1 O1;obtain ⟨j,h,rfl,haj,hji,hg2,SJ,PJ,OJ⟩:=hrel
    by_cases hja:a<j
    ·obtain ⟨jp,rfl⟩:∃ q,j=q+1:=⟨j-1,by omega⟩;have zj:((jp+1:Nat):Int)=(jp:Int)+1:=by omega
     have hjaz:(a:Int)<(jp:Int)+1:=by omega
     have hjad:decide ((jp:Int)+1>(a:Int))=true:=decide_eq_true (by omega);obtain ⟨p,hp⟩:∃ p,p=jp+1:=⟨_,rfl⟩;have ea:((jp:Int)+1).toNat = p:=by omega
     have pa:(0:Int)<=(jp:Int)+1:=by omega
     have ba:(jp:Int)+1<(n:Int):=by omega
     have ra:IntKind.i64.wrap ((jp:Int)+1)=(jp:Int)+1:=by rw [IntKind.wrap_i64];omega
     have eb:((jp:Int)).toNat = jp:=by omega
     have pb:(0:Int)<=(jp:Int):=by omega
     have bb:(jp:Int)<(n:Int):=by omega
     have rb:IntKind.i64.wrap ((jp:Int))=(jp:Int):=by rw [IntKind.wrap_i64];omega
     obtain ⟨x,hx⟩:∃ x,x=h p:=⟨_,rfl⟩;obtain ⟨y,hy⟩:∃ y,y=h jp:=⟨_,rfl⟩;have ca:=SJ.out.q p (by omega);have da:=SJ.out.r p (by omega);have cb:=SJ.out.q jp (by omega);have db:=SJ.out.r jp (by omega);rw [<- hx] at ca da;rw [<- hy] at cb db;have hcm:Hid _:=HC.out.at SJ.out (x:=x) (y:=y) (by rw [hx];exact SJ.out.ok p (by omega)) (by rw [hy];exact SJ.out.ok jp (by omega));obtain ⟨cf,hcf⟩:∃ c,c=c3 (key x) (key y):=⟨_,rfl⟩;rw [<- hcf] at hcm
     by_cases hlv:key x<key y
     ·have hd:decide (cf<0)=true:=decide_eq_true (by rw [hcf];exact c3_lt.2 hlv);have hv:cf<0:=of_decide_eq_true hd;have A:Aside (Ins key (swp h p jp) a i jp/\x=h p/\y=h jp/\p=jp+1/\key (h p)<key (h jp)):=by
       refine ⟨?_,hx,hy,hp,by rw [<- hx,<- hy];exact hlv⟩
       have:=OJ.out.step (by omega) hji (by rw [Nat.add_sub_cancel,<- hp,<- hx,<- hy];exact hlv)
       rw [Nat.add_sub_cancel,<- hp] at this;exact this
      clear hx hy hp hcf hlv OJ;go_wp2_with fail
      haveI inst:Nonempty (Wd (Below wr.heap.size wr)):=⟨⟨wr,Below.refl _ _⟩⟩
      refine wp_region_in (Below wr.heap.size wr) (by kernel_rfl) (by kernel_rfl) ((Below.refl _ _).drew) ?_
      repeat (first|go_big_quiet_step ((go_at_call 120;exact hcm.out _)))
      refine wpQuiet_nil ?_;rintro _ ⟨x0,rfl⟩;have S2:Aside (Rw blk n Ok w0 x0.w h):=SJ.out.up x0.ok;clear ca cb da db SJ hcm inst;generalize x0.w=w2 at S2 ⊢;clear x0;obtain ⟨A1,hx,hy,hp,hkk⟩:=A.out;have S3:Aside (Rw blk n Ok w0 (set2 (set2 w2 blk p y) blk jp x).drew (swp h p jp)):=by
       rw [hx,hy];exact S2.out.swap (by omega) (by omega)
      have P3:Aside (Ps key a b f (swp h p jp)):=PJ.out.trans (Ps.swp h hp (by omega) (by omega) hkk);have A2:Aside (Ins key (swp h p jp) a i jp):=A1;have ca:=S2.out.c p (by omega);have da:=S2.out.d p (by omega);have cb:=S2.out.c jp (by omega);have db:=S2.out.d jp (by omega);have fa:=S2.out.z (p*2);have ga:=S2.out.z (p*2+1);have fb:=S2.out.z (jp*2);have gb:=S2.out.z (jp*2+1);obtain ⟨u,u2,cc,dc⟩:=S2.out.c2 (i:=p) (j:=jp) (by omega) (by omega) y (by rw [hy];exact S2.out.ok _ (by omega));rw [<- hx] at ca da;rw [<- hy] at cb db;clear S2 hx hy hp hkk A A1 PJ;go_wp2_with fail
      go_region
      clear ca cb cc fa fb da db dc ga gb;generalize (set2 (set2 w2 blk p y) blk jp x).drew=w3 at S3 ⊢;clear ea eb;go_wp2
      go_roundg jp
      case measure=>omega
      case rel=>exact ⟨jp,swp h p jp,by first|rfl|go_num|(congr 1;omega),by omega,by omega,Nat.le_refl _,S3,P3,A2⟩
     ·have hd:decide (cf<0)=false:=decide_eq_false (by rw [hcf];exact fun hh=>hlv (c3_lt.1 hh));have hv:¬ cf<0:=of_decide_eq_false hd;have A:Aside (Srt key h a (i+1)):=OJ.out.stop hja hji (by rw [Nat.add_sub_cancel,<- hp,<- hx,<- hy];exact hlv);clear hx hy hp hcf hlv OJ;go_wp2_with fail
      haveI inst:Nonempty (Wd (Below wr.heap.size wr)):=⟨⟨wr,Below.refl _ _⟩⟩
      refine wp_region_in (Below wr.heap.size wr) (by kernel_rfl) (by kernel_rfl) ((Below.refl _ _).drew) ?_
      repeat (first|go_big_quiet_step ((go_at_call 120;exact hcm.out _)))
      refine wpQuiet_nil ?_;rintro _ ⟨x0,rfl⟩;have S2:Aside (Rw blk n Ok w0 x0.w h):=SJ.out.up x0.ok;clear ca cb da db SJ hcm inst;generalize x0.w=w2 at S2 ⊢;clear x0;clear ea eb;go_wp2
      go_roundg (b-(i+1))
      case measure=>omega
      case rel=>exact ⟨i+1,h,by go_num,by omega,by omega,by omega,S2,PJ,A⟩
    ·have hjad:decide ((j:Int)>(a:Int))=false:=decide_eq_false (by omega);have hjaz:¬ (a:Int)<(j:Int):=by omega
     have A:Aside (Srt key h a (i+1)):=OJ.out.low (by omega);clear OJ;go_wp2_with fail
     go_quiet (fail)
     have S2:Aside (Rw blk n Ok w0 (wr.drewN nq) h):=SJ.out.drewN nq;clear SJ;generalize wr.drewN nq=w2 at S2 ⊢;clear nq;go_wp2
     go_roundg (b-(i+1))
     case measure=>omega
     case rel=>exact ⟨i+1,h,by go_num,by omega,by omega,by omega,S2,PJ,A⟩
  ·have hltz:¬ (i:Int)<(b:Int):=by omega
   go_wp2
   go_end0
   exact ⟨rfl,g,S1.out,P1.out,O1.out.sub (Nat.le_refl _) (by omega)⟩
theorem symA_any (bx blk n cap a m b:Nat) (Ok:Pr->Prop) (key:Pr->Int) (f:Nat->Pr) (w0 w:World) (hC:Cmp bx blk Ok key w0) (S:Rw blk n Ok w0 w f) (hm:m=a+1) (h1:m<b) (h2:b<=n) (hn:n<1099511627776) (hs:Srt key f m b) :
  Calls Tryz.prog 164 #[.slice (some ⟨blk,0,none⟩) n cap,.int .i64 a,.int .i64 m,.int .i64 b,.func (.func 120) #[] #[.pointer (some ⟨bx,0,none⟩)]] w fun e w'=>e=.returned (.tuple #[])/\∃ g,Rw blk n Ok w0 w' g/\Ps key a b f g/\Srt key g a b:=by
 have S0:Aside (Rw blk n Ok w0 w f):=S;have HC:Aside (Cmp bx blk Ok key w0):=hC;have HS:Aside (Srt key f m b):=hs;clear S hC hs;have e0:(m:Int)-(a:Int)=1:=by omega
 have hm':Aside (m=a+1):=hm;have ham:a<m:=by omega
 clear hm;go_enter Tryz.func164,Tryz.ntmps164;go_wp2
 go_loopg [10,11] n (fun g1 vi vj wr=>∃ (i j:Nat),vi=.int .i64 i/\vj=.int .i64 j/\m<=i/\i<=j/\j<=b/\j-i<=g1/\Aside (Rw blk n Ok w0 wr f)/\Aside (i=m\/key (f (i-1))<key (f a))/\Aside (j=b\/key (f a)<=key (f j)))
 case atStart=>exact ⟨m,b,rfl,rfl,Nat.le_refl _,by omega,Nat.le_refl _,by omega,S0,Or.inl rfl,Or.inl rfl⟩
 case round=>
  clear S0 e0;obtain ⟨i,j,rfl,rfl,hi,hij,hj,hg1,S1,L1,H1⟩:=hrel
  by_cases hlt:i<j
  ·have hltz:(i:Int)<(j:Int):=by omega
   obtain ⟨c,hc⟩:∃ c,c=(i+j) / 2:=⟨_,rfl⟩;have hw:IntKind.i64.wrap ((i:Int)+(j:Int))=(i:Int)+(j:Int):=by rw [IntKind.wrap_i64];omega
   have hcz:((i:Int)+(j:Int)) / 2=(c:Int):=by omega
   have hc1:i<=c:=by omega
   have hc2:c<j:=by omega
   clear hc;have pa:(0:Int)<=(a:Int):=by omega
   have ba:(a:Int)<(n:Int):=by omega
   have pb:(0:Int)<=(c:Int):=by omega
   have bb:(c:Int)<(n:Int):=by omega
   obtain ⟨x,hx⟩:∃ x,x=f c:=⟨_,rfl⟩;obtain ⟨y,hy⟩:∃ y,y=f a:=⟨_,rfl⟩;have ca:=S1.out.q c (by omega);have da:=S1.out.r c (by omega);have cb:=S1.out.q a (by omega);have db:=S1.out.r a (by omega);rw [<- hx] at ca da;rw [<- hy] at cb db;have hcm:Hid _:=Cmp.at HC.out S1.out (x:=x) (y:=y) (by rw [hx];exact S1.out.ok c (by omega)) (by rw [hy];exact S1.out.ok a (by omega));obtain ⟨cf,hcf⟩:∃ q,q=c3 (key x) (key y):=⟨_,rfl⟩;rw [<- hcf] at hcm
   by_cases hlv:key x<key y
   ·have hd:decide (cf<0)=true:=decide_eq_true (by rw [hcf];exact c3_lt.2 hlv);have hv:cf<0:=of_decide_eq_true hd;have A:Aside (c+1=m\/key (f (c+1-1))<key (f a)):=Or.inr (by rw [Nat.add_sub_cancel,<- hx,<- hy];exact hlv);clear hx hy hcf hlv L1;go_wp2_with fail
    haveI inst:Nonempty (Wd (Below wr.heap.size wr)):=⟨⟨wr,Below.refl _ _⟩⟩
    refine wp_region_in (Below wr.heap.size wr) (by kernel_rfl) (by kernel_rfl) ((Below.refl _ _).drew) ?_
    repeat (first|go_big_quiet_step ((go_at_call 120;exact hcm.out _)))
    refine wpQuiet_nil ?_;rintro _ ⟨x0,rfl⟩;have S2:Aside (Rw blk n Ok w0 x0.w f):=S1.out.up x0.ok;clear ca cb da db S1 hcm inst;generalize x0.w=w2 at S2 ⊢;clear x0;go_wp2
    go_roundg (j-(c+1))
    case measure=>omega
    case rel=>exact ⟨c+1,j,by go_num,rfl,by omega,by omega,hj,Nat.le_refl _,S2,A,H1⟩
   ·have hd:decide (cf<0)=false:=decide_eq_false (by rw [hcf];exact fun hh=>hlv (c3_lt.1 hh));have hv:¬ cf<0:=of_decide_eq_false hd;have A:Aside (c=b\/key (f a)<=key (f c)):=Or.inr (by rw [<- hx,<- hy];omega);clear hx hy hcf hlv H1;go_wp2_with fail
    haveI inst:Nonempty (Wd (Below wr.heap.size wr)):=⟨⟨wr,Below.refl _ _⟩⟩
    refine wp_region_in (Below wr.heap.size wr) (by kernel_rfl) (by kernel_rfl) ((Below.refl _ _).drew) ?_
    repeat (first|go_big_quiet_step ((go_at_call 120;exact hcm.out _)))
    refine wpQuiet_nil ?_;rintro _ ⟨x0,rfl⟩;have S2:Aside (Rw blk n Ok w0 x0.w f):=S1.out.up x0.ok;clear ca cb da db S1 hcm inst;generalize x0.w=w2 at S2 ⊢;clear x0;go_wp2
    go_roundg (c-i)
    case measure=>omega
    case rel=>exact ⟨i,c,rfl,rfl,hi,by omega,by omega,Nat.le_refl _,S2,L1,A⟩
  ·have hltz:¬ (i:Int)<(j:Int):=by omega
   obtain rfl:i=j:=by omega
   have A:Aside (Srt key (movR f a (i-1)) a b/\∀ x,a<x->x<=i-1->key (f x)<key (f a)):=by
    have hm:=hm'.out;subst hm;exact ⟨HS.out.movR hi hj L1.out H1.out,less_R HS.out hj L1.out⟩
   clear L1 H1 HS;have zi:(i:Int)-1=((i-1:Nat):Int):=by omega
   have rw1:IntKind.i64.wrap ((i:Int)-1)=((i-1:Nat):Int):=by rw [IntKind.wrap_i64];omega
   obtain ⟨t,ht⟩:∃ t,t=i-1:=⟨_,rfl⟩;rw [<- ht] at zi rw1 A;have hat : a<=t:=by omega
   have htn:t<b:=by omega
   have hit:i=t+1:=by omega
   subst hit;clear ht zi;go_wp2
   go_loopg [13] n (fun g1 vk wr=>∃ (k:Nat),vk=.int .i64 k/\a<=k/\k<=t/\t-k<=g1/\Aside (Rw blk n Ok w0 wr (movR f a k)))
   case atStart=>exact ⟨a,rfl,Nat.le_refl _,hat,by omega,by rw [movR_start];exact S1⟩
   case round=>
    clear S1;obtain ⟨k,rfl,hak,hkt,hg2,SK⟩:=hrel
    by_cases hkl:k<t
    ·have hkz:(k:Int)<(t:Int):=by omega
     obtain ⟨p,hp⟩:∃ p,p=k+1:=⟨_,rfl⟩;have ea:((k:Int)+1).toNat = p:=by omega
     have pa:(0:Int)<=(k:Int)+1:=by omega
     have ba:(k:Int)+1<(n:Int):=by omega
     have ra:IntKind.i64.wrap ((k:Int)+1)=(k:Int)+1:=by rw [IntKind.wrap_i64];omega
     have pb:(0:Int)<=(k:Int):=by omega
     have bb:(k:Int)<(n:Int):=by omega
     obtain ⟨x,hx⟩:∃ x,x=movR f a k k:=⟨_,rfl⟩;obtain ⟨y,hy⟩:∃ y,y=movR f a k p:=⟨_,rfl⟩;have S3:Aside (Rw blk n Ok w0 (set2 (set2 wr blk k y) blk p x).drew (movR f a (k+1))):=by
      rw [hx,hy,<- movR_step f hak,hp];exact SK.out.swap (by omega) (by omega)
     have ca:=SK.out.c k (by omega);have da:=SK.out.d k (by omega);have cb:=SK.out.c p (by omega);have db:=SK.out.d p (by omega);have fa:=SK.out.z (k*2);have ga:=SK.out.z (k*2+1);have fb:=SK.out.z (p*2);have gb:=SK.out.z (p*2+1);obtain ⟨u,u2,cc,dc⟩:=SK.out.c2 (i:=k) (j:=p) (by omega) (by omega) y (by rw [hy];exact SK.out.ok _ (by omega));rw [<- hx] at ca da;rw [<- hy] at cb db;clear SK hx hy hp;go_wp2_with fail
     go_region
     clear ca cb cc fa fb da db dc ga gb;generalize (set2 (set2 wr blk k y) blk p x).drew=w3 at S3 ⊢;clear ea;go_wp2
     go_roundg (t-(k+1))
     case measure=>omega
     case rel=>exact ⟨k+1,by go_num,by omega,by omega,Nat.le_refl _,S3⟩
    ·have hkz:¬ (k:Int)<(t:Int):=by omega
     obtain rfl:k=t:=by omega
     go_wp2
     (try simp only [Exit.inBlock,Exit.then])
     refine bodyPost_ret (results_none rfl _ _ _) rfl ?_;exact ⟨rfl,_,SK.out,Ps.movR f k hak htn A.out.2,A.out.1⟩
theorem symB_any (bx blk n cap a m b:Nat) (Ok:Pr->Prop) (key:Pr->Int) (f:Nat->Pr) (w0 w:World) (hC:Cmp bx blk Ok key w0) (S:Rw blk n Ok w0 w f) (hb:b=m+1) (h1:a+1<m) (h2:b<=n) (hn:n<1099511627776) (hs:Srt key f a m) :
  Calls Tryz.prog 164 #[.slice (some ⟨blk,0,none⟩) n cap,.int .i64 a,.int .i64 m,.int .i64 b,.func (.func 120) #[] #[.pointer (some ⟨bx,0,none⟩)]] w fun e w'=>e=.returned (.tuple #[])/\∃ g,Rw blk n Ok w0 w' g/\Ps key a b f g/\Srt key g a b:=by
 have S0:Aside (Rw blk n Ok w0 w f):=S;have HC:Aside (Cmp bx blk Ok key w0):=hC;have HS:Aside (Srt key f a m):=hs;clear S hC hs;have e0:((m:Int)-(a:Int)==1)=false:=by rw [beq_eq_false_iff_ne];omega
 have e1:(b:Int)-(m:Int)=1:=by omega
 have rwa:IntKind.i64.wrap ((m:Int)-(a:Int))=(m:Int)-(a:Int):=by rw [IntKind.wrap_i64];omega
 have hb':Aside (b=m+1):=hb;have hmn:m<n:=by omega
 clear hb;go_enter Tryz.func164,Tryz.ntmps164;go_wp2
 go_loopg [14,15] n (fun g1 vi vj wr=>∃ (i j:Nat),vi=.int .i64 i/\vj=.int .i64 j/\a<=i/\i<=j/\j<=m/\j-i<=g1/\Aside (Rw blk n Ok w0 wr f)/\Aside (i=a\/key (f (i-1))<=key (f m))/\Aside (j=m\/key (f m)<key (f j)))
 case atStart=>exact ⟨a,m,rfl,rfl,Nat.le_refl _,by omega,Nat.le_refl _,by omega,S0,Or.inl rfl,Or.inl rfl⟩
 case round=>
  clear S0 e0 e1 rwa;obtain ⟨i,j,rfl,rfl,hi,hij,hj,hg1,S1,L1,H1⟩:=hrel
  by_cases hlt:i<j
  ·have hltz:(i:Int)<(j:Int):=by omega
   obtain ⟨c,hc⟩:∃ c,c=(i+j) / 2:=⟨_,rfl⟩;have hw:IntKind.i64.wrap ((i:Int)+(j:Int))=(i:Int)+(j:Int):=by rw [IntKind.wrap_i64];omega
   have hcz:((i:Int)+(j:Int)) / 2=(c:Int):=by omega
   have hc1:i<=c:=by omega
   have hc2:c<j:=by omega
   clear hc;have pa:(0:Int)<=(m:Int):=by omega
   have ba:(m:Int)<(n:Int):=by omega
   have pb:(0:Int)<=(c:Int):=by omega
   have bb:(c:Int)<(n:Int):=by omega
   obtain ⟨x,hx⟩:∃ x,x=f m:=⟨_,rfl⟩;obtain ⟨y,hy⟩:∃ y,y=f c:=⟨_,rfl⟩;have ca:=S1.out.q m (by omega);have da:=S1.out.r m (by omega);have cb:=S1.out.q c (by omega);have db:=S1.out.r c (by omega);rw [<- hx] at ca da;rw [<- hy] at cb db;have hcm:Hid _:=Cmp.at HC.out S1.out (x:=x) (y:=y) (by rw [hx];exact S1.out.ok m (by omega)) (by rw [hy];exact S1.out.ok c (by omega));obtain ⟨cf,hcf⟩:∃ q,q=c3 (key x) (key y):=⟨_,rfl⟩;rw [<- hcf] at hcm
   by_cases hlv:key x<key y
   ·have hd:decide (cf<0)=true:=decide_eq_true (by rw [hcf];exact c3_lt.2 hlv);have hv:cf<0:=of_decide_eq_true hd;have A:Aside (c=m\/key (f m)<key (f c)):=Or.inr (by rw [<- hx,<- hy];exact hlv);clear hx hy hcf hlv H1;go_wp2_with fail
    haveI inst:Nonempty (Wd (Below wr.heap.size wr)):=⟨⟨wr,Below.refl _ _⟩⟩
    refine wp_region_in (Below wr.heap.size wr) (by kernel_rfl) (by kernel_rfl) ((Below.refl _ _).drew) ?_
    repeat (first|go_big_quiet_step ((go_at_call 120;exact hcm.out _)))
    refine wpQuiet_nil ?_;rintro _ ⟨x0,rfl⟩;have S2:Aside (Rw blk n Ok w0 x0.w f):=S1.out.up x0.ok;clear ca cb da db S1 hcm inst;generalize x0.w=w2 at S2 ⊢;clear x0;go_wp2
    go_roundg (c-i)
    case measure=>omega
    case rel=>exact ⟨i,c,rfl,rfl,hi,by omega,by omega,Nat.le_refl _,S2,L1,A⟩
   ·have hd:decide (cf<0)=false:=decide_eq_false (by rw [hcf];exact fun hh=>hlv (c3_lt.1 hh));have hv:¬ cf<0:=of_decide_eq_false hd;have A:Aside (c+1=a\/key (f (c+1-1))<=key (f m)):=Or.inr (by rw [Nat.add_sub_cancel,<- hx,<- hy];omega);clear hx hy hcf hlv L1;go_wp2_with fail
    haveI inst:Nonempty (Wd (Below wr.heap.size wr)):=⟨⟨wr,Below.refl _ _⟩⟩
    refine wp_region_in (Below wr.heap.size wr) (by kernel_rfl) (by kernel_rfl) ((Below.refl _ _).drew) ?_
    repeat (first|go_big_quiet_step ((go_at_call 120;exact hcm.out _)))
    refine wpQuiet_nil ?_;rintro _ ⟨x0,rfl⟩;have S2:Aside (Rw blk n Ok w0 x0.w f):=S1.out.up x0.ok;clear ca cb da db S1 hcm inst;generalize x0.w=w2 at S2 ⊢;clear x0;go_wp2
    go_roundg (j-(c+1))
    case measure=>omega
    case rel=>exact ⟨c+1,j,by go_num,rfl,by omega,by omega,hj,Nat.le_refl _,S2,A,H1⟩
  ·have hltz:¬ (i:Int)<(j:Int):=by omega
   obtain rfl:i=j:=by omega
   have A:Aside (Srt key (movL f m i) a b/\∀ x,i<=x->x<m->key (f m)<key (f x)):=by
    have hb:=hb'.out;subst hb;exact ⟨HS.out.movL hi hj L1.out H1.out,less_L HS.out hi H1.out⟩
   clear L1 H1 HS;go_wp2
   go_loopg [17] n (fun g1 vk wr=>∃ (k:Nat),vk=.int .i64 k/\i<=k/\k<=m/\k-i<=g1/\Aside (Rw blk n Ok w0 wr (movL f m k)))
   case atStart=>exact ⟨m,rfl,hj,Nat.le_refl _,by omega,by rw [movL_start];exact S1⟩
   case round=>
    clear S1;obtain ⟨k,rfl,hik,hkm,hg2,SK⟩:=hrel
    by_cases hkl:i<k
    ·obtain ⟨p,rfl⟩:∃ p,k=p+1:=⟨k-1,by omega⟩;have zk:((p+1:Nat):Int)=(p:Int)+1:=by omega
     have hkz:(p:Int)+1>(i:Int):=by omega
     obtain ⟨k,hk⟩:∃ k,k=p+1:=⟨_,rfl⟩;have ea:((p:Int)+1).toNat = k:=by omega
     have pa:(0:Int)<=(p:Int)+1:=by omega
     have ba:(p:Int)+1<(n:Int):=by omega
     have pb:(0:Int)<=(p:Int):=by omega
     have bb:(p:Int)<(n:Int):=by omega
     have rb:IntKind.i64.wrap ((p:Int))=(p:Int):=by rw [IntKind.wrap_i64];omega
     rw [<- hk] at SK;obtain ⟨x,hx⟩:∃ x,x=movL f m k k:=⟨_,rfl⟩;obtain ⟨y,hy⟩:∃ y,y=movL f m k p:=⟨_,rfl⟩;have S3:Aside (Rw blk n Ok w0 (set2 (set2 wr blk k y) blk p x).drew (movL f m p)):=by
      have e:=movL_step f (m:=m) (k:=k) (by omega) (by omega);rw [hk,Nat.add_sub_cancel,<- hk] at e;rw [hx,hy,<- e];exact SK.out.swap (by omega) (by omega)
     have ca:=SK.out.c k (by omega);have da:=SK.out.d k (by omega);have cb:=SK.out.c p (by omega);have db:=SK.out.d p (by omega);have fa:=SK.out.z (k*2);have ga:=SK.out.z (k*2+1);have fb:=SK.out.z (p*2);have gb:=SK.out.z (p*2+1);obtain ⟨u,u2,cc,dc⟩:=SK.out.c2 (i:=k) (j:=p) (by omega) (by omega) y (by rw [hy];exact SK.out.ok _ (by omega));rw [<- hx] at ca da;rw [<- hy] at cb db;clear SK hx hy hk;go_wp2_with fail
     go_region
     clear ca cb cc fa fb da db dc ga gb;generalize (set2 (set2 wr blk k y) blk p x).drew=w3 at S3 ⊢;clear ea;go_wp2
     go_roundg (p-i)
     case measure=>omega
     case rel=>exact ⟨p,by first|rfl|go_num|(congr 1;omega),by omega,by omega,Nat.le_refl _,S3⟩
    ·have hkz:¬ (k:Int)>(i:Int):=by omega
     obtain rfl:k=i:=by omega
     go_wp2
     (try simp only [Exit.inBlock,Exit.then])
     refine bodyPost_ret (results_none rfl _ _ _) rfl ?_;have P:Ps key a b f (movL f m k):=by
      have:=Ps.movL (key:=key) f (a:=a) (m:=m) k (by omega) (by omega) A.out.2
      rw [<- hb'.out] at this;exact this
     exact ⟨rfl,_,SK.out,P,A.out.1⟩
theorem rotate_any (blk n cap a m b:Nat) (cv:Value) (Ok:Pr->Prop) (f:Nat->Pr) (w0 w:World) (S:Rw blk n Ok w0 w f) (h1:a<m) (h2:m<b) (h3:b<=n) (hn:n<1099511627776) :
  Calls Tryz.prog 175 #[.slice (some ⟨blk,0,none⟩) n cap,.int .i64 a,.int .i64 m,.int .i64 b,cv] w fun e w'=>e=.returned (.tuple #[])/\Rw blk n Ok w0 w' (rot f a m b):=by
 have S0:Aside (Rw blk n Ok w0 w f):=S;have HC:Hid (∀ (x y k:Nat) (g:Nat->Pr) (w':World),Rw blk n Ok w0 w' g->x+k<=y->y+k<=n->Calls Tryz.prog 179 #[.slice (some ⟨blk,0,none⟩) n cap,.int .i64 x,.int .i64 y,.int .i64 k,cv] w' fun e w2=>e=.returned (.tuple #[])/\Rw blk n Ok w0 w2 (sr g x y k)):=
  fun x y k g w' S h1 h2=>swapRange_any blk n cap x y k cv Ok g w0 w' S h1 h2 hn
 clear S;have e0:(m:Int)-(a:Int)=((m-a:Nat):Int):=by omega
 have e1:(b:Int)-(m:Int)=((b-m:Nat):Int):=by omega
 go_enter Tryz.func175,Tryz.ntmps175;go_wp2
 go_loopg [10,11] n (fun g1 vi vj wr=>∃ (i j:Nat) (g:Nat->Pr),vi=.int .i64 i/\vj=.int .i64 j/\0<i/\0<j/\i<=m-a/\j<=b-m/\i+j<=g1/\Aside (Rw blk n Ok w0 wr g)/\Hid (rot g (m-i) m (m+j)=rot f a m b))
 case atStart=>
  refine ⟨m-a,b-m,f,by first|rfl|go_num|(congr 1;omega),by first|rfl|go_num|(congr 1;omega),by omega,by omega,Nat.le_refl _,Nat.le_refl _,by omega,S0,?_⟩;show _=_
  congr 1 <;> omega
 case round=>
  clear S0 e0 e1;obtain ⟨i,j,g,rfl,rfl,i0,j0,i1,j1,hg1,S1,HR⟩:=hrel;have e2:(m:Int)-(i:Int)=((m-i:Nat):Int):=by omega
  by_cases hne:i=j
  ·subst hne;have hz:¬ ((i:Int)≠(i:Int)):=by omega
   go_wp2_with (first|(go_at_call 179;refine Calls.mono (HC.out (m-i) m i g _ S1.out (by omega) (by omega)) ?_;rintro e w1 ⟨rfl,S2⟩;have S3:Aside _:=S2;clear S2 S1))
   go_end0
   refine ⟨rfl,?_⟩;rw [<- HR.out,<- rot_eq g (show i<=m by omega)];exact S3.out
  ·have hz:((i:Int)≠(j:Int)):=by omega
   by_cases hgt:j<i
   ·have hgz:(i:Int)>(j:Int):=by omega
    have e3:(i:Int)-(j:Int)=((i-j:Nat):Int):=by omega
    go_wp2_with (first|(go_at_call 179;refine Calls.mono (HC.out (m-i) m j g _ S1.out (by omega) (by omega)) ?_;rintro e w1 ⟨rfl,S2⟩;have S3:Aside _:=S2;clear S2 S1))
    go_roundg (i-j+j)
    case measure=>omega
    case rel=>exact ⟨i-j,j,_,by first|rfl|go_num|(congr 1;omega),rfl,by omega,j0,by omega,j1,Nat.le_refl _,S3,(show _=_ from (rot_gt g hgt (by omega)).trans HR.out)⟩
   ·have hgz:¬ (i:Int)>(j:Int):=by omega
    have e3:(j:Int)-(i:Int)=((j-i:Nat):Int):=by omega
    have e4:(m:Int)+(j:Int)-(i:Int)=((m+j-i:Nat):Int):=by omega
    go_wp2_with (first|(go_at_call 179;refine Calls.mono (HC.out (m-i) (m+j-i) i g _ S1.out (by omega) (by omega)) ?_;rintro e w1 ⟨rfl,S2⟩;have S3:Aside _:=S2;clear S2 S1))
    go_roundg (i+(j-i))
    case measure=>omega
    case rel=>exact ⟨i,j-i,_,rfl,by first|rfl|go_num|(congr 1;omega),i0,by omega,i1,by omega,Nat.le_refl _,S3,(show _=_ from (rot_lt g (by omega) (by omega)).trans HR.out)⟩
end Go.Proofs.YtiejdpjgplikjaaGreatDoor.R7.Sp
