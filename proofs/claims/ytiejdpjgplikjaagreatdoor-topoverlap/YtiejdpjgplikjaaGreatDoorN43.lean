/- Parts RPu RMe RGa RSq RRq RRo. -/
import Derived.Test.YtiejdpjgplikjaaGreatDoorN42
import Derived.Deep.AppendLies
import Derived.Deep.RegionLaw
import Derived.RegionTactic
import Derived.Deep.OwnRows
import Derived.OwnWalk
set_option maxRecDepth 20000
set_option maxHeartbeats 8000000
namespace Go.Proofs.YtiejdpjgplikjaaGreatDoor.R7.Ro
open YtiejdpjgplikjaaGreatDoor.R7.Sp (Pr)
open YtiejdpjgplikjaaGreatDoor.R7.Ss
def atc (E:Int) (cy:Nat->Int) (c:Nat) (x:Pr):Bool:=decide (x.2*E+cy x.1.toNat = (c:Int))
def rowP (E:Int) (cy:Nat->Int) (ev:List Pr) (c:Nat):List Pr:=ev.filter (atc E cy c)
def evR (L n:Nat):List Pr:=(List.range n).flatMap fun r:Nat=>(List.range L).map fun i:Nat=>((i:Int),(r:Int))
def evC (n L:Nat):List Pr:=(List.range L).flatMap fun i:Nat=>(List.range n).map fun r:Nat=>((i:Int),(r:Int))
theorem evR_succ (L n:Nat):evR L (n+1)=evR L n++(List.range L).map fun i:Nat=>((i:Int),(n:Int)):=by
 unfold evR;rw [List.range_succ,List.flatMap_append];simp
theorem evC_succ (n L:Nat):evC n (L+1)=evC n L++(List.range n).map fun r:Nat=>((L:Int),(r:Int)):=by
 unfold evC;rw [List.range_succ,List.flatMap_append];simp
theorem mem_evR {L n:Nat} {x:Pr} : x∈evR L n↔∃ i r:Nat,i<L/\r<n/\x=((i:Int),(r:Int)):=by
 unfold evR;simp only [List.mem_flatMap,List.mem_range,List.mem_map];constructor
 ·rintro ⟨r,hr,i,hi,rfl⟩;exact ⟨i,r,hi,hr,rfl⟩
 ·rintro ⟨i,r,hi,hr,rfl⟩;exact ⟨r,hr,i,hi,rfl⟩
theorem mem_evC {L n:Nat} {x:Pr} : x∈evC n L↔∃ i r:Nat,i<L/\r<n/\x=((i:Int),(r:Int)):=by
 unfold evC;simp only [List.mem_flatMap,List.mem_range,List.mem_map];constructor
 ·rintro ⟨i,hi,r,hr,rfl⟩;exact ⟨i,r,hi,hr,rfl⟩
 ·rintro ⟨i,r,hi,hr,rfl⟩;exact ⟨i,hi,r,hr,rfl⟩
def ltR (x y:Pr):Prop:=x.2<y.2\/x.2=y.2/\x.1<y.1
def ltC (x y:Pr):Prop:=x.1<y.1\/x.1=y.1/\x.2<y.2
theorem evR_sorted (L n:Nat):(evR L n).Pairwise ltR:=by
 induction n with
 | zero=>exact List.Pairwise.nil
 | succ n ih=>
  rw [evR_succ,List.pairwise_append];refine ⟨ih,?_,fun a ha b hb=>?_⟩
  ·rw [List.pairwise_map];refine List.Pairwise.imp ?_ List.pairwise_lt_range;intro a b h
   right
   exact ⟨rfl,by show (a:Int)<b;omega⟩
  ·obtain ⟨i,r,hi,hr,rfl⟩:=mem_evR.1 ha;obtain ⟨j,-,rfl⟩:=List.mem_map.1 hb
   left
   show (r:Int)<n;omega
theorem evC_sorted (n L:Nat):(evC n L).Pairwise ltC:=by
 induction L with
 | zero=>exact List.Pairwise.nil
 | succ L ih=>
  rw [evC_succ,List.pairwise_append];refine ⟨ih,?_,fun a ha b hb=>?_⟩
  ·rw [List.pairwise_map];refine List.Pairwise.imp ?_ List.pairwise_lt_range;intro a b h
   right
   exact ⟨rfl,by show (a:Int)<b;omega⟩
  ·obtain ⟨i,r,hi,hr,rfl⟩:=mem_evC.1 ha;obtain ⟨j,-,rfl⟩:=List.mem_map.1 hb
   left
   show (i:Int)<L;omega
theorem sub_of:∀ {l2 l1:List Pr},l1.Pairwise ltR->l2.Pairwise ltR->(∀ x∈l1,x∈l2)->l1.Sublist l2
 | [],l1,_,_,h=>by
  cases l1 with
  | nil=>exact List.Sublist.slnil
  | cons a l=>exact absurd (h a (List.mem_cons_self)) (by simp)
 | b::l2,[],_,_,_=>List.nil_sublist _
 | b::l2,a::l1,h1,h2,h=>by
  rw [List.pairwise_cons] at h1 h2
  by_cases e:a=b
  ·subst e;refine (sub_of h1.2 h2.2 fun x hx=>?_).cons_cons a;rcases List.mem_cons.1 (h x (List.mem_cons_of_mem _ hx)) with e|e
   ·subst e;have h3:ltR x x:=h1.1 x hx;unfold ltR at h3;omega
   ·exact e
  ·have ha:a∈l2:=by
    rcases List.mem_cons.1 (h a (List.mem_cons_self)) with e' | e'
    ·exact absurd e' e
    ·exact e'
   have hba:ltR b a:=h2.1 a ha;refine (sub_of (List.pairwise_cons.2 h1) h2.2 fun x hx=>?_).cons b;rcases List.mem_cons.1 (h x hx) with e' | e'
   ·subst e';rcases List.mem_cons.1 hx with e2|e2
    ·exact absurd e2.symm e
    ·have h3:ltR a x:=h1.1 x e2;unfold ltR at h3 hba;omega
   ·exact e'
theorem ext_R {l1 l2:List Pr} (h1:l1.Pairwise ltR) (h2:l2.Pairwise ltR) (h:∀ x,x∈l1↔x∈l2):l1=l2:=by
 have a:=sub_of h1 h2 fun x hx=>(h x).1 hx;have b:=sub_of h2 h1 fun x hx=>(h x).2 hx;exact a.eq_of_length (Nat.le_antisymm a.length_le b.length_le)
theorem rowP_sorted (E:Int) (cy:Nat->Int) (L n c:Nat):(rowP E cy (evR L n) c).Pairwise ltR:=List.Pairwise.filter _ (evR_sorted L n)
theorem sorted_is (E:Int) (cy:Nat->Int) (L n c:Nat) (f g:Nat->Pr) (m:Nat) (hf:(List.range m).map f=rowP E cy (evC n L) c) (hP:Ps (fun x:Pr=>x.2) 0 m f g) (hS:Srt (fun x:Pr=>x.2) g 0 m):(List.range m).map g=rowP E cy (evR L n) c:=by
 have fs:∀ i j,i<j->j<m->ltC (f i) (f j):=by
  have h:((List.range m).map f).Pairwise ltC:=by rw [hf];exact List.Pairwise.filter _ (evC_sorted n L)
  intro i j hij hj;rw [List.pairwise_iff_getElem] at h
  have:=h i j (by simp;omega) (by simp;omega) hij
  simpa using this
 obtain ⟨s,s1,-,s3,s4⟩:=hP.st;refine ext_R ?_ (rowP_sorted _ _ _ _ _) fun x=>?_
 ·rw [List.pairwise_iff_getElem];intro i j hi hj hij;simp only [List.length_map,List.length_range] at hi hj;simp only [List.getElem_map,List.getElem_range];have h1:(g i).2<=(g j).2:=hS i j (Nat.zero_le _) hij hj;rcases Int.lt_or_eq_of_le h1 with h|h
  ·exact .inl h
  ·have h2:=s4 i j hij h;have h3:=fs (s i) (s j) h2 (s1 j (Nat.zero_le _) hj).2;rw [<- s3,<- s3] at h3;refine .inr ⟨h,?_⟩;rcases h3 with h3|h3
   ·exact h3
   ·omega
 ·have hm:x∈(List.range m).map g↔x∈(List.range m).map f:=by
   simp only [List.mem_map,List.mem_range];constructor
   ·rintro ⟨k,hk,rfl⟩;obtain ⟨j,-,hj,e⟩:=hP.pm.fwd k (Nat.zero_le _) hk;exact ⟨j,hj,e.symm⟩
   ·rintro ⟨k,hk,rfl⟩;obtain ⟨j,-,hj,e⟩:=hP.pm.bwd k (Nat.zero_le _) hk;exact ⟨j,hj,e.symm⟩
  rw [hm,hf];unfold rowP;rw [List.mem_filter,List.mem_filter,mem_evC,mem_evR]
theorem rowP_app {E:Int} {cy:Nat->Int} {ev:List Pr} {x:Pr} {c:Nat} (hc:x.2*E+cy x.1.toNat = (c:Int)) (d:Nat):rowP E cy (ev++[x]) d=if d=c then rowP E cy ev c++[x] else rowP E cy ev d:=by
 unfold rowP;rw [List.filter_append]
 by_cases e:d=c
 ·subst e
  have:atc E cy d x=true:=decide_eq_true hc
  rw [if_pos rfl,List.filter_cons,if_pos this];rfl
 ·have:atc E cy d x=false:=decide_eq_false (by omega)
  rw [if_neg e,List.filter_cons,this];simp
theorem rowP_len (E:Int) (cy:Nat->Int) (ev:List Pr) (c:Nat):(rowP E cy ev c).length<=ev.length:=List.length_filter_le _ _
theorem evC_len (n L:Nat):(evC n L).length=L*n:=by
 induction L with
 | zero=>simp [evC]
 | succ n ih=>rw [evC_succ];simp [ih,Nat.add_mul]
end Go.Proofs.YtiejdpjgplikjaaGreatDoor.R7.Ro
namespace Go.Proofs.YtiejdpjgplikjaaGreatDoor.R7.Ro
open Go.ChangeShapes Go.WideShapes Go.ChangeAt Go.RowKit
open YtiejdpjgplikjaaGreatDoor.R7.Op YtiejdpjgplikjaaGreatDoor.R7.So
open YtiejdpjgplikjaaGreatDoor.R7.Sp (Pr)
open YtiejdpjgplikjaaGreatDoor.R7.Ss
theorem info51:(Tryz.prog.info? 51).map (fun i=>(i.zero,i.size,i.bytes))=some (some (.agg #[.int .i64 0,.int .i64 0]),2,16):=by kernel_rfl
def pcells (l:List Pr):List Value:=l.flatMap fun x=>[.int .i64 x.1,.int .i64 x.2]
theorem pcells_app (l m:List Pr):pcells (l++m)=pcells l++pcells m:=by unfold pcells;simp
theorem pcells_at {l:List Pr} {k:Nat} {x:Pr} (h:l[k]?=some x):(pcells l)[k*2]?=some (.int .i64 x.1)/\(pcells l)[k*2+1]?=some (.int .i64 x.2):=by
 induction l generalizing k with
 | nil=>simp at h
 | cons y l ih=>
  have hc:pcells (y::l)=[.int .i64 y.1,.int .i64 y.2]++pcells l:=rfl
  cases k with
  | zero=>
   simp only [List.getElem?_cons_zero,Option.some.injEq] at h;subst h;rw [hc];exact ⟨rfl,rfl⟩
  | succ k=>
   have:=ih (k:=k) (by simpa using h)
   rw [hc,show (k+1)*2=k*2+2 by omega];exact this
def updR (row:Nat->List Pr) (c:Nat) (l:List Pr):Nat->List Pr:=fun d=>if d=c then l else row d
def updV (f:Nat->Value) (c:Nat) (v:Value):Nat->Value:=fun d=>if d=c then v else f d
structure Rs (W:World) (B rb N:Nat) (f:Nat->Value) (row:Nat->List Pr):Prop where
 c:∀ c,c<N->W.cell? ⟨rb,c,none⟩=some (f c)
 z:∀ k,W.frozen? ⟨rb,k,none⟩=false
 o:∀ c,c<N->W.ownsRow B 51 2 (f c) (row c).length (pcells (row c))
 inj:∀ c d,c<N->d<N->(f c).ownBlock≠none->(f c).ownBlock=(f d).ownBlock->c=d
 lt:rb<B
 sz:B<=W.heap.size
abbrev Gx (B rb:Nat):Nat->Prop:=fun k=>k=rb\/B<=k
structure Gt (w1:World) (B rb N:Nat) (W:World) (row:Nat->List Pr):Prop where
 fr:Fr (Gx B rb) w1 W
 rs:∃ f,Rs W B rb N f row
theorem row_fr {X:Nat->Prop} {W W2:World} {B m:Nat} {v:Value} {xs:List Value} (h:W.ownsRow B 51 2 v m xs) (g:Fr X W W2) (hX:∀ k,v.ownBlock=some k->¬ X k):W2.ownsRow B 51 2 v m xs:=by
 have hlt:=h.lt;obtain ⟨h1,⟨h2,h3⟩|⟨q,cap,cur,h2,h3,h4,h5⟩⟩:=h
 ·exact ⟨h1,.inl ⟨h2,h3⟩⟩
 ·have hq:=hlt q (by rw [h2];rfl);exact ⟨h1,.inr ⟨q,cap,cur,h2,h3,(g.block q hq.2 (hX q (by rw [h2];rfl))).trans h4,h5⟩⟩
theorem Rs.up {W W':World} {B rb N:Nat} {f:Nat->Value} {row:Nat->List Pr} (h:Rs W B rb N f row) (g:Below W.heap.size W W'):Rs W' B rb N f row:=by
 have hl:rb<W.heap.size:=Nat.lt_of_lt_of_le h.lt h.sz;exact ⟨fun c hc=>by rw [(bcell g).1 _ _ hl];exact h.c c hc,fun k=>by rw [(bcell g).2 _ _ hl];exact h.z k,fun c hc=>row_fr (h.o c hc) (Fr.of (X:=Non) g) fun _ _ e=>e,h.inj,h.lt,Nat.le_trans h.sz g.size⟩
theorem Gt.up {w1 W W':World} {B rb N:Nat} {row:Nat->List Pr} (h:Gt w1 B rb N W row) (g:Below W.heap.size W W'):Gt w1 B rb N W' row:=by
 obtain ⟨f,hf⟩:=h.rs;exact ⟨h.fr.then g,f,hf.up g⟩
theorem Rs.next {W W' w4:World} {B rb N g cap c:Nat} {f:Nat->Value} {row:Nat->List Pr} {x:Pr} (h:Rs W B rb N f row) (hW:Below W.heap.size W W') (hgrow:W'.grownBy w4 (f c).ownBlock) (hc:c<N)
  (hown:w4.ownsRow B 51 2 (.slice (some ⟨g,0,none⟩) ((row c).length+1) cap) ((row c).length+1) (pcells (row c)++[.int .i64 x.1,.int .i64 x.2])) (hg:(f c).ownBlock=some g\/W.heap.size<=g) :
  Fr (Gx B rb) W w4/\(w4.cell? ⟨rb,c,none⟩=some (f c)/\w4.frozen? ⟨rb,c,none⟩=false/\rb<w4.heap.size) /\
  Rs (w4.setCell ⟨rb,c,none⟩ (.slice (some ⟨g,0,none⟩) ((row c).length+1) cap)) B rb N (updV f c (.slice (some ⟨g,0,none⟩) ((row c).length+1) cap)) (updR row c (row c++[x])):=by
 have h1:=h.up hW;have hl:rb<W'.heap.size:=Nat.lt_of_lt_of_le h1.lt h1.sz;have fr:Fr (fun k=>(f c).ownBlock=some k) W' w4:=⟨hgrow.os,hgrow.tape,hgrow.output,hgrow.size,fun k hk hx=>hgrow.block k hk fun e=>hx e.symm⟩;have nrb:¬ (f c).ownBlock=some rb:=fun e=>by have:=((h.o c hc).lt _ e).1;have:=h.lt;omega
 have frB:Fr (Gx B rb) W w4:=(Fr.of (X:=Gx B rb) hW).trans fr fun k _ e=>.inr ((h.o c hc).lt _ e).1;refine ⟨frB,⟨?_,?_,Nat.lt_of_lt_of_le hl fr.size⟩,?_⟩
 ·rw [fr.cell hl nrb];exact h1.c c hc
 ·rw [fr.frozen hl nrb];exact h1.z c
 ·have g2:Fr (One rb) w4 (w4.setCell ⟨rb,c,none⟩ (.slice (some ⟨g,0,none⟩) ((row c).length+1) cap)):=(Fr.refl (One rb) w4).setCell (.inr rfl) _ _;refine ⟨fun d hd=>?_,fun k=>?_,fun d hd=>?_,fun d e hd he=>?_,h.lt,?_⟩
  ·unfold updV
   by_cases e:d=c
   ·subst e;rw [if_pos rfl];exact World.cell?_setCell_same _ _ _ ((fr.cell hl nrb _).trans (h1.c d hc))
   ·rw [if_neg e,World.cell?_setCell_other _ _ _ _ (by intro e';injection e' with _ e2;exact e e2.symm),fr.cell hl nrb];exact h1.c d hd
  ·rw [World.frozen?_setCell,fr.frozen hl nrb];exact h1.z k
  ·unfold updV updR
   by_cases e:d=c
   ·subst e;rw [if_pos rfl,if_pos rfl,List.length_append,pcells_app];refine row_fr hown g2 fun k hk e'=>?_;have e2:k=rb:=e';have e3:g=k:=by simpa [Value.ownBlock] using hk
    rcases hg with hg|hg
    ·exact nrb (by rw [hg];congr 1;omega)
    ·have:=h.lt;have:=h.sz;omega
   ·rw [if_neg e,if_neg e];refine row_fr (row_fr (h1.o d hd) fr fun k hk e'=>?_) g2 fun k hk e'=>?_
    ·exact e (h.inj d c hd hc (by rw [hk];simp) (by rw [hk];exact e'.symm))
    ·have e2:k=rb:=e'
     have:=((h.o d hd).lt _ hk).1
     have:=h.lt
     omega
  ·unfold updV
   by_cases e1:d=c
   ·by_cases e2:e=c
    ·exact fun _ _=>e1.trans e2.symm
    ·rw [if_pos e1,if_neg e2];intro h2 h3;have h3:some g=(f e).ownBlock:=h3;rcases hg with hg|hg
     ·rw [<- hg] at h3;exact absurd (h.inj c e hc he (by rw [hg];simp) h3) fun h4=>e2 h4.symm
     ·have:=((h.o e he).lt _ h3.symm).2
      omega
   ·by_cases e2:e=c
    ·rw [if_neg e1,if_pos e2];intro h2 h3;have h3:(f d).ownBlock=some g:=h3;rcases hg with hg|hg
     ·rw [<- hg] at h3;exact absurd (h.inj d c hd hc h2 h3) e1
     ·have:=((h.o d hd).lt _ h3).2
      omega
    ·rw [if_neg e1,if_neg e2];exact h.inj d e hd he
  ·rw [World.size_setCell];exact Nat.le_trans h1.sz fr.size
structure Sl (W:World) (v:Value) (l:List Pr):Prop where
 is:∃ a cap,v=.slice a l.length cap/\(0<l.length->∃ b,a=some ⟨b,0,none⟩/\b<W.heap.size/\∀ k x,l[k]?=some x->W.cell? ⟨b,k*2,none⟩=some (.int .i64 x.1)/\W.cell? ⟨b,k*2+1,none⟩=some (.int .i64 x.2))
theorem Sl.up {W W':World} {v:Value} {l:List Pr} (h:Sl W v l) (g:Below W.heap.size W W'):Sl W' v l:=by
 obtain ⟨a,cap,e,h⟩:=h.is;refine ⟨a,cap,e,fun h0=>?_⟩;obtain ⟨b,eb,hb,hc⟩:=h h0;exact ⟨b,eb,Nat.lt_of_lt_of_le hb g.size,fun k x hx=>by rw [(bcell g).1 _ _ hb,(bcell g).1 _ _ hb];exact hc k x hx⟩
structure Rd (W:World) (v:Value) (N:Nat) (row:Nat->List Pr):Prop where
 is:∃ a cap,v=.slice a N cap/\N<=cap/\(0<N->∃ b o,a=some ⟨b,o,none⟩/\b<W.heap.size/\∀ c,c<N->∃ u,W.cell? ⟨b,o+c,none⟩=some u/\Sl W u (row c))
theorem Rd.up {W W':World} {v:Value} {N:Nat} {row:Nat->List Pr} (h:Rd W v N row) (g:Below W.heap.size W W'):Rd W' v N row:=by
 obtain ⟨a,cap,e,hcap,h⟩:=h.is;refine ⟨a,cap,e,hcap,fun h0=>?_⟩;obtain ⟨b,o,eb,hb,hc⟩:=h h0;refine ⟨b,o,eb,Nat.lt_of_lt_of_le hb g.size,fun c hcN=>?_⟩;obtain ⟨u,hu,hs⟩:=hc c hcN;exact ⟨u,by rw [(bcell g).1 _ _ hb];exact hu,hs.up g⟩
theorem Rd.nil (W:World) (row:Nat->List Pr):Rd W (.slice none 0 0) 0 row:=⟨none,0,rfl,Nat.le_refl _,fun h=>by omega⟩
theorem Sl.of {W:World} {B:Nat} {v:Value} {l:List Pr} (h:W.ownsRow B 51 2 v l.length (pcells l)):Sl W v l:=by
 have hlt:=h.lt;obtain ⟨h1,⟨h2,h3⟩|⟨q,cap,cur,h2,h3,h4,h5,h6,h7,h8⟩⟩:=h
 ·exact ⟨none,0,by rw [h2,h3],fun h=>by omega⟩
 ·refine ⟨_,cap,h2,fun h0=>⟨q,rfl,(hlt q (by rw [h2];rfl)).2,fun k x hx=>?_⟩⟩;have hk:k<l.length:=by
   rcases Nat.lt_or_ge k l.length with h|h
   ·exact h
   ·rw [List.getElem?_eq_none h] at hx;cases hx
  obtain ⟨c1,c2⟩:=pcells_at hx;rw [<- h8] at c1 c2;rw [List.getElem?_take,if_pos (by omega)] at c1 c2;rw [cell_of_row W q _ cur 51 (0,0) h4,cell_of_row W q _ cur 51 (0,0) h4];simp only [Array.getElem?_toList] at c1 c2;exact ⟨c1,c2⟩
theorem Rd.of {W:World} {B rb N:Nat} {f:Nat->Value} {row:Nat->List Pr} (h:Rs W B rb N f row):Rd W (.slice (some ⟨rb,0,none⟩) N N) N row:=
 ⟨_,N,rfl,Nat.le_refl _,fun _=>⟨rb,0,rfl,Nat.lt_of_lt_of_le h.lt h.sz,fun c hc=>⟨f c,by rw [Nat.zero_add];exact h.c c hc,Sl.of (h.o c hc)⟩⟩⟩
structure Nl (W:World) (B:Nat) (a:Option Addr) (n:Nat) (g:Nat->Int):Prop where
 is:0<n->∃ b f,a=some ⟨b,f,none⟩/\b<B/\∀ k,k<n->W.cell? ⟨b,f+k,none⟩=some (.int .i64 (g k))
theorem Nl.fr {X:Nat->Prop} {W W':World} {B:Nat} {a:Option Addr} {n:Nat} {g:Nat->Int} (h:Nl W B a n g) (hB:B<=W.heap.size) (hb:Fr X W W') (hX:∀ k,k<B->¬ X k):Nl W' B a n g:=⟨fun h0=>by
 obtain ⟨b,f,e,z,hx⟩:=h.is h0;exact ⟨b,f,e,z,fun k hk=>by rw [hb.cell (Nat.lt_of_lt_of_le z hB) (hX b z)];exact hx k hk⟩⟩
structure Bx (W:World) (B nb pb rv rb n N:Nat) (E S:Int) (pa:Option Addr) (L pc:Nat) (cy:Nat->Int):Prop where
 n:W.cell? ⟨nb,0,none⟩=some (.int .i64 (n:Int))
 e:W.cell? ⟨pb,0,none⟩=some (.int .i64 E)
 l:W.cell? ⟨pb,1,none⟩=some (.slice pa L pc)
 s:W.cell? ⟨pb,2,none⟩=some (.int .i64 S)
 v:W.cell? ⟨rv,0,none⟩=some (.slice (some ⟨rb,0,none⟩) N N)
 cy:Nl W rb pa L cy
 n1:nb<rb
 p1:pb<rb
 v1:rb<rv
 v2:rv<B
 sz:B<=W.heap.size
theorem Bx.fr {W W':World} {B nb pb rv rb n N:Nat} {E S:Int} {pa:Option Addr} {L pc:Nat} {cy:Nat->Int} (h:Bx W B nb pb rv rb n N E S pa L pc cy) (g:Fr (Gx B rb) W W'):Bx W' B nb pb rv rb n N E S pa L pc cy:=by
 have h1:=h.n1;have h2:=h.p1;have h3:=h.v1;have h4:=h.v2;have h5:=h.sz;have k1:¬ Gx B rb nb:=fun e=>by rcases e with e|e <;> omega
 have k2:¬ Gx B rb pb:=fun e=>by rcases e with e|e <;> omega
 have k3:¬ Gx B rb rv:=fun e=>by rcases e with e|e <;> omega
 exact ⟨by rw [g.cell (by omega) k1];exact h.n,by rw [g.cell (by omega) k2];exact h.e,by rw [g.cell (by omega) k2];exact h.l,by rw [g.cell (by omega) k2];exact h.s,by rw [g.cell (by omega) k3];exact h.v,h.cy.fr (by omega) g fun k hk e=>by rcases e with e|e <;> omega,h1,h2,h3,h4,Nat.le_trans h5 g.size⟩
theorem cyc_lt {E S c:Int} {r n:Nat} (hE:1<=E) (hr:r<n) (h0:0<=c) (h1:c<S*E):0<=(r:Int)*E/\0<=(r:Int)*E+c/\(r:Int)*E+c<((n:Int)-1+S)*E:=by
 have a:0<=(r:Int)*E:=Int.mul_nonneg (by omega) (by omega);have b:(r:Int)*E<=((n:Int)-1)*E:=Int.mul_le_mul_of_nonneg_right (by omega) (by omega);have c':((n:Int)-1+S)*E=((n:Int)-1)*E+S*E:=Int.add_mul _ _ _;refine ⟨a,by omega,by omega⟩
theorem mul_small {a b:Int} (a0:0<=a) (a1:a<=1000000) (b0:0<=b) (b1:b<=1000000):0<=a*b/\a*b<=1000000000000:=by
 have h1:=Int.mul_le_mul_of_nonneg_right a1 b0;have h2:=Int.mul_nonneg a0 b0;omega
theorem gather_any (w1:World) (B nb pb rv rb n N:Nat) (E S:Int) (pa:Option Addr) (L pc:Nat) (cy:Nat->Int) (op:Nat) (ev:List Pr) (w:World) (hB:Bx w1 B nb pb rv rb n N E S pa L pc cy) (hG:Gt w1 B rb N w (rowP E cy ev))
  (hE:1<=E) (hE2:E<=65536) (hn:n<=65536) (hop:op<L) (hc0:0<=cy op) (hc1:cy op<S*E) (hc2:cy op<=65536) (hN:(N:Int)=((n:Int)-1+S)*E) (hev:ev.length<=1000000000) :
  Calls Tryz.prog 73 #[.int .i64 (op:Int),.pointer (some ⟨nb,0,none⟩),.pointer (some ⟨pb,0,none⟩),.pointer (some ⟨rv,0,none⟩)] w fun e w'=>e=.returned (.tuple #[])/\Gt w1 B rb N w' (rowP E cy (ev++(List.range n).map fun r:Nat=>((op:Int),(r:Int)))):=by
 have HB:Hid (∀ W,Fr (Gx B rb) w1 W->Bx W B nb pb rv rb n N E S pa L pc cy):=fun W h=>hB.fr h;have HG:Hid (Gt w1 B rb N w (rowP E cy ev)):=hG;obtain ⟨i0,hi,hi2⟩:=Option.map_eq_some_iff.1 info51;simp only [Prod.mk.injEq] at hi2;obtain ⟨hz0,hz1,hz2⟩:=hi2;have HI:Hid (Tryz.prog.info? 51=some i0/\i0.zero=some (.agg #[.int .i64 0,.int .i64 0])/\i0.size=2/\i0.bytes=16):=⟨hi,hz0,hz1,hz2⟩;have HN:Hid ((N:Int)=((n:Int)-1+S)*E):=hN;have hcn:=(HB.out w hG.fr).n;clear hi hz0 hz1 hz2 hG hB hN;have o0:(0:Int)<=(op:Int):=by omega
 have o1:(op:Int)<(L:Int):=by omega
 go_enter Tryz.func73,Tryz.ntmps73;go_wp2_with fail
 clear hcn
 go_loopw [8] (fun v wr=>∃ k:Nat,k<=n/\v=.int .i64 k/\Gt w1 B rb N wr (rowP E cy (ev++(List.range k).map fun r:Nat=>((op:Int),(r:Int))))) (fun v _=>n-(intOf v).toNat)
 case atStart=>exact ⟨0,by omega,rfl,by simpa using HG.out⟩
 case round=>
  rename World=>wr;obtain ⟨k,hk,rfl,hq⟩:=hrel;have HQ:Hid (Gt w1 B rb N wr (rowP E cy (ev++(List.range k).map fun r:Nat=>((op:Int),(r:Int))))):=hq;clear hq HG
  by_cases hlt:k<n
  ·have k1:(k:Int)<(n:Int):=by omega
   obtain ⟨m0,m1,m2⟩:=cyc_lt hE hlt hc0 hc1;rw [<- HN.out] at m2;obtain ⟨-,m3⟩:=mul_small (a:=(k:Int)) (b:=E) (by omega) (by omega) (by omega) (by omega);obtain ⟨c,hc⟩:∃ c:Nat,(c:Int)=(k:Int)*E+cy op:=⟨((k:Int)*E+cy op).toNat,by omega⟩;have HR:Hid (rowP E cy (ev++(List.range (k+1)).map fun r:Nat=>((op:Int),(r:Int)))=updR (rowP E cy (ev++(List.range k).map fun r:Nat=>((op:Int),(r:Int)))) c (rowP E cy (ev++(List.range k).map fun r:Nat=>((op:Int),(r:Int))) c++[((op:Int),(k:Int))])):=by
    rw [List.range_succ,List.map_append,<- List.append_assoc];funext d
    refine (rowP_app (c:=c) ?_ d).trans ?_
    ·show (k:Int)*E+cy (Int.toNat (op:Int))=c;rw [Int.toNat_natCast];exact hc.symm
    ·rfl
   have hlen:(rowP E cy (ev++(List.range k).map fun r:Nat=>((op:Int),(r:Int))) c).length<=2000000000:=by
    refine Nat.le_trans (rowP_len _ _ _ _) ?_
    simp;omega
   generalize rowP E cy (ev++(List.range k).map fun r:Nat=>((op:Int),(r:Int)))=row at *;have hcN:c<N:=by omega
   have bx:=HB.out wr HQ.out.fr;obtain ⟨pb2,pf2,rfl,pl,px⟩:=bx.cy.is (by omega);have x1:=bx.e;have x2:=bx.l;have x3:=px op hop;have hw1:IntKind.i64.wrap ((k:Int)*E)=(k:Int)*E:=by rw [IntKind.wrap_i64];omega
   have hw2:IntKind.i64.wrap ((k:Int)*E+cy op)=(k:Int)*E+cy op:=by rw [IntKind.wrap_i64];omega
   rw [<- hc] at hw2;have hce:(k:Int)*E+cy op=(c:Int):=hc.symm;clear hc;generalize cy op=z at *;generalize hm:(k:Int)*E=m at *;clear bx px;go_wp2_with fail
   go_quiet (fail)
   have HQ2:Hid (Gt w1 B rb N (wr.drewN nq) row):=HQ.out.up ⟨rfl,rfl,rfl,Nat.le_refl _,fun _ _=>rfl⟩;clear HQ x1 x2 x3;generalize wr.drewN nq=X at *;have bx:=HB.out X HQ2.out.fr;have y1:=bx.v;have l1:=bx.v1;have l2:=bx.v2;have l3:=bx.sz;obtain ⟨f,hf⟩:=HQ2.out.rs;have HF:Hid (Rs X B rb N f row):=hf;have y2:=hf.c c hcN;have HO:Hid (X.ownsRow B 51 2 (f c) (row c).length (pcells (row c))):=hf.o c hcN;have c0:(0:Int)<=(c:Int):=by omega
   have c1:(c:Int)<(N:Int):=by omega
   have HV:Hid (∀ W,Fr (Gx B rb) X W->W.cell? ⟨rv,0,none⟩=some (.slice (some ⟨rb,0,none⟩) N N)):=fun W h=>(HB.out W (HQ2.out.fr.same h)).v;clear hf bx;have HP:Hid (∀ W' w4 g cap,Below X.heap.size X W'->W'.grownBy w4 (f c).ownBlock->w4.ownsRow B 51 2 (.slice (some ⟨g,0,none⟩) ((row c).length+1) cap) ((row c).length+1) (pcells (row c)++[.int .i64 (op:Int),.int .i64 (k:Int)])->((f c).ownBlock=some g\/X.heap.size<=g)->(w4.cell? ⟨rv,0,none⟩=some (.slice (some ⟨rb,0,none⟩) N N))/\(w4.cell? ⟨rb,c,none⟩=some (f c)/\w4.frozen? ⟨rb,c,none⟩=false/\rb<w4.heap.size)/\Gt w1 B rb N (w4.setCell ⟨rb,c,none⟩ (.slice (some ⟨g,0,none⟩) ((row c).length+1) cap)) (updR row c (row c++[((op:Int),(k:Int))]))):=by
    intro W' w4 g cap h1 h2 h3 h4;obtain ⟨a1,a2,a3⟩:=HF.out.next (x:=((op:Int),(k:Int))) h1 h2 hcN h3 h4;exact ⟨HV.out w4 a1,a2,(HQ2.out.fr.same a1).setCell (.inr (.inl rfl)) _ _,_,a3⟩
   clear HQ2 HF HV hlt;generalize f c=v at *;generalize hrl:row c=rl at *;go_wp2_with fail
   have e1:X.drew.heap.size=X.heap.size:=rfl;have l4:rb<X.heap.size:=by omega
   have l5:rv<X.heap.size:=by omega
   have l6:¬ rb=X.heap.size:=by omega
   have l7:¬ rv=X.heap.size:=by omega
   have l8:¬ X.heap.size=rb:=by omega
   have l9:¬ X.heap.size=rv:=by omega
   go_region_law
    ((refine step_append_lies _ (by rfl) _ _ 49 (by rfl) B 51 i0 (.agg #[.int .i64 0,.int .i64 0]) 2 16 Tryz.underlying49 HI.out.1 HI.out.2.1 HI.out.2.2.1 HI.out.2.2.2 rfl (by decide) v rl.length (pcells rl) (by rfl) (HO.out.drew.alloc _) ⟨X.heap.size,0,none⟩ 1 1 [.int .i64 (op:Int),.int .i64 (k:Int)] (by rfl) rfl (World.news_of_block (heap_alloc_new X.drew (.cells #[.int .i64 (op:Int),.int .i64 (k:Int)] 51))) (by simp [Value.oneCell']) (by decide) (by unfold maxLen;omega) (by omega) (by simp;omega) _ rfl ?_;intro g cap w4 hown hgrow hg hlt3;have HP3:Hid _:=HP.out _ w4 g cap ((drew_up X).alloc (Nat.le_refl _) _) hgrow hown (hg.imp id fun e=>by rw [e];simp);have z0:=HP3.out.1;have z1:=HP3.out.2.1.1;have z2:=HP3.out.2.1.2.1;have z3:=HP3.out.2.1.2.2;clear hown hgrow hg hlt3))
   all_goals
    go_wp2_with fail
    go_roundw
    case rel=>exact ⟨k+1,by omega,by go_num,by rw [HR.out];exact HP3.out.2.2⟩
    case measure=>simp [intOf];omega
  ·obtain rfl:k=n:=by omega
   have k1:¬ (k:Int)<(k:Int):=by omega
   go_wp2_with fail
   go_end0
   exact ⟨rfl,HQ.out⟩
theorem compare_any (x y:Int) (w:World):Calls Tryz.prog 121 #[.int .i64 x,.int .i64 y] w fun e w'=>e=.returned (.int .i64 (c3 x y))/\w'=w:=by
 unfold c3
 by_cases h:x<y
 ·rw [if_pos h];go_enter Tryz.func121,Tryz.ntmps121;go_wp2
  go_ret
  exact ⟨rfl,rfl⟩
 ·rw [if_neg h]
  by_cases h':y<x
  ·rw [if_pos h'];go_enter Tryz.func121,Tryz.ntmps121;go_wp2
   go_ret
   exact ⟨rfl,rfl⟩
  ·rw [if_neg h'];go_enter Tryz.func121,Tryz.ntmps121;go_wp2
   go_ret
   exact ⟨rfl,rfl⟩
theorem meas_any (x:Pr) (w:World):Calls Tryz.prog 75 #[.agg #[.int .i64 x.1,.int .i64 x.2]] w fun e w'=>e=.returned (.int .i64 x.2)/\Below w.heap.size w w':=by
 go_enter Tryz.func75,Tryz.ntmps75;go_wp2
 go_ret
 exact ⟨rfl,(Below.refl _ _).alloc (Nat.le_refl _) _⟩
theorem cmpP_any {bx blk:Nat} {w0:World} (hb:w0.cell? ⟨bx,0,none⟩=some (.func (.func 75) #[] #[])) (hlt:bx<w0.heap.size) (hne:bx≠blk):Sp.Cmp bx blk (fun _=>True) (fun x=>x.2) w0:=by
 intro w' hF x y _ _;have cb:w'.cell? ⟨bx,0,none⟩=some (.func (.func 75) #[] #[]):=by rw [hF.cell hlt hne];exact hb
 have hl:bx<w'.heap.size:=Nat.lt_of_lt_of_le hlt hF.size;have HA:Hid (At ((w'.alloc (.cells #[.int .i64 x.1,.int .i64 x.2] 51)).alloc (.cells #[.int .i64 y.1,.int .i64 y.2] 51)) w'.heap.size #[.int .i64 x.1,.int .i64 x.2]):=(At.new w' _ 51).alloc _;have HC:Hid (At ((w'.alloc (.cells #[.int .i64 x.1,.int .i64 x.2] 51)).alloc (.cells #[.int .i64 y.1,.int .i64 y.2] 51)) (w'.heap.size+1) #[.int .i64 y.1,.int .i64 y.2]):=by
  have:=At.new (w'.alloc (.cells #[.int .i64 x.1,.int .i64 x.2] 51)) #[.int .i64 y.1,.int .i64 y.2] 51
  rwa [World.size_alloc] at this
 have HU:Hid (Below w'.heap.size w' ((w'.alloc (.cells #[.int .i64 x.1,.int .i64 x.2] 51)).alloc (.cells #[.int .i64 y.1,.int .i64 y.2] 51))):=((Below.refl _ _).alloc (Nat.le_refl _) _).alloc (by simp) _;clear hF hb hlt hne;go_enter Tryz.func120,Tryz.ntmps120;go_wp2_with fail
 generalize (w'.alloc (.cells #[.int .i64 x.1,.int .i64 x.2] 51)).alloc (.cells #[.int .i64 y.1,.int .i64 y.2] 51)=V at *;have q0:∀ xx:Wd (Below V.heap.size V),xx.w.cell? ⟨bx,0,none⟩=some (.func (.func 75) #[] #[]):=fun xx=>by
  rw [(bcell xx.ok).1 _ _ (Nat.lt_of_lt_of_le hl HU.out.size),(bcell HU.out).1 _ _ hl];exact cb
 have q1:∀ xx:Wd (Below V.heap.size V),xx.w.cell? ⟨w'.heap.size,0,none⟩=some (.int .i64 x.1):=fun xx=>(HA.out.below xx.ok HA.out.lt).c 0 _ rfl;have q2:∀ xx:Wd (Below V.heap.size V),xx.w.cell? ⟨w'.heap.size,1,none⟩=some (.int .i64 x.2):=fun xx=>(HA.out.below xx.ok HA.out.lt).c 1 _ rfl;have q3:∀ xx:Wd (Below V.heap.size V),xx.w.cell? ⟨w'.heap.size+1,0,none⟩=some (.int .i64 y.1):=fun xx=>(HC.out.below xx.ok HC.out.lt).c 0 _ rfl;have q4:∀ xx:Wd (Below V.heap.size V),xx.w.cell? ⟨w'.heap.size+1,1,none⟩=some (.int .i64 y.2):=fun xx=>(HC.out.below xx.ok HC.out.lt).c 1 _ rfl
 haveI inst:Nonempty (Wd (Below V.heap.size V)):=⟨⟨V,Below.refl _ _⟩⟩
 refine wp_region_in (Below V.heap.size V) (by kernel_rfl) (by kernel_rfl) ((Below.refl _ _).drew) ?_
 repeat (first|go_big_quiet_step ((first
  | (go_at_call 75;first|exact calls_in (Nat.le_refl _) _ (meas_any x _)|exact calls_in (Nat.le_refl _) _ (meas_any y _))
  | (go_at_call 121;exact calls_in (Nat.le_refl _) _ ((compare_any _ _ _).mono fun _ _ h=>⟨h.1,by rw [h.2];exact Below.refl _ _⟩)))))
 refine wpQuiet_nil ?_;rintro _ ⟨x0,rfl⟩;have hx:=x0.ok;clear q0 q1 q2 q3 q4;go_wp2
 go_ret
 exact ⟨rfl,HU.out.trans (hx.mono HU.out.size)⟩
theorem stable_nil (cv:Value) (w:World):Calls Tryz.prog 151 #[.slice none 0 0,.int .i64 0,cv] w fun e w'=>e=.returned (.tuple #[])/\w'=w:=by
 have H:Hid (∀ W:World,Calls Tryz.prog 163 #[.slice none 0 0,.int .i64 0,.int .i64 0,cv] W fun e w'=>e=.returned (.tuple #[])/\w'=W):=fun W=>by
  go_enter Tryz.func163,Tryz.ntmps163;go_wp2
  go_loopw [8] (fun v wr=>v=.int .i64 1/\wr=W) (fun _ _=>0)
  case atStart=>exact ⟨rfl,rfl⟩
  case round=>
   obtain ⟨rfl,rfl⟩:=hrel;go_wp2
   go_end0
   exact ⟨rfl,rfl⟩
 go_enter Tryz.func151,Tryz.ntmps151;go_wp2
 go_loopw [7,8] (fun v u wr=>v=.int .i64 0/\u=.int .i64 20/\wr=w) (fun _ _ _=>0)
 case atStart=>exact ⟨rfl,rfl,rfl⟩
 case round=>
  obtain ⟨rfl,rfl,rfl⟩:=hrel;go_wp2_with (first|(go_at_call 163;refine (H.out _).mono ?_;rintro e w1 ⟨rfl,rfl⟩))
  go_loopw [6] (fun v wr=>v=.int .i64 20/\wr=w1) (fun _ _=>0)
  case atStart=>exact ⟨rfl,rfl⟩
  case round=>
   obtain ⟨rfl,rfl⟩:=hrel;go_wp2
   go_end0
   exact ⟨rfl,rfl⟩
theorem sort_nil (cv:Value) (w:World):Calls Tryz.prog 119 #[.slice none 0 0,cv] w fun e w'=>e=.returned (.tuple #[])/\w'=w:=by
 go_enter Tryz.func119,Tryz.ntmps119;go_wp2_with (first|(go_at_call 151;refine (stable_nil _ _).mono ?_;rintro e w1 ⟨rfl,rfl⟩))
 go_end0
 exact ⟨rfl,rfl⟩
theorem rise_nil (w:World):Calls Tryz.prog 74 #[.slice none 0 0,.func (.func 75) #[] #[]] w fun e w'=>e=.returned (.tuple #[])/\Below w.heap.size w w':=by
 go_enter Tryz.func74,Tryz.ntmps74;go_wp2_with (first|(go_at_call 119;refine (sort_nil _ _).mono ?_;rintro e w1 ⟨rfl,rfl⟩))
 go_end0
 exact ⟨rfl,(Below.refl _ _).alloc (Nat.le_refl _) _⟩
theorem rise_any (blk n cap:Nat) (f:Nat->Pr) (w:World) (S:Sp.Rw blk n (fun _=>True) w w f) (hn:n<1099511627776) :
  Calls Tryz.prog 74 #[.slice (some ⟨blk,0,none⟩) n cap,.func (.func 75) #[] #[]] w fun e w'=>e=.returned (.tuple #[])/\∃ g,Sp.Rw blk n (fun _=>True) w w' g/\Ps (fun x:Pr=>x.2) 0 n f g/\Srt (fun x:Pr=>x.2) g 0 n:=by
 have hl:=S.lt;have up:Below w.heap.size w (w.alloc (.cells #[.func (.func 75) #[] #[]] 124)):=(Below.refl _ _).alloc (Nat.le_refl _) _;have S1:Sp.Rw blk n (fun _=>True) (w.alloc (.cells #[.func (.func 75) #[] #[]] 124)) (w.alloc (.cells #[.func (.func 75) #[] #[]] 124)) f:=by
  have:=S.up up
  exact ⟨Fr.refl _ _,by simp;omega,this.c,this.d,this.z,this.ok⟩
 have HS:Hid _:=Sp.sort_any w.heap.size blk n cap (fun _=>True) (fun x=>x.2) f (w.alloc (.cells #[.func (.func 75) #[] #[]] 124)) (w.alloc (.cells #[.func (.func 75) #[] #[]] 124)) (cmpP_any (by simp) (by simp) (by omega)) S1 hn;have HF:Hid (∀ W g,Sp.Rw blk n (fun _=>True) (w.alloc (.cells #[.func (.func 75) #[] #[]] 124)) W g->Sp.Rw blk n (fun _=>True) w W g):=fun W g h=>⟨(Fr.of up).same h.fr,hl,h.c,h.d,h.z,h.ok⟩;clear S S1 up;go_enter Tryz.func74,Tryz.ntmps74;go_wp2_with (first|(go_at_call 119;refine Calls.mono HS.out ?_;rintro e w1 ⟨rfl,g,hS,hP,hO⟩;have HR:Hid (Sp.Rw blk n (fun _=>True) w w1 g/\Ps (fun x:Pr=>x.2) 0 n f g/\Srt (fun x:Pr=>x.2) g 0 n):=⟨HF.out _ _ hS,hP,hO⟩;clear hS hP hO HS HF))
 go_end0
 exact ⟨rfl,g,HR.out⟩
def Sw (W:World) (B:Nat) (v:Value) (l:List Pr):Prop:=
 (v=.slice none 0 0/\l=[])\/∃ g cap,v=.slice (some ⟨g,0,none⟩) l.length cap/\B<=g/\g<W.heap.size/\(∀ k,W.frozen? ⟨g,k,none⟩=false)/\∀ k x,l[k]?=some x->W.cell? ⟨g,k*2,none⟩=some (.int .i64 x.1)/\W.cell? ⟨g,k*2+1,none⟩=some (.int .i64 x.2)
theorem Sw.sl {W:World} {B:Nat} {v:Value} {l:List Pr} (h:Sw W B v l):Sl W v l:=by
 rcases h with ⟨rfl,rfl⟩|⟨g,cap,rfl,h1,h2,h3,h4⟩
 ·exact ⟨none,0,rfl,fun h=>by simp at h⟩
 ·exact ⟨_,cap,rfl,fun _=>⟨g,rfl,h2,h4⟩⟩
theorem Sw.of {W:World} {B:Nat} {v:Value} {l:List Pr} (h:W.ownsRow B 51 2 v l.length (pcells l)):Sw W B v l:=by
 have hs:=Sl.of h;have hlt:=h.lt;obtain ⟨h1,⟨h2,h3⟩|⟨q,cap,cur,h2,h3,h4,h5,h6,h7,h8⟩⟩:=h
 ·exact .inl ⟨h2,List.eq_nil_of_length_eq_zero h3⟩
 ·refine .inr ⟨q,cap,h2,h3,(hlt q (by rw [h2];rfl)).2,fun k=>by simp [World.frozen?,h4],fun k x hx=>?_⟩;have hk:k<l.length:=by
   rcases Nat.lt_or_ge k l.length with h|h
   ·exact h
   ·rw [List.getElem?_eq_none h] at hx;cases hx
  obtain ⟨a,c,e,hi⟩:=hs.is;obtain ⟨b,eb,-,hc⟩:=hi (by omega);rw [h2,eb] at e
  injection e with e _ _
  injection e with e
  injection e with e
  subst e;exact hc k x hx
theorem Sw.fr {X:Nat->Prop} {W W':World} {B:Nat} {v:Value} {l:List Pr} (h:Sw W B v l) (g:Fr X W W') (hX:∀ k,v.ownBlock=some k->¬ X k):Sw W' B v l:=by
 rcases h with h|⟨q,cap,rfl,h1,h2,h3,h4⟩
 ·exact .inl h
 ·have hx:=hX q rfl;exact .inr ⟨q,cap,rfl,h1,Nat.lt_of_lt_of_le h2 g.size,fun k=>by rw [g.frozen h2 hx];exact h3 k,fun k x e=>by rw [g.cell h2 hx,g.cell h2 hx];exact h4 k x e⟩
structure Rq (w1 W:World) (B rb N:Nat) (f:Nat->Value) (row:Nat->List Pr):Prop where
 fr:Fr (Gx B rb) w1 W
 c:∀ c,c<N->W.cell? ⟨rb,c,none⟩=some (f c)
 s:∀ c,c<N->Sw W B (f c) (row c)
 inj:∀ c d,c<N->d<N->(f c).ownBlock≠none->(f c).ownBlock=(f d).ownBlock->c=d
 lt:rb<B
 sz:B<=W.heap.size
theorem Rq.of {w1 W:World} {B rb N:Nat} {row:Nat->List Pr} (h:Gt w1 B rb N W row):∃ f,Rq w1 W B rb N f row:=by
 obtain ⟨f,hf⟩:=h.rs;exact ⟨f,h.fr,hf.c,fun c hc=>Sw.of (hf.o c hc),hf.inj,hf.lt,hf.sz⟩
theorem Rq.rd {w1 W:World} {B rb N:Nat} {f:Nat->Value} {row:Nat->List Pr} (h:Rq w1 W B rb N f row):Rd W (.slice (some ⟨rb,0,none⟩) N N) N row:=
 ⟨_,N,rfl,Nat.le_refl _,fun _=>⟨rb,0,rfl,Nat.lt_of_lt_of_le h.lt h.sz,fun c hc=>⟨f c,by rw [Nat.zero_add];exact h.c c hc,(h.s c hc).sl⟩⟩⟩
theorem Rq.step {w1 W W':World} {B rb N c:Nat} {f:Nat->Value} {row:Nat->List Pr} {l:List Pr} (h:Rq w1 W B rb N f row) (hc:c<N) (g:Fr (fun k=>(f c).ownBlock=some k) W W') (hs:Sw W' B (f c) l):Rq w1 W' B rb N f (updR row c l):=by
 have hl:rb<W.heap.size:=Nat.lt_of_lt_of_le h.lt h.sz;have ob:∀ k,(f c).ownBlock=some k->B<=k:=fun k e=>by
  rcases h.s c hc with ⟨e1,-⟩|⟨q,cap,e1,h1,-⟩
  ·rw [e1] at e;cases e
  ·rw [e1] at e;have e:some q=some k:=e
   injection e with e
   omega
 have nrb:¬ (f c).ownBlock=some rb:=fun e=>by have:=ob _ e;have:=h.lt;omega
 refine ⟨h.fr.trans g fun k _ e=>.inr (ob k e),fun d hd=>by rw [g.cell hl nrb];exact h.c d hd,fun d hd=>?_,h.inj,h.lt,Nat.le_trans h.sz g.size⟩;unfold updR
 by_cases e:d=c
 ·subst e;rw [if_pos rfl];exact hs
 ·rw [if_neg e];exact (h.s d hd).fr g fun k hk e'=>e (h.inj d c hd hc (by rw [hk];simp) (by rw [hk];exact e'.symm))
theorem map_getD (l:List Pr):(List.range l.length).map (fun k=>l.getD k (0,0))=l:=by
 refine List.ext_getElem (by simp) fun i h1 h2=>?_;simp at h1
 simp [h1]
theorem Sw.rw {W:World} {B g cap:Nat} {l:List Pr} (h:Sw W B (.slice (some ⟨g,0,none⟩) l.length cap) l):B<=g/\Sp.Rw g l.length (fun _=>True) W W (fun k=>l.getD k (0,0)):=by
 rcases h with ⟨e,-⟩|⟨q,cap,e,h1,h2,h3,h4⟩
 ·cases e
 ·injection e with e _ _
  injection e with e
  injection e with e
  subst e;have hx:∀ k,k<l.length->l[k]?=some (l.getD k (0,0)):=fun k hk=>by simp [hk]
  exact ⟨h1,Fr.refl _ _,h2,fun k hk=>(h4 k _ (hx k hk)).1,fun k hk=>(h4 k _ (hx k hk)).2,h3,fun _ _=>trivial⟩
theorem Sw.back {w W:World} {B g m cap:Nat} {f:Nat->Pr} (hB:B<=g) (h:Sp.Rw g m (fun _=>True) w W f):Sw W B (.slice (some ⟨g,0,none⟩) m cap) ((List.range m).map f):=by
 refine .inr ⟨g,cap,by simp,hB,Nat.lt_of_lt_of_le h.lt h.fr.size,h.z,fun k x hx=>?_⟩;have hk:k<m:=by
  rcases Nat.lt_or_ge k m with h|h
  ·exact h
  ·rw [List.getElem?_eq_none (by simpa using h)] at hx;cases hx
 have e:f k=x:=by simpa [hk] using hx
 subst e;exact ⟨h.c k hk,h.d k hk⟩
theorem rise_row {w1 W:World} {B rb N c:Nat} {f:Nat->Value} {row:Nat->List Pr} {E:Int} {cy:Nat->Int} {L n:Nat} (h:Rq w1 W B rb N f row) (hc:c<N) (hr:row c=rowP E cy (evC n L) c) (hn:L*n<1099511627776) :
  Calls Tryz.prog 74 #[f c,.func (.func 75) #[] #[]] W fun e w'=>e=.returned (.tuple #[])/\Rq w1 w' B rb N f (updR row c (rowP E cy (evR L n) c)):=by
 have hs:=h.s c hc;have hs0:=hs;rcases hs with ⟨e1,e2⟩|⟨g,cap,e1,-⟩
 ·have e3:rowP E cy (evR L n) c=[]:=by
   have:=sorted_is E cy L n c (fun _=>(0,0)) (fun _=>(0,0)) 0 (by rw [<- hr,e2];rfl) (Ps.refl _ _ _ _) (Srt.few _ _ (by omega))
   exact this.symm
  rw [e1];refine (rise_nil W).mono fun e w' h'=>⟨h'.1,?_⟩;rw [e3];refine h.step hc (Fr.of h'.2) ?_;rw [e1];exact .inl ⟨rfl,rfl⟩
 ·rw [e1] at hs0 ⊢;obtain ⟨hB,hw⟩:=hs0.rw;have hlen:(row c).length<1099511627776:=by
   rw [hr]
   have:=rowP_len E cy (evC n L) c
   rw [evC_len] at this;omega
  refine (rise_any g (row c).length cap _ W hw hlen).mono fun e w' h'=>⟨h'.1,?_⟩;obtain ⟨-,f2,h2,h3,h4⟩:=h';have h5:=sorted_is E cy L n c _ f2 (row c).length (by rw [map_getD,hr]) h3 h4;rw [<- h5];refine h.step hc ?_ ?_
  ·rw [e1];exact h2.fr.mono fun k _ e=>by have e:k=g:=e;subst e;rfl
  ·rw [e1];exact Sw.back hB h2
theorem info49:(Tryz.prog.info? 49).map (fun i=>(i.zero,i.size,i.bytes))=some (some (.slice none 0 0),1,24):=by kernel_rfl
structure Fair (L:Nat) (E S:Int) (cy:Nat->Int):Prop where
 e1:1<=E
 e2:E<=65536
 l:L<=64
 c0:∀ i,i<L->0<=cy i
 c1:∀ i,i<L->cy i<=65536
 c2:∀ i,i<L->cy i<S*E
 s1:1<=S
 s2:S<=65537
theorem rs_new (W:World) (N B:Nat) (hB:W.heap.size<B) {W':World} (hW:Below (W.heap.size+1) (W.alloc (.cells (madeCells #[.slice none 0 0] N) 49)) W') (hs:B<=W'.heap.size):Rs W' B W.heap.size N (fun _=>.slice none 0 0) (fun _=>[]):=by
 have h:=At.new W (madeCells #[.slice none 0 0] N) 49;refine ⟨fun c hc=>?_,fun k=>?_,fun c _=>World.ownsRow_nil _ _ _ _,fun _ _ _ _ h=>absurd rfl h,hB,hs⟩
 ·rw [(bcell hW).1 _ _ (by omega)];exact h.c c (.slice none 0 0) (by rw [<- Array.getElem?_toList,toList_madeCells_one];simp [hc])
 ·rw [(bcell hW).2 _ _ (by omega)];exact h.f k
theorem rowsOf_none (E S:Int) (pa:Option Addr) (L pc:Nat) (w:World) :
  Calls Tryz.prog 38 #[.agg #[.int .i64 E,.slice pa L pc,.int .i64 S],.int .i64 0] w fun e w'=>e=.returned (.slice none 0 0)/\Below w.heap.size w w':=by
 go_enter Tryz.func38,Tryz.ntmps38;go_wp2
 go_ret
 exact ⟨rfl,((Below.refl _ _).alloc (Nat.le_refl _) _).alloc (by simp) _⟩
theorem rowsOf_some (E S:Int) (pa:Option Addr) (L pc:Nat) (cy:Nat->Int) (n N:Nat) (w:World) (hA:Nl w w.heap.size pa L cy) (hF:Fair L E S cy) (hn0:0<n) (hn:n<=65536) (hN:(N:Int)=((n:Int)-1+S)*E) (hN2:N<=65536) :
  Calls Tryz.prog 38 #[.agg #[.int .i64 E,.slice pa L pc,.int .i64 S],.int .i64 (n:Int)] w fun e w'=>∃ v,e=.returned v/\Below w.heap.size w w'/\Rd w' v N (rowP E cy (evR L n)):=by
 obtain ⟨i0,hi,hi2⟩:=Option.map_eq_some_iff.1 info49;simp only [Prod.mk.injEq] at hi2;obtain ⟨hz0,hz1,hz2⟩:=hi2;have HI:Hid (Tryz.prog.info? 49=some i0/\i0.zero=some (.slice none 0 0)/\i0.size=1/\i0.bytes=24):=⟨hi,hz0,hz1,hz2⟩;have HF:Hid (Fair L E S cy/\(N:Int)=((n:Int)-1+S)*E):=⟨hF,hN⟩;have HA:Hid (Nl w w.heap.size pa L cy):=hA;obtain ⟨e1,e2,hL,-,-,-,s1,s2⟩:=hF;have HS:Hid (w.heap.size+1+1=((w.alloc (.cells #[.int .i64 E,.slice pa L pc,.int .i64 S] 29)).alloc (.cells #[.int .i64 (n:Int)] 3)).heap.size):=show _=_ by simp
 have HU:Hid (Below w.heap.size w ((((w.alloc (.cells #[.int .i64 E,.slice pa L pc,.int .i64 S] 29)).alloc (.cells #[.int .i64 (n:Int)] 3)).alloc (.cells (madeCells #[.slice none 0 0] N) 49)).alloc (.cells #[.slice (some ⟨w.heap.size+1+1,0,none⟩) N N] 42))):=((((Below.refl _ _).alloc (Nat.le_refl _) _).alloc (by simp) _).alloc (by simp;omega) _).alloc (by simp;omega) _;have HG:Hid (Gt ((((w.alloc (.cells #[.int .i64 E,.slice pa L pc,.int .i64 S] 29)).alloc (.cells #[.int .i64 (n:Int)] 3)).alloc (.cells (madeCells #[.slice none 0 0] N) 49)).alloc (.cells #[.slice (some ⟨w.heap.size+1+1,0,none⟩) N N] 42)) (w.heap.size+1+1+1+1) (w.heap.size+1+1) N ((((w.alloc (.cells #[.int .i64 E,.slice pa L pc,.int .i64 S] 29)).alloc (.cells #[.int .i64 (n:Int)] 3)).alloc (.cells (madeCells #[.slice none 0 0] N) 49)).alloc (.cells #[.slice (some ⟨w.heap.size+1+1,0,none⟩) N N] 42)) (rowP E cy (evC n 0))):=by
  refine ⟨Fr.refl _ _,fun _=>.slice none 0 0,?_⟩;rw [HS.out];exact rs_new _ N _ (by omega) ((Below.refl _ _).alloc (by simp) _) (by simp)
 have HB:Hid (Bx ((((w.alloc (.cells #[.int .i64 E,.slice pa L pc,.int .i64 S] 29)).alloc (.cells #[.int .i64 (n:Int)] 3)).alloc (.cells (madeCells #[.slice none 0 0] N) 49)).alloc (.cells #[.slice (some ⟨w.heap.size+1+1,0,none⟩) N N] 42)) (w.heap.size+1+1+1+1) (w.heap.size+1) w.heap.size (w.heap.size+1+1+1) (w.heap.size+1+1) n N E S pa L pc cy):=by
  refine ⟨?_,?_,?_,?_,?_,⟨fun h0=>?_⟩,by omega,by omega,by omega,by omega,by simp⟩
  ·have h:=((At.new (w.alloc (.cells #[.int .i64 E,.slice pa L pc,.int .i64 S] 29)) #[.int .i64 (n:Int)] 3).alloc (.cells (madeCells #[.slice none 0 0] N) 49)).alloc (.cells #[.slice (some ⟨w.heap.size+1+1,0,none⟩) N N] 42);rw [World.size_alloc] at h;exact h.c 0 _ rfl
  ·exact ((((At.new w #[.int .i64 E,.slice pa L pc,.int .i64 S] 29).alloc _).alloc _).alloc _).c 0 _ rfl
  ·exact ((((At.new w #[.int .i64 E,.slice pa L pc,.int .i64 S] 29).alloc _).alloc _).alloc _).c 1 _ rfl
  ·exact ((((At.new w #[.int .i64 E,.slice pa L pc,.int .i64 S] 29).alloc _).alloc _).alloc _).c 2 _ rfl
  ·have h:=At.new (((w.alloc (.cells #[.int .i64 E,.slice pa L pc,.int .i64 S] 29)).alloc (.cells #[.int .i64 (n:Int)] 3)).alloc (.cells (madeCells #[.slice none 0 0] N) 49)) #[.slice (some ⟨w.heap.size+1+1,0,none⟩) N N] 42;rw [World.size_alloc,World.size_alloc,World.size_alloc] at h;exact h.c 0 _ rfl
  ·obtain ⟨b,f,e,hb,hx⟩:=HA.out.is h0;exact ⟨b,f,e,by omega,fun k hk=>by rw [(bcell HU.out).1 _ _ hb];exact hx k hk⟩
 clear HS;obtain ⟨hm1,hm2⟩:=mul_small (a:=(n:Int)-1+S) (b:=E) (by omega) (by omega) (by omega) (by omega);have hmm:((n:Int)-1+S)*E=(N:Int):=hN.symm;have hw2:IntKind.i64.wrap ((n:Int)-1+S)=(n:Int)-1+S:=by rw [IntKind.wrap_i64];omega
 have hz:((n:Int)==0)=false:=by simp;omega
 have hzz:¬ (n:Int)=0:=by omega
 have hN0:(N:Int)<=65536:=by omega
 rw [<- hN] at hm1 hm2;clear hi hz0 hz1 hz2 hA hN;go_enter Tryz.func38,Tryz.ntmps38;go_upto_region 4 with (first
  | (at_make;refine wpList_make_row _ rfl _ _ 42 rfl 49 i0 (.slice none 0 0) Tryz.underlying42 HI.out.1 HI.out.2.1 HI.out.2.2.1 rfl .i64 .i64 N rfl rfl (by rw [HI.out.2.2.2];omega) (by omega) ?_))
 generalize ((((w.alloc (.cells #[.int .i64 E,.slice pa L pc,.int .i64 S] 29)).alloc (.cells #[.int .i64 (n:Int)] 3)).alloc (.cells (madeCells #[.slice none 0 0] N) 49)).alloc (.cells #[.slice (some ⟨w.heap.size+1+1,0,none⟩) N N] 42))=W1 at *;obtain ⟨rb,hrb⟩:∃ rb,rb=w.heap.size+1+1:=⟨_,rfl⟩;rw [<- hrb] at HB HG ⊢;have HR:Hid (rb=w.heap.size+1+1):=hrb;have x1:=HB.out.l;have x2:=HB.out.v;clear HI HA hrb;go_wp2_with fail
 clear x1 x2
 go_loopw [25] (fun v wr=>∃ k:Nat,k<=L/\v=.int .i64 k/\Gt W1 (rb+1+1) rb N wr (rowP E cy (evC n k))) (fun v _=>L-(intOf v).toNat)
 case atStart=>exact ⟨0,by omega,rfl,HG.out⟩
 case round=>
  rename World=>wr;obtain ⟨k,hk,rfl,hq⟩:=hrel;have HQ:Hid (Gt W1 (rb+1+1) rb N wr (rowP E cy (evC n k))):=hq;clear hq HG
  by_cases hlt:k<L
  ·have k1:(k:Int)<(L:Int):=by omega
   have HX:Hid _:=gather_any W1 (rb+1+1) (w.heap.size+1) w.heap.size (rb+1) rb n N E S pa L pc cy k (evC n k) wr HB.out HQ.out e1 e2 hn hlt (HF.out.1.c0 k hlt) (HF.out.1.c2 k hlt) (HF.out.1.c1 k hlt) HF.out.2 (by rw [evC_len];have:=Nat.mul_le_mul (show k<=64 by omega) hn;omega);clear HQ;go_wp2_with (first|(go_at_call 73;refine Calls.mono HX.out ?_;rintro e w2 ⟨rfl,hq⟩;have HQ:Hid (Gt W1 (rb+1+1) rb N w2 (rowP E cy (evC n (k+1)))):=(by rw [evC_succ];exact hq);clear hq HX))
   go_roundw
   case rel=>exact ⟨k+1,by omega,by go_num,HQ.out⟩
   case measure=>simp [intOf];omega
  ·obtain rfl:k=L:=by omega
   have k1:¬ (k:Int)<(k:Int):=by omega
   have x2:=(HB.out.fr HQ.out.fr).v;obtain ⟨f,hf⟩:=Rq.of HQ.out;have HQ2:Hid (Rq W1 wr (rb+1+1) rb N f (rowP E cy (evC n k))):=hf;clear hf HQ;go_wp2_with fail
   clear x2
   go_loopw [34] (fun v wz=>∃ j:Nat,j<=N/\v=.int .i64 j/\Rq W1 wz (rb+1+1) rb N f (fun c=>if c<j then rowP E cy (evR k n) c else rowP E cy (evC n k) c)) (fun v _=>N-(intOf v).toNat)
   case atStart=>exact ⟨0,by omega,rfl,HQ2.out⟩
   case round=>
    rename World=>wz;obtain ⟨j,hj,rfl,hq⟩:=hrel;have HQ:Hid (Rq W1 wz (rb+1+1) rb N f (fun c=>if c<j then rowP E cy (evR k n) c else rowP E cy (evC n k) c)):=hq;clear hq HQ2
    by_cases hjn:j<N
    ·have j0:(0:Int)<=(j:Int):=by omega
     have j1:(j:Int)<(N:Int):=by omega
     have x3:=HQ.out.c j hjn;have HX:Hid _:=rise_row (E:=E) (cy:=cy) (L:=k) (n:=n) HQ.out hjn (by rw [if_neg (by omega)]) (by have:=Nat.mul_le_mul hL hn;omega);clear HQ;go_wp2_with (first|(go_at_call 74;refine Calls.mono HX.out ?_;rintro e w2 ⟨rfl,hq⟩;have HQ:Hid (Rq W1 w2 (rb+1+1) rb N f (updR (fun c=>if c<j then rowP E cy (evR k n) c else rowP E cy (evC n k) c) j (rowP E cy (evR k n) j))):=hq;clear hq HX x3))
     go_roundw
     case rel=>exact ⟨j+1,by omega,by go_num,by
      have e:updR (fun c=>if c<j then rowP E cy (evR k n) c else rowP E cy (evC n k) c) j (rowP E cy (evR k n) j)=fun c=>if c<j+1 then rowP E cy (evR k n) c else rowP E cy (evC n k) c:=by
       funext c
       unfold updR
       by_cases h:c=j
       ·subst h;rw [if_pos rfl,if_pos (by omega)]
       ·rw [if_neg h];show (if c<j then _ else _)=_
        by_cases h2:c<j
        ·rw [if_pos h2,if_pos (by omega)]
        ·rw [if_neg h2,if_neg (by omega)]
      rw [<- e];exact HQ.out⟩
     case measure=>simp [intOf];omega
    ·obtain rfl:j=N:=by omega
     have j1:¬ (j:Int)<(j:Int):=by omega
     have x2:=(HB.out.fr HQ.out.fr).v;go_wp2_with fail
     go_ret
     refine ⟨_,rfl,?_,?_⟩
     ·have h:=HQ.out.fr.below (B:=w.heap.size) (Nat.le_trans HU.out.size (Nat.le_refl _)) fun q hq e=>by
       have:=HR.out
       rcases e with e|e <;> omega
      exact HU.out.trans h
     ·obtain ⟨a,cap,e3,h3,h4⟩:=HQ.out.rd.is;refine ⟨a,cap,e3,h3,fun h0=>?_⟩;obtain ⟨b,o,eb,hb,hc⟩:=h4 h0;refine ⟨b,o,eb,hb,fun c hcj=>?_⟩
      have:=hc c hcj
      rw [if_pos hcj] at this;exact this
end Go.Proofs.YtiejdpjgplikjaaGreatDoor.R7.Ro
