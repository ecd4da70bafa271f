/- Parts Gd Ge Gf. -/
import Derived.Test.YtpdaknbmcpmhjaaGreatDoorN32
import Derived.RangeFuncNested
import Derived.RangeFuncBound
import Derived.RangeFuncCalls
import Derived.RangeFuncLeaves
import Derived.RangeFuncBox
import Derived.Shelf.Abstract
import Derived.Shelf.RegionOpen
import Derived.WalkKit
import Derived.OwnWalkIn
import Derived.TacticsInMore
import Derived.LoopNIn
import Derived.LoopIn
set_option maxRecDepth 100000
set_option maxHeartbeats 4000000
namespace Go.Proofs.YtpdaknbmcpmhjaaGreatDoor.Lw
open Go.ChangeShapes Go.WideShapes Go.ChangeAt Go.RowKit
open YtpdaknbmcpmhjaaGreatDoor.Op YtpdaknbmcpmhjaaGreatDoor.So
abbrev Pr:=Int×Int
theorem info170:(Tryz.prog.info? 170).map (fun i=>(i.zero,i.size,i.bytes))=some (some (.agg #[.int .i64 0,.int .i64 0]),2,16):=by kernel_rfl
def pcells (l:List Pr):List Value:=l.flatMap fun x=>[.int .i64 x.1,.int .i64 x.2]
theorem pcells_app (l m:List Pr):pcells (l++m)=pcells l++pcells m:=by unfold pcells;simp
theorem pcells_at {l:List Pr} {k:Nat} {x:Pr} (h:l[k]?=some x):(pcells l)[k*2]?=some (.int .i64 x.1)/\(pcells l)[k*2+1]?=some (.int .i64 x.2):=by
 induction l generalizing k with
 | nil=>simp at h
 | cons y l ih=>
  have hc:pcells (y::l)=[.int .i64 y.1,.int .i64 y.2]++pcells l:=rfl
  cases k with
  | zero=>
   simp only [List.getElem?_cons_zero,Option.some.injEq] at h;subst h;rw [hc];exact ⟨rfl,rfl⟩
  | succ k=>
   have:=ih (k:=k) (by simpa using h)
   rw [hc,show (k+1)*2=k*2+2 by omega];exact this
def updR (row:Nat->List Pr) (c:Nat) (l:List Pr):Nat->List Pr:=fun d=>if d=c then l else row d
def updV (f:Nat->Value) (c:Nat) (v:Value):Nat->Value:=fun d=>if d=c then v else f d
structure Rs (W:World) (B rb N:Nat) (f:Nat->Value) (row:Nat->List Pr):Prop where
 c:∀ c,c<N->W.cell? ⟨rb,c,none⟩=some (f c)
 z:∀ k,W.frozen? ⟨rb,k,none⟩=false
 o:∀ c,c<N->W.ownsRow B 170 2 (f c) (row c).length (pcells (row c))
 inj:∀ c d,c<N->d<N->(f c).ownBlock≠none->(f c).ownBlock=(f d).ownBlock->c=d
 lt:rb<B
 sz:B<=W.heap.size
abbrev Gx (B rb:Nat):Nat->Prop:=fun k=>k=rb\/B<=k
structure Gt (w1:World) (B rb N:Nat) (W:World) (row:Nat->List Pr):Prop where
 fr:Fr (Gx B rb) w1 W
 rs:∃ f,Rs W B rb N f row
theorem Rs.up {W W':World} {B rb N:Nat} {f:Nat->Value} {row:Nat->List Pr} (h:Rs W B rb N f row) (g:Below W.heap.size W W'):Rs W' B rb N f row:=by
 have hl:rb<W.heap.size:=Nat.lt_of_lt_of_le h.lt h.sz;exact ⟨fun c hc=>by rw [(bcell g).1 _ _ hl];exact h.c c hc,fun k=>by rw [(bcell g).2 _ _ hl];exact h.z k,fun c hc=>Bu.row_fr (h.o c hc) (Fr.of (X:=Non) g) fun _ _ e=>e,h.inj,h.lt,Nat.le_trans h.sz g.size⟩
theorem Gt.up {w1 W W':World} {B rb N:Nat} {row:Nat->List Pr} (h:Gt w1 B rb N W row) (g:Below W.heap.size W W'):Gt w1 B rb N W' row:=by
 obtain ⟨f,hf⟩:=h.rs;exact ⟨h.fr.then g,f,hf.up g⟩
theorem Rs.next {W W' w4:World} {B rb N g cap c:Nat} {f:Nat->Value} {row:Nat->List Pr} {x:Pr} (h:Rs W B rb N f row) (hW:Below W.heap.size W W') (hgrow:W'.grownBy w4 (f c).ownBlock) (hc:c<N)
  (hown:w4.ownsRow B 170 2 (.slice (some ⟨g,0,none⟩) ((row c).length+1) cap) ((row c).length+1) (pcells (row c)++[.int .i64 x.1,.int .i64 x.2])) (hg:(f c).ownBlock=some g\/W.heap.size<=g) :
  Fr (Gx B rb) W w4/\(w4.cell? ⟨rb,c,none⟩=some (f c)/\w4.frozen? ⟨rb,c,none⟩=false/\rb<w4.heap.size) /\
  Rs (w4.setCell ⟨rb,c,none⟩ (.slice (some ⟨g,0,none⟩) ((row c).length+1) cap)) B rb N (updV f c (.slice (some ⟨g,0,none⟩) ((row c).length+1) cap)) (updR row c (row c++[x])):=by
 have h1:=h.up hW;have hl:rb<W'.heap.size:=Nat.lt_of_lt_of_le h1.lt h1.sz;have fr:Fr (fun k=>(f c).ownBlock=some k) W' w4:=⟨hgrow.os,hgrow.tape,hgrow.output,hgrow.size,fun k hk hx=>hgrow.block k hk fun e=>hx e.symm⟩;have nrb:¬ (f c).ownBlock=some rb:=fun e=>by have:=((h.o c hc).lt _ e).1;have:=h.lt;omega
 have frB:Fr (Gx B rb) W w4:=(Fr.of (X:=Gx B rb) hW).trans fr fun k _ e=>.inr ((h.o c hc).lt _ e).1;refine ⟨frB,⟨?_,?_,Nat.lt_of_lt_of_le hl fr.size⟩,?_⟩
 ·rw [fr.cell hl nrb];exact h1.c c hc
 ·rw [fr.frozen hl nrb];exact h1.z c
 ·have g2:Fr (One rb) w4 (w4.setCell ⟨rb,c,none⟩ (.slice (some ⟨g,0,none⟩) ((row c).length+1) cap)):=(Fr.refl (One rb) w4).setCell (.inr rfl) _ _;refine ⟨fun d hd=>?_,fun k=>?_,fun d hd=>?_,fun d e hd he=>?_,h.lt,?_⟩
  ·unfold updV
   by_cases e:d=c
   ·subst e;rw [if_pos rfl];exact World.cell?_setCell_same _ _ _ ((fr.cell hl nrb _).trans (h1.c d hc))
   ·rw [if_neg e,World.cell?_setCell_other _ _ _ _ (by intro e';injection e' with _ e2;exact e e2.symm),fr.cell hl nrb];exact h1.c d hd
  ·rw [World.frozen?_setCell,fr.frozen hl nrb];exact h1.z k
  ·unfold updV updR
   by_cases e:d=c
   ·subst e;rw [if_pos rfl,if_pos rfl,List.length_append,pcells_app];refine Bu.row_fr hown g2 fun k hk e'=>?_;have e2:k=rb:=e';have e3:g=k:=by simpa [Value.ownBlock] using hk
    rcases hg with hg|hg
    ·exact nrb (by rw [hg];congr 1;omega)
    ·have:=h.lt;have:=h.sz;omega
   ·rw [if_neg e,if_neg e];refine Bu.row_fr (Bu.row_fr (h1.o d hd) fr fun k hk e'=>?_) g2 fun k hk e'=>?_
    ·exact e (h.inj d c hd hc (by rw [hk];simp) (by rw [hk];exact e'.symm))
    ·have e2:k=rb:=e'
     have:=((h.o d hd).lt _ hk).1
     have:=h.lt
     omega
  ·unfold updV
   by_cases e1:d=c
   ·by_cases e2:e=c
    ·exact fun _ _=>e1.trans e2.symm
    ·rw [if_pos e1,if_neg e2];intro h2 h3;have h3:some g=(f e).ownBlock:=h3;rcases hg with hg|hg
     ·rw [<- hg] at h3;exact absurd (h.inj c e hc he (by rw [hg];simp) h3) fun h4=>e2 h4.symm
     ·have:=((h.o e he).lt _ h3.symm).2
      omega
   ·by_cases e2:e=c
    ·rw [if_neg e1,if_pos e2];intro h2 h3;have h3:(f d).ownBlock=some g:=h3;rcases hg with hg|hg
     ·rw [<- hg] at h3;exact absurd (h.inj d c hd hc h2 h3) e1
     ·have:=((h.o d hd).lt _ h3).2
      omega
    ·rw [if_neg e1,if_neg e2];exact h.inj d e hd he
  ·rw [World.size_setCell];exact Nat.le_trans h1.sz fr.size
structure Sl (W:World) (v:Value) (l:List Pr):Prop where
 is:∃ a cap,v=.slice a l.length cap/\(0<l.length->∃ b,a=some ⟨b,0,none⟩/\b<W.heap.size/\∀ k x,l[k]?=some x->W.cell? ⟨b,k*2,none⟩=some (.int .i64 x.1)/\W.cell? ⟨b,k*2+1,none⟩=some (.int .i64 x.2))
theorem Sl.up {W W':World} {v:Value} {l:List Pr} (h:Sl W v l) (g:Below W.heap.size W W'):Sl W' v l:=by
 obtain ⟨a,cap,e,h⟩:=h.is;refine ⟨a,cap,e,fun h0=>?_⟩;obtain ⟨b,eb,hb,hc⟩:=h h0;exact ⟨b,eb,Nat.lt_of_lt_of_le hb g.size,fun k x hx=>by rw [(bcell g).1 _ _ hb,(bcell g).1 _ _ hb];exact hc k x hx⟩
structure Rd (W:World) (v:Value) (N:Nat) (row:Nat->List Pr):Prop where
 is:∃ a cap,v=.slice a N cap/\N<=cap/\(0<N->∃ b o,a=some ⟨b,o,none⟩/\b<W.heap.size/\∀ c,c<N->∃ u,W.cell? ⟨b,o+c,none⟩=some u/\Sl W u (row c))
theorem Rd.up {W W':World} {v:Value} {N:Nat} {row:Nat->List Pr} (h:Rd W v N row) (g:Below W.heap.size W W'):Rd W' v N row:=by
 obtain ⟨a,cap,e,hcap,h⟩:=h.is;refine ⟨a,cap,e,hcap,fun h0=>?_⟩;obtain ⟨b,o,eb,hb,hc⟩:=h h0;refine ⟨b,o,eb,Nat.lt_of_lt_of_le hb g.size,fun c hcN=>?_⟩;obtain ⟨u,hu,hs⟩:=hc c hcN;exact ⟨u,by rw [(bcell g).1 _ _ hb];exact hu,hs.up g⟩
theorem Rd.nil (W:World) (row:Nat->List Pr):Rd W (.slice none 0 0) 0 row:=⟨none,0,rfl,Nat.le_refl _,fun h=>by omega⟩
theorem Sl.of {W:World} {B:Nat} {v:Value} {l:List Pr} (h:W.ownsRow B 170 2 v l.length (pcells l)):Sl W v l:=by
 have hlt:=h.lt;obtain ⟨h1,⟨h2,h3⟩|⟨q,cap,cur,h2,h3,h4,h5,h6,h7,h8⟩⟩:=h
 ·exact ⟨none,0,by rw [h2,h3],fun h=>by omega⟩
 ·refine ⟨_,cap,h2,fun h0=>⟨q,rfl,(hlt q (by rw [h2];rfl)).2,fun k x hx=>?_⟩⟩;have hk:k<l.length:=by
   rcases Nat.lt_or_ge k l.length with h|h
   ·exact h
   ·rw [List.getElem?_eq_none h] at hx;cases hx
  obtain ⟨c1,c2⟩:=pcells_at hx;rw [<- h8] at c1 c2;rw [List.getElem?_take,if_pos (by omega)] at c1 c2;rw [cell_of_row W q _ cur 170 (0,0) h4,cell_of_row W q _ cur 170 (0,0) h4];simp only [Array.getElem?_toList] at c1 c2;exact ⟨c1,c2⟩
theorem Rd.of {W:World} {B rb N:Nat} {f:Nat->Value} {row:Nat->List Pr} (h:Rs W B rb N f row):Rd W (.slice (some ⟨rb,0,none⟩) N N) N row:=
 ⟨_,N,rfl,Nat.le_refl _,fun _=>⟨rb,0,rfl,Nat.lt_of_lt_of_le h.lt h.sz,fun c hc=>⟨f c,by rw [Nat.zero_add];exact h.c c hc,Sl.of (h.o c hc)⟩⟩⟩
theorem info167:(Tryz.prog.info? 167).map (fun i=>(i.zero,i.size,i.bytes))=some (some (.slice none 0 0),1,24):=by kernel_rfl
def rowC (cy:Nat->Int) (m c:Nat):List Pr:=((List.range m).filter fun i=>cy i==(c:Int)).map fun i:Nat=>((i:Int),(0:Int))
theorem rowC_succ (cy:Nat->Int) (m c:Nat) (h:cy m=(c:Int)):(fun d=>rowC cy (m+1) d)=updR (fun d=>rowC cy m d) c (rowC cy m c++[((m:Int),(0:Int))]):=by
 funext d
 unfold updR rowC;rw [List.range_succ,List.filter_append,List.map_append]
 by_cases e:d=c
 ·subst e;simp [h]
 ·rw [if_neg e]
  have:¬ (cy m==(d:Int))=true:=by rw [h];simp;omega
  simp [this]
theorem rowC_len (cy:Nat->Int) (m c:Nat):(rowC cy m c).length<=m:=by
 unfold rowC;rw [List.length_map];exact Nat.le_trans (List.length_filter_le _ _) (by simp)
structure Nu (W:World) (a:Option Addr) (n:Nat) (g:Nat->Int):Prop where
 is:0<n->∃ b f,a=some ⟨b,f,none⟩/\b<W.heap.size/\∀ k,k<n->W.cell? ⟨b,f+k,none⟩=some (.int .i64 (g k))
theorem rs_made {w W:World} {N:Nat} (h:W.ownsRow w.heap.size 167 1 (.slice (some ⟨w.heap.size,0,none⟩) N N) N (madeCells (Value.slice none 0 0).cells (N*1)).toList) (hs:w.heap.size+1<=W.heap.size):Rs W (w.heap.size+1) w.heap.size N (fun _=>.slice none 0 0) (fun _=>[]):=by
 obtain ⟨g1,⟨g2,g3⟩|⟨g,cap',cur,g2,g3,g4,g5,g6,g7,g8⟩⟩:=h
 ·cases g2
 ·obtain rfl:w.heap.size=g:=by injection g2 with g2;injection g2 with g2;injection g2
  refine ⟨fun c hc=>?_,fun k=>frozen_of_row _ _ _ _ _ g4,fun c hc=>⟨by simp [pcells],.inl ⟨rfl,rfl⟩⟩,fun c d _ _ e=>absurd rfl e,by omega,hs⟩;rw [cell_of_row W w.heap.size c cur 167 (0,0) g4];have e1:(cur.toList.take (N*1))[c]?=some (.slice none 0 0):=by
   rw [g8];simp [madeCells,Value.cells,hc,Nat.mod_one]
  rw [List.getElem?_take,if_pos (by omega)] at e1;simpa using e1
theorem rowsOf_any (a:Option Addr) (m cap N:Nat) (cy:Nat->Int) (w:World) (hA:Nu w a m cy) (hc:∀ i,i<m->0<=cy i/\cy i<(N:Int)) (hm:m<=100000) (hN:N<=1000000) :
  Calls Tryz.prog 40 #[.slice a m cap,.int .i64 (N:Int)] w fun e w'=>e=.returned (.slice (some ⟨w.heap.size,0,none⟩) N N)/\(∃ f,Rs w' (w.heap.size+1) w.heap.size N f (fun c=>rowC cy m c))/\Below w.heap.size w w':=by
 obtain ⟨i0,hi,hi2⟩:=Option.map_eq_some_iff.1 info170;simp only [Prod.mk.injEq] at hi2;obtain ⟨j0,hj,hj2⟩:=Option.map_eq_some_iff.1 info167;simp only [Prod.mk.injEq] at hj2;have HI:Hid (Tryz.prog.info? 170=some i0/\i0.zero=some (.agg #[.int .i64 0,.int .i64 0])/\i0.size=2/\i0.bytes=16):=⟨hi,hi2.1,hi2.2.1,hi2.2.2⟩;have HJ:Hid (Tryz.prog.info? 167=some j0/\j0.zero=some (.slice none 0 0)/\j0.size=1/\j0.bytes=24):=⟨hj,hj2.1,hj2.2.1,hj2.2.2⟩;have HA:Hid (Nu w a m cy):=hA;have HC:Hid (∀ i,i<m->0<=cy i/\cy i<(N:Int)):=hc;clear hi hi2 hj hj2 hA hc;go_enter Tryz.func40,Tryz.ntmps40;go_wp2_with (first|(at_make;refine wpList_make_full _ rfl _ _ 92 rfl w.heap.size 167 j0 (.slice none 0 0) 1 Tryz.underlying92 HJ.out.1 HJ.out.2.1 HJ.out.2.2.1 .i64 .i64 (N:Int) (N:Int) N rfl rfl rfl rfl (by rw [HJ.out.2.2.2];omega) (by unfold maxLen;omega) (Nat.le_refl _) ?_;intro w4 hown hgr;have HW:Hid (Rs w4 (w.heap.size+1) w.heap.size N (fun _=>.slice none 0 0) (fun _=>[])/\Below w.heap.size w w4):=⟨rs_made hown (hown.lt w.heap.size rfl).2,⟨hgr.os,hgr.tape,hgr.output,hgr.size,fun k hk=>hgr.block k hk (by simp)⟩⟩;clear hown hgr))
 have HG0:Hid (Gt w4 (w.heap.size+1) w.heap.size N w4 (fun c=>rowC cy 0 c)):=⟨Fr.refl _ _,_,HW.out.1⟩;have HBk:Hid (∀ W,Fr (Gx (w.heap.size+1) w.heap.size) w4 W->Below w.heap.size w W):=fun W h=>HW.out.2.trans (h.below HW.out.2.size fun k hk e=>by rcases e with e|e <;> omega);clear HW
 go_loopw [12] (fun v wr=>∃ k:Nat,k<=m/\v=.int .i64 k/\Hid (Gt w4 (w.heap.size+1) w.heap.size N wr (fun c=>rowC cy k c))) (fun v _=>m-(intOf v).toNat)
 case atStart=>exact ⟨0,by omega,rfl,HG0⟩
 case round=>
  rename World=>wr;obtain ⟨k,hk,rfl,HQ⟩:=hrel;clear HG0
  by_cases hlt:k<m
  ·have k1:(k:Int)<(m:Int):=by omega
   obtain ⟨c0,c1⟩:=HC.out k hlt;obtain ⟨c,hc⟩:∃ c:Nat,(c:Int)=cy k:=⟨(cy k).toNat,by omega⟩;have HR:Hid _:=rowC_succ cy k c hc.symm;have hlen:=rowC_len cy k c;have hcN:c<N:=by omega
   obtain ⟨b,f0,rfl,hbl,hx⟩:=HA.out.is (by omega);have hb:=HBk.out wr HQ.out.fr;have x1:wr.cell? ⟨b,f0+k,none⟩=some (.int .i64 (cy k)):=by rw [(bcell hb).1 _ _ hbl];exact hx k hlt
   rw [<- hc] at x1;obtain ⟨f,hf⟩:=HQ.out.rs;have HF:Hid (Rs wr (w.heap.size+1) w.heap.size N f (fun c=>rowC cy k c)):=hf;have y2:=hf.c c hcN;have hz:=hf.sz;have HO:Hid (wr.ownsRow (w.heap.size+1) 170 2 (f c) (rowC cy k c).length (pcells (rowC cy k c))):=hf.o c hcN;have d0:(0:Int)<=(c:Int):=by omega
   have d1:(c:Int)<(N:Int):=by omega
   have HP:Hid (∀ w5 g cp,(wr.alloc (.cells #[.int .i64 (k:Int),.int .i64 0] 170)).grownBy w5 (f c).ownBlock->w5.ownsRow (w.heap.size+1) 170 2 (.slice (some ⟨g,0,none⟩) ((rowC cy k c).length+1) cp) ((rowC cy k c).length+1) (pcells (rowC cy k c)++[.int .i64 (k:Int),.int .i64 0])->((f c).ownBlock=some g\/wr.heap.size<=g)->(w5.cell? ⟨w.heap.size,c,none⟩=some (f c)/\w5.frozen? ⟨w.heap.size,c,none⟩=false/\w.heap.size<w5.heap.size)/\Gt w4 (w.heap.size+1) w.heap.size N (w5.setCell ⟨w.heap.size,c,none⟩ (.slice (some ⟨g,0,none⟩) ((rowC cy k c).length+1) cp)) (fun c=>rowC cy (k+1) c)):=by
    intro w5 g cp h2 h3 h4;obtain ⟨a1,a2,a3⟩:=HF.out.next (x:=((k:Int),(0:Int))) ((Below.refl _ _).alloc (Nat.le_refl _) _) h2 hcN h3 h4;rw [<- HR.out] at a3;exact ⟨a2,(HQ.out.fr.same a1).setCell (.inr (.inl rfl)) _ _,_,a3⟩
   clear HF HQ hf hx hb HR hc c0 c1;generalize f c=v at *;generalize rowC cy k c=rl at *;go_wp2_with (first|(at_builtin;refine wpList_append_lies _ rfl _ _ 167 rfl (w.heap.size+1) 170 i0 (.agg #[.int .i64 0,.int .i64 0]) 2 16 Tryz.underlying167 HI.out.1 HI.out.2.1 HI.out.2.2.1 HI.out.2.2.2 rfl (by decide) v rl.length (pcells rl) rfl (HO.out.alloc _) ⟨wr.heap.size,0,none⟩ 1 1 [.int .i64 (k:Int),.int .i64 0] rfl rfl (World.news_of_block (heap_alloc_new wr _)) (by simp [Value.oneCell']) (by decide) (by unfold maxLen;omega) (by omega) (by simp;omega) (wr.heap.size+1) (by simp) ?_;intro q cp w5 hown hgrow hat hlt3;have HP5:Hid _:=HP.out w5 q cp hgrow hown (hat.imp id fun e=>by rw [e];simp);have z1:=HP5.out.1.1;have z2:=HP5.out.1.2.1;have z3:=HP5.out.1.2.2;clear hown hgrow hat hlt3))
   go_roundw
   case rel=>exact ⟨k+1,by omega,by go_num,HP5.out.2⟩
   case measure=>simp [intOf];omega
  ·obtain rfl:k=m:=by omega
   have k1:¬ (k:Int)<(k:Int):=by omega
   go_wp2_with fail
   obtain ⟨f,hf⟩:=HQ.out.rs;go_ret
   exact ⟨rfl,⟨f,hf⟩,HBk.out _ HQ.out.fr⟩
end Go.Proofs.YtpdaknbmcpmhjaaGreatDoor.Lw
namespace Go.Proofs.YtpdaknbmcpmhjaaGreatDoor.Lw
open Go.ChangeShapes Go.WideShapes Go.ChangeAt Go.RowKit Go.Shelf
open YtpdaknbmcpmhjaaGreatDoor.Op YtpdaknbmcpmhjaaGreatDoor.So
attribute [local go_sem] Oper.semAt_some
abbrev pv (x:Pr):Value:=.agg #[.int .i64 x.1,.int .i64 x.2]
abbrev ob (x:Pr):Obj:=.cells #[.int .i64 x.1,.int .i64 x.2] 170
theorem values1_in (F:Fence) (n:Nat) (h7:F.fn 167) (hro:F.round=none) (hn:1<=n) (l Bs n₀ b cap:Nat) (zs:List Pr) (hreach:zs.length<=1000000000) (hb:b<n₀) (J Jx:List Pr->World->Prop) (W:World) (hn0:n₀<=W.heap.size) (hJ:AbidesFrom W.heap.size J)
  (hY:∀ pre x W,J pre W->pre.length<zs.length->YieldAt F (n-1) Tryz.prog l #[pv x] W fun e W'=>
   (e=.returned (.bool true)/\J (pre++[x]) W'/\Below n₀ W W')\/(e=.returned (.bool false)/\Jx (pre++[x]) W'))
  (hBs:W.cell? ⟨Bs,0,none⟩=some (.slice (some ⟨b,0,none⟩) zs.length cap)) (hc:∀ k x,zs[k]?=some x->W.cell? ⟨b,k*2,none⟩=some (.int .i64 x.1)/\W.cell? ⟨b,k*2+1,none⟩=some (.int .i64 x.2)) (h0:J [] W) :
  CallsIn F n Tryz.prog 167 #[.func (.yield l) #[] #[],.pointer (some ⟨Bs,0,none⟩)] W fun e W'=>(∃ v,e=.returned v) /\
   ((∃ ys,ys=zs/\J ys W')\/(∃ pre,pre <+: zs/\Jx pre W')):=by
 refine callsIn_of_wp Tryz.func167 rfl h7 ?_ hro;simp only [Tryz.ntmps167,List.size_toArray,List.length_cons,List.length_nil,Nat.reduceAdd,Nat.reduceSub,Array.replicate_succ,Array.replicate_zero,List.push_toArray,List.append_toArray,List.nil_append,List.cons_append]
 gi_wp2
 gi_loopw [7] (fun i wr=>∃ k:Nat,k<=zs.length/\i=.int .i64 k/\J (zs.take k) wr/\Below n₀ W wr)
  (fun i _=>zs.length-(intOf i).toNat)
 case atStart=>exact ⟨0,Nat.zero_le _,rfl,by simpa using h0,Below.refl _ _⟩
 case round=>
  obtain ⟨k,hk,rfl,hJs,hnx⟩:=hrel
  by_cases hlt:k<zs.length
  ·obtain ⟨x,hx⟩:∃ x,zs[k]?=some x:=⟨_,List.getElem?_eq_getElem hlt⟩;have hnx2:=hnx.size;have q0:wr.cell? ⟨b,k*2,none⟩=some (.int .i64 x.1):=(hnx.cell (p:=⟨b,k*2,none⟩) hb).trans (hc k x hx).1;have q1:wr.cell? ⟨b,k*2+1,none⟩=some (.int .i64 x.2):=(hnx.cell (p:=⟨b,k*2+1,none⟩) hb).trans (hc k x hx).2;have hJ2:J (zs.take k) (wr.alloc (ob x)):=hJ _ wr _ none hJs (World.grownBy_alloc wr _ none) (fun r e=>by cases e);obtain ⟨fn,tmps,assign,body,hy,hR⟩:=hY _ x _ hJ2 (by rw [List.length_take];omega);have hn2:n₀<=wr.heap.size:=Nat.le_trans hn0 hnx2;have ht:zs.take (k+1)=zs.take k++[x]:=by rw [List.take_add_one,hx];rfl
   gi_wp2
   refine hR.mono ?_;rintro e W3 (⟨rfl,hJ3,hk3⟩|⟨rfl,hJx3⟩)
   ·gi_wp2
    go_roundw
    case rel=>exact ⟨k+1,by omega,by simp,by rw [ht];exact hJ3,hnx.trans (((Below.refl _ _).alloc hn2 _).trans hk3)⟩
    case measure=>simp [intOf];omega
   ·gi_wp2
    refine bodyPost_ret (results_none rfl _ _ _) rfl ?_;exact ⟨⟨_,rfl⟩,.inr ⟨_,by rw [<- ht];exact List.take_prefix _ _,hJx3⟩⟩
  ·obtain rfl:k=zs.length:=by omega
   gi_wp2
   go_end0
   exact ⟨⟨_,rfl⟩,.inl ⟨_,by simp,hJs⟩⟩
theorem values1_nil_in (F:Fence) (n:Nat) (h7:F.fn 167) (hro:F.round=none) (l Bs cap:Nat) (a:Option Addr) (J:List Pr->World->Prop) (W:World) (hBs:W.cell? ⟨Bs,0,none⟩=some (.slice a 0 cap)) (h0:J [] W) :
  CallsIn F n Tryz.prog 167 #[.func (.yield l) #[] #[],.pointer (some ⟨Bs,0,none⟩)] W fun e W'=>(∃ v,e=.returned v)/\J [] W':=by
 refine callsIn_of_wp Tryz.func167 rfl h7 ?_ hro;simp only [Tryz.ntmps167,List.size_toArray,List.length_cons,List.length_nil,Nat.reduceAdd,Nat.reduceSub,Array.replicate_succ,Array.replicate_zero,List.push_toArray,List.append_toArray,List.nil_append,List.cons_append]
 gi_wp2
 gi_loopw [7] (fun i wr=>i=.int .i64 0/\J [] wr) (fun _ _=>0)
 case atStart=>exact ⟨rfl,h0⟩
 case round=>
  obtain ⟨rfl,hJs⟩:=hrel
  gi_wp2
  go_end0
  exact ⟨⟨_,rfl⟩,hJs⟩
theorem values_stops (F:Fence) (n:Nat) (h7:F.fn 167) (hro:F.round=none) (hn:1<=n) (Bs:Nat) (sv:Value) (zs:List Pr) (hreach:zs.length<=1000000000) (w0 w:World) (hw:Below w0.heap.size w0 w) (hBs:Bs<w0.heap.size) (hc:w0.cell? ⟨Bs,0,none⟩=some sv) (hI:Sl w0 sv zs) :
  SeqStopsK F n Tryz.prog 167 #[.pointer (some ⟨Bs,0,none⟩)] (fun x:Pr=>#[pv x]) (Below w0.heap.size) (fun ys=>ys=zs) (fun pre=>pre <+: zs) zs.length w:=fun l J Jx W hW' hJ _ hY h0=>by
 have hW:Below w0.heap.size w0 W:=hw.trans (hW'.mono hw.size);have hc':=(hW.cell (p:=⟨Bs,0,none⟩) hBs).trans hc;obtain ⟨a,cap,rfl,hx⟩:=(hI.up hW).is
 by_cases h:0<zs.length
 ·obtain ⟨b,rfl,hb,hcs⟩:=hx h;obtain ⟨a',cap',e,hx'⟩:=hI.is;obtain ⟨b',e',hb',-⟩:=hx' h
  injection e with e1
  rw [e'] at e1
  injection e1 with e1
  injection e1 with e1
  subst e1;exact values1_in F n h7 hro hn l Bs w0.heap.size b cap zs hreach hb' J Jx W hW.size hJ hY hc' hcs h0
 ·obtain rfl:zs=[]:=List.length_eq_zero_iff.1 (by omega);exact (values1_nil_in F n h7 hro l Bs cap a J W hc' h0).mono fun e W' ⟨he,hj⟩=>⟨he,.inl ⟨_,rfl,hj⟩⟩
theorem values_any (v:Value) (w:World) (hv:∃ a n c,v=.slice a n c) :
  Calls Tryz.prog 96 #[v] w fun e w'=>e=.returned (.func (.func 167) #[] #[.pointer (some ⟨w.heap.size,0,none⟩)])/\w'=w.alloc (.cells #[v] 167):=by
 obtain ⟨a,n,c,rfl⟩:=hv;go_enter Tryz.func96,Tryz.ntmps96;go_wp2
 go_ret
 exact ⟨rfl,rfl⟩
def Bx2 (W:World) (B:Nat) (x:Pr):Prop:=W.heap[B]?=some (.cells #[.int .i64 x.1,.int .i64 x.2] 170 (0,0))
theorem appendSeq_in (F:Fence) (n:Nat) (h2:F.fn 225) (h7:F.fn 167) (hro:F.round=none) (hn:3<=n) (Bs:Nat) (sv:Value) (zs:List Pr) (hreach:zs.length<=1000000) (w:World) (hBs:Bs<w.heap.size) (hc:w.cell? ⟨Bs,0,none⟩=some sv) (hI:Sl w sv zs) :
  CallsIn F n Tryz.prog 225 #[.slice none 0 0,.func (.func 167) #[] #[.pointer (some ⟨Bs,0,none⟩)]] w fun e w'=>∃ v,e=.returned v/\w'.ownsRow w.heap.size 170 2 v zs.length (pcells zs)/\Below w.heap.size w w':=by
 have h1:1<=n:=by omega
 refine callsIn_of_wp_marks Tryz.func225 rfl h2 ?_ hro;simp only [Tryz.ntmps225,List.size_toArray,List.length_cons,List.length_nil,Nat.reduceAdd,Nat.reduceSub,Array.replicate_succ,Array.replicate_zero,List.push_toArray,List.append_toArray,List.nil_append,List.cons_append]
 gi_wp2
 obtain ⟨i0,hi,hi2⟩:=Option.map_eq_some_iff.1 info170;simp only [Prod.mk.injEq] at hi2;have bS:=Boxed.new w 167 (.slice none 0 0);have hB0:Below w.heap.size w (w.alloc (.cells #[.slice none 0 0] 167)):=(Below.refl _ w).alloc (Nat.le_refl _) _;have hsz:(w.alloc (.cells #[.slice none 0 0] 167)).heap.size=w.heap.size+1:=by simp
 obtain ⟨W0,hW0⟩:∃ W0,w.alloc (.cells #[.slice none 0 0] 167)=W0:=⟨_,rfl⟩;rw [hW0] at bS hB0 hsz ⊢;clear hW0;refine wpIn_rangeFunc_ownH hro h1 (gf:=167) (lb:=#[.pointer (some ⟨Bs,0,none⟩)]) rfl h7 (enters_of Tryz.func167 (by kernel_rfl) rfl)
  (values_stops F (n-1) h7 hro (by omega) Bs sv zs (by omega) w W0 hB0 hBs hc hI) belowK_t (belowK_b (by omega)) (Below.refl _ _) (fun _=>rfl)
  (fun pre W=>(∃ v,Boxed W w.heap.size 167 v/\W.ownsRow w.heap.size 170 2 v pre.length (pcells pre)/\True)/\Below w.heap.size w W)
  (fun _ _ _=>False)
  (OwnFrom.and (Own.from (holdsRow_own w.heap.size w.heap.size 167 170 2 (fun pre:List Pr=>pre.length) (fun pre=>pcells pre) (fun _ _=>True)) _) (ownFrom_below (Nat.le_refl _) (by omega)))
  (fun _ _ _ _ _ hs _ _=>hs)
  ⟨⟨_,bS,⟨rfl,.inl ⟨rfl,rfl⟩⟩,trivial⟩,hB0⟩
  (fun x a' W=>∃ Bx,w.heap.size<Bx/\Bx2 W Bx x/\a' = { tmps:=#[.slice none 0 0,.func (.func 167) #[] #[.pointer (some ⟨Bs,0,none⟩)],.pointer (some ⟨w.heap.size,0,none⟩),undef,.slice none 0 0,.pointer (some ⟨Bx,0,none⟩),.func (.func 167) #[] #[.pointer (some ⟨Bs,0,none⟩)],pv x,undef,undef,undef,undef,undef],defers:=[] })
  (fun x a' _ X Y row hs hg hr=>by
   obtain ⟨Bx,h1,h2,h3⟩:=hs;refine ⟨Bx,h1,(hg.block Bx (Array.getElem?_eq_some_iff.1 h2).1 fun e=>?_).trans h2,h3⟩;obtain ⟨-,o,ho,hc⟩:=hr Bx e.symm;rw [show X.heap[Bx]?=_ from h2] at ho
   cases ho
   cases hc)
  ?assign ?body ?done ?stop
 case assign=>
  rintro l pre x W K ⟨⟨v,bv,br,-⟩,hB1⟩ hK
  gi_wp2
  exact hK _ _ ((KeepsOthers.alloc _ _).from _) ((Below.refl _ W).alloc hB1.size _) ⟨⟨v,bv.alloc _,br.alloc _,trivial⟩,hB1.alloc hB1.size _⟩ ⟨W.heap.size,bv.lt,World.alloc_heap_new W _,rfl⟩
 case body=>
  rintro l pre x a' W hl ⟨r,hr⟩ ⟨⟨v,bv,br,-⟩,hB1⟩ ⟨Bx,hBx,bX,rfl⟩ hlt;have cS:=bv.cell;have fS:=bv.frozen;have lS:=bv.lt;have q0:W.cell? ⟨Bx,0,none⟩=some (.int .i64 x.1):=by simp [World.cell?,show W.heap[Bx]?=_ from bX]
  have q1:W.cell? ⟨Bx,1,none⟩=some (.int .i64 x.2):=by simp [World.cell?,show W.heap[Bx]?=_ from bX]
  have hp:pcells (pre++[x])=pcells pre++[.int .i64 x.1,.int .i64 x.2]:=by rw [pcells_app];rfl
  gi_wp2_with (gi_at_builtin;refine wpListIn_append_own _ rfl _ _ 167 rfl w.heap.size 170 i0 (.agg #[.int .i64 0,.int .i64 0]) 2 16 Tryz.underlying167 hi hi2.1 hi2.2.1 hi2.2.2 rfl (by decide) _ _ _ rfl (br.alloc _) ⟨W.heap.size,0,none⟩ 1 1 [.int .i64 x.1,.int .i64 x.2] rfl rfl (World.news_of_block (heap_alloc_new W _)) (by simp [Value.oneCell']) (by unfold maxLen;omega) (by omega) (by have:=hB1.size;simp;omega) ?_;intro v' w1 hown' hgrow _;obtain ⟨g',cap',rfl⟩:=ownsRow_succ hown';obtain ⟨hv1,hv2,hr2,hk2,hb2⟩:=bv.appended (by decide) br hB1.size (Nat.le_refl _) hown' hgrow;have hc1:=hv1.cell;have hf1:=hv1.frozen)
  exact ⟨hk2.from _,hb2,⟨_,hv2,by rw [hp,List.length_append];exact hr2,trivial⟩,hB1.trans hb2⟩
 case done=>
  rintro D ys W hD rfl ⟨⟨v,bv,br,-⟩,hB1⟩ hK;have cS:=bv.cell
  gi_wp2
  refine ⟨by simp,.inl ⟨_,_,rfl,run_takeDeferred hK,?_⟩⟩;exact ⟨_,results_tmp rfl _ _ _,_,rfl,ownsRow_putObj br _ hK rfl,hB1.trans (belowK_b (w:=w) (Nat.le_refl _) W D _ _ (by omega) hK rfl rfl)⟩
 case stop=>
  rintro D c pre W _ _ h;exact h.elim
end Go.Proofs.YtpdaknbmcpmhjaaGreatDoor.Lw
namespace Go.Proofs.YtpdaknbmcpmhjaaGreatDoor.Lw
open Go.ChangeShapes Go.WideShapes Go.ChangeAt Go.RowKit
open YtpdaknbmcpmhjaaGreatDoor.Op YtpdaknbmcpmhjaaGreatDoor.So
theorem appendSeq_any (Bs:Nat) (sv:Value) (zs:List Pr) (hreach:zs.length<=1000000) (w:World) (hBs:Bs<w.heap.size) (hc:w.cell? ⟨Bs,0,none⟩=some sv) (hI:Sl w sv zs) :
  Calls Tryz.prog 225 #[.slice none 0 0,.func (.func 167) #[] #[.pointer (some ⟨Bs,0,none⟩)]] w fun e w'=>∃ v,e=.returned v/\w'.ownsRow w.heap.size 170 2 v zs.length (pcells zs)/\Below w.heap.size w w':=
 (callsIn_wide (n:=3)).1 (appendSeq_in Fence.wide 3 trivial trivial rfl (Nat.le_refl _) Bs sv zs hreach w hBs hc hI)
theorem collect_any (Bs:Nat) (sv:Value) (zs:List Pr) (hreach:zs.length<=1000000) (w:World) (hBs:Bs<w.heap.size) (hc:w.cell? ⟨Bs,0,none⟩=some sv) (hI:Sl w sv zs) :
  Calls Tryz.prog 165 #[.func (.func 167) #[] #[.pointer (some ⟨Bs,0,none⟩)]] w fun e w'=>∃ v,e=.returned v/\w'.ownsRow w.heap.size 170 2 v zs.length (pcells zs)/\Below w.heap.size w w':=by
 have HC:Hid _:=appendSeq_any Bs sv zs hreach w hBs hc hI;clear hc hI;go_enter Tryz.func165,Tryz.ntmps165;go_wp2_with (go_at_call 225;refine Calls.mono HC.out ?_;rintro e w1 ⟨v,rfl,h1,h2⟩;have HR:Hid _:=h1;have HB:Hid _:=h2;clear h1 h2)
 go_ret
 exact ⟨_,rfl,HR.out,HB.out⟩
theorem len_0 (w:World):Calls Tryz.prog 227 #[.int .u64 0] w fun e w'=>(∃ z:Int,e=.returned (.int .i64 z))/\w'=w:=by
 have H:Hid (Calls Tryz.prog 274 #[.int .u64 0] w fun e w'=>(∃ z:Int,e=.returned (.int .i64 z))/\w'=w):=by
  go_enter Tryz.func274,Tryz.ntmps274;go_wp2
  go_ret
  exact ⟨⟨_,rfl⟩,rfl⟩
 go_enter Tryz.func227,Tryz.ntmps227;go_wp2_with (go_at_call 274;refine Calls.mono H.out ?_;rintro e w1 ⟨⟨z,rfl⟩,rfl⟩)
 go_ret
 exact ⟨⟨_,rfl⟩,rfl⟩
theorem len_1 (w:World):Calls Tryz.prog 227 #[.int .u64 1] w fun e w'=>(∃ z:Int,e=.returned (.int .i64 z))/\w'=w:=by
 have H:Hid (Calls Tryz.prog 274 #[.int .u64 1] w fun e w'=>(∃ z:Int,e=.returned (.int .i64 z))/\w'=w):=by
  go_enter Tryz.func274,Tryz.ntmps274;go_wp2
  go_ret
  exact ⟨⟨_,rfl⟩,rfl⟩
 go_enter Tryz.func227,Tryz.ntmps227;go_wp2_with (go_at_call 274;refine Calls.mono H.out ?_;rintro e w1 ⟨⟨z,rfl⟩,rfl⟩)
 go_ret
 exact ⟨⟨_,rfl⟩,rfl⟩
theorem ins_one (v:Value) (n:Nat) (hn:n=0\/n=1) (cmp:Value) (w:World):Calls Tryz.prog 265 #[v,.int .i64 0,.int .i64 (n:Int),cmp] w fun e w'=>e=.returned (.tuple #[])/\w'=w:=by
 rcases hn with rfl|rfl
 all_goals
  go_enter Tryz.func265,Tryz.ntmps265;go_wp2
  go_loopw [8] (fun i wr=>i=.int .i64 1/\wr=w) (fun _ _=>0)
  case atStart=>exact ⟨rfl,rfl⟩
  case round=>
   obtain ⟨rfl,rfl⟩:=hrel;go_wp2
   go_end0
   exact ⟨rfl,rfl⟩
theorem pdq_one (v:Value) (n:Nat) (hn:n=0\/n=1) (lim:Int) (cmp:Value) (w:World):Calls Tryz.prog 226 #[v,.int .i64 0,.int .i64 (n:Int),.int .i64 lim,cmp] w fun e w'=>e=.returned (.tuple #[])/\w'=w:=by
 have HI:Hid _:=ins_one v n hn cmp w;have h0:(0:Int)<=(n:Int):=by omega
 have h1:(n:Int)<=12:=by omega
 have hw:IntKind.i64.wrap ((n:Int)-0)=(n:Int):=by rw [IntKind.wrap_i64];omega
 have hw2:IntKind.i64.wrap (n:Int)=(n:Int):=by rw [IntKind.wrap_i64];omega
 go_enter Tryz.func226,Tryz.ntmps226;go_wp2
 go_loopw [1,2,3] (fun a b l wr=>a=.int .i64 0/\b=.int .i64 (n:Int)/\l=.int .i64 lim/\wr=w) (fun _ _ _ _=>0)
 case atStart=>exact ⟨rfl,rfl,rfl,rfl⟩
 case round=>
  obtain ⟨rfl,rfl,rfl,rfl⟩:=hrel;go_wp2_with (go_at_call 265;refine Calls.mono HI.out ?_;rintro e w1 ⟨rfl,rfl⟩)
  refine bodyPost_ret (results_none rfl _ _ _) rfl ?_;exact ⟨rfl,rfl⟩
theorem sortFunc_one (a:Option Addr) (n c:Nat) (hn:n=0\/n=1) (cmp:Value) (w:World):Calls Tryz.prog 166 #[.slice a n c,cmp] w fun e w'=>e=.returned (.tuple #[])/\w'=w:=by
 have HP:Hid (∀ lim:Int,_):=fun lim=>pdq_one (.slice a n c) n hn lim cmp w;rcases hn with rfl|rfl
 ·have HL:Hid _:=len_0 w;go_enter Tryz.func166,Tryz.ntmps166;go_wp2_with (first|(go_at_call 227;refine Calls.mono HL.out ?_;rintro e w1 ⟨⟨z,rfl⟩,rfl⟩)|(go_at_call 226;refine Calls.mono (HP.out _) ?_;rintro e w1 ⟨rfl,rfl⟩))
  go_end0
  exact ⟨rfl,rfl⟩
 ·have HL:Hid _:=len_1 w;go_enter Tryz.func166,Tryz.ntmps166;go_wp2_with (first|(go_at_call 227;refine Calls.mono HL.out ?_;rintro e w1 ⟨⟨z,rfl⟩,rfl⟩)|(go_at_call 226;refine Calls.mono (HP.out _) ?_;rintro e w1 ⟨rfl,rfl⟩))
  go_end0
  exact ⟨rfl,rfl⟩
def Srt (zs:List Pr):Prop:=∀ (Bs:Nat) (sv:Value) (w:World),Bs<w.heap.size->w.cell? ⟨Bs,0,none⟩=some sv->Sl w sv zs->
 Calls Tryz.prog 95 #[.func (.func 167) #[] #[.pointer (some ⟨Bs,0,none⟩)],.func (.func 97) #[] #[]] w fun e w'=>∃ v,e=.returned v/\w'.ownsRow w.heap.size 170 2 v zs.length (pcells zs)/\Below w.heap.size w w'
theorem srt_one (zs:List Pr) (h:zs.length<=1):Srt zs:=by
 intro Bs sv w hBs hc hI;have HC:Hid _:=collect_any Bs sv zs (by omega) w hBs hc hI;have hn:zs.length=0\/zs.length=1:=by omega
 clear hc hI;go_enter Tryz.func95,Tryz.ntmps95;go_wp2_with (first|(go_at_call 165;refine Calls.mono HC.out ?_;rintro e w1 ⟨v,rfl,h1,h2⟩;have HR:Hid _:=h1;have HB:Hid _:=h2;clear h1 h2;obtain ⟨a,c,rfl,-⟩:=(Sl.of HR.out).is)|(go_at_call 166;refine Calls.mono (sortFunc_one a zs.length c hn _ w1) ?_;rintro e w2 ⟨rfl,rfl⟩))
 go_ret
 exact ⟨_,rfl,HR.out,HB.out⟩
end Go.Proofs.YtpdaknbmcpmhjaaGreatDoor.Lw
