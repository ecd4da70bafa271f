/- Parts Ga Gb. -/
import Derived.Test.YtpdaknbmcpmhjaaGreatDoorN23
import Derived.Test.YtpdaknbmcpmhjaaGreatDoorN01
import Derived.Deep.AppendLies
import Derived.Deep.RegionLaw
import Derived.RegionTactic
import Derived.Deep.LoopGhost
import Derived.Deep.MidRow
set_option maxRecDepth 20000
set_option maxHeartbeats 4000000
namespace Go.Proofs.YtpdaknbmcpmhjaaGreatDoor.Ly
open Go.ChangeShapes Go.WideShapes Go.ChangeAt Go.RowKit
open YtpdaknbmcpmhjaaGreatDoor.Op YtpdaknbmcpmhjaaGreatDoor.So
open YtpdaknbmcpmhjaaGreatDoor.Bu (row_fr row_up)
def updO (own:Nat->Nat) (q s:Nat):Nat->Nat:=fun k=>if k=q then s else own k
def updV (f:Nat->Value) (c:Nat) (v:Value):Nat->Value:=fun d=>if d=c then v else f d
def updN (f:Nat->Nat) (c n:Nat):Nat->Nat:=fun d=>if d=c then n else f d
def updL (f:Nat->List Value) (c:Nat) (l:List Value):Nat->List Value:=fun d=>if d=c then l else f d
structure Ow (W:World) (B:Nat) (own:Nat->Nat) (s e z:Nat) (v:Value) (m:Nat) (xs:List Value):Prop where
 r:W.ownsRow B e z v m xs
 o:∀ k,v.ownBlock=some k->own k=s
theorem Ow.fr {T:Nat->Prop} {W W':World} {B s e z m:Nat} {own:Nat->Nat} {v:Value} {xs:List Value} (h:Ow W B own s e z v m xs) (g:Fr T W W') (hT:∀ k,k<W.heap.size->T k->own k≠s):Ow W' B own s e z v m xs:=
 ⟨row_fr h.r g fun k hk ht=>hT k (h.r.lt k hk).2 ht (h.o k hk),h.o⟩
theorem Ow.ren {W:World} {B s e z m q s':Nat} {own:Nat->Nat} {v:Value} {xs:List Value} (h:Ow W B own s e z v m xs) (hq:own q=s'\/W.heap.size<=q) (hne:s≠s'):Ow W B (updO own q s') s e z v m xs:=by
 refine ⟨h.r,fun k hk=>?_⟩;unfold updO;have e:=h.o k hk;have l:=(h.r.lt k hk).2;rw [if_neg]
 ·exact e
 ·rintro rfl;rcases hq with hq|hq <;> omega
theorem Ow.nil (W:World) (B:Nat) (own:Nat->Nat) (s e z:Nat):Ow W B own s e z (.slice none 0 0) 0 []:=⟨⟨by simp,.inl ⟨rfl,rfl⟩⟩,fun k hk=>by cases hk⟩
theorem row_set {W:World} {B e z q m cap c:Nat} {xs:List Value} {v:Value} (h:W.ownsRow B e z (.slice (some ⟨q,0,none⟩) m cap) m xs) (_hc:c<xs.length):(W.setCell ⟨q,c,none⟩ v).ownsRow B e z (.slice (some ⟨q,0,none⟩) m cap) m (xs.set c v):=by
 obtain ⟨h1,⟨h2,h3⟩|⟨g,cap',cur,h2,h3,h4,h5,h6,h7,h8⟩⟩:=h
 ·cases h2
 ·injection h2 with h2 _ e3
  injection h2 with h2
  injection h2 with h2
  subst h2 e3;refine ⟨by simpa using h1,.inr ⟨q,cap,cur.setIfInBounds c v,rfl,h3,heap_setCell_same _ _ _ _ _ _ h4,h5,h6,by simpa using h7,?_⟩⟩;rw [Array.toList_setIfInBounds,List.take_set,h8]
theorem range_set (n c:Nat) (f:Nat->Value) (v:Value):((List.range n).map f).set c v=(List.range n).map (updV f c v):=by
 refine List.ext_getElem (by simp) fun i h1 h2=>?_;have hi:i<n:=by simpa using h2
 simp only [List.getElem_set,List.getElem_map,List.getElem_range,updV]
 by_cases e:c=i
 ·subst e;simp
 ·rw [if_neg e,if_neg fun e'=>e e'.symm]
theorem At.set {W:World} {b k:Nat} {cs:Array Value} {v:Value} (h:At W b cs) (hk:k<cs.size):At (W.setCell ⟨b,k,none⟩ v) b (cs.setIfInBounds k v):=by
 refine ⟨fun j u hu=>?_,fun j=>by rw [World.frozen?_setCell];exact h.f j,by rw [World.size_setCell];exact h.lt⟩
 by_cases e:k=j
 ·subst e;rw [Array.getElem?_setIfInBounds_self_of_lt hk] at hu
  cases hu
  exact World.cell?_setCell_same _ _ _ (h.c k _ (Array.getElem?_eq_getElem hk))
 ·rw [Array.getElem?_setIfInBounds_ne e] at hu;rw [World.cell?_setCell_other _ _ _ _ (by intro e';injection e' with _ e2;exact e e2)];exact h.c j u hu
theorem At.fr {T:Nat->Prop} {W W':World} {b:Nat} {cs:Array Value} (h:At W b cs) (g:Fr T W W') (hT:¬ T b):At W' b cs:=
 ⟨fun j u hu=>by rw [g.cell h.lt hT];exact h.c j u hu,fun j=>by rw [g.frozen h.lt hT];exact h.f j,Nat.lt_of_lt_of_le h.lt g.size⟩
theorem grown_fr {W W':World} {r:Option Nat} (h:W.grownBy W' r):Fr (fun k=>r=some k) W W':=⟨h.os,h.tape,h.output,h.size,fun k hk hx=>h.block k hk fun e=>hx e.symm⟩
structure Half (W:World) (B:Nat) (own:Nat->Nat) (s E e z:Nat) (v:Value) (n:Nat) (f:Nat->Value) (ln:Nat->Nat) (cs:Nat->List Value):Prop where
 r:Ow W B own s E 4 v n ((List.range (n*4)).map f)
 l:∀ c,c<n*4->Ow W B own (s+2+2*c) e z (f c) (ln c) (cs c)
theorem Half.keep {T:Nat->Prop} {W W':World} {B s E e z n:Nat} {own:Nat->Nat} {v:Value} {f:Nat->Value} {ln:Nat->Nat} {cs:Nat->List Value} (h:Half W B own s E e z v n f ln cs) (g:Fr T W W') (hT:∀ k,k<W.heap.size->T k->own k%2≠s%2\/own k<3) (hs:2<s):Half W' B own s E e z v n f ln cs:=
 ⟨h.r.fr g fun k hk ht e'=>by rcases hT k hk ht with h1|h1 <;> omega,fun c hc=>(h.l c hc).fr g fun k hk ht e'=>by rcases hT k hk ht with h1|h1 <;> omega⟩
theorem Half.up {W W':World} {B s E e z n:Nat} {own:Nat->Nat} {v:Value} {f:Nat->Value} {ln:Nat->Nat} {cs:Nat->List Value} (h:Half W B own s E e z v n f ln cs) (g:Below W.heap.size W W'):Half W' B own s E e z v n f ln cs:=
 ⟨h.r.fr (Fr.of (X:=Non) g) fun _ _ ht=>ht.elim,fun c hc=>(h.l c hc).fr (Fr.of (X:=Non) g) fun _ _ ht=>ht.elim⟩
theorem Half.ren {W:World} {B s E e z n q s':Nat} {own:Nat->Nat} {v:Value} {f:Nat->Value} {ln:Nat->Nat} {cs:Nat->List Value} (h:Half W B own s E e z v n f ln cs) (hq:own q=s'\/W.heap.size<=q) (hne:s'%2≠s%2\/s'<3) (hs:2<s):Half W B (updO own q s') s E e z v n f ln cs:=
 ⟨h.r.ren hq (by omega),fun c hc=>(h.l c hc).ren hq (by omega)⟩
theorem Half.push {W w4:World} {B s E e z n q cap:Nat} {own:Nat->Nat} {v:Value} {f:Nat->Value} {ln:Nat->Nat} {cs:Nat->List Value} (h:Half W B own s E e z v n f ln cs) (hg:W.grownBy w4 v.ownBlock)
  (hown:w4.ownsRow B E 4 (.slice (some ⟨q,0,none⟩) (n+1) cap) (n+1) ((List.range (n*4)).map f++[.slice none 0 0,.slice none 0 0,.slice none 0 0,.slice none 0 0])) (hq:v.ownBlock=some q\/W.heap.size<=q) :
  Half w4 B (updO own q s) s E e z (.slice (some ⟨q,0,none⟩) (n+1) cap) (n+1) (fun c=>if c<n*4 then f c else .slice none 0 0) (fun c=>if c<n*4 then ln c else 0) (fun c=>if c<n*4 then cs c else []):=by
 have fr:=grown_fr hg;have hq2:own q=s\/W.heap.size<=q:=hq.imp (fun e=>h.r.o q e) id;refine ⟨⟨?_,fun k hk=>?_⟩,fun c hc=>?_⟩
 ·have e1:(List.range ((n+1)*4)).map (fun c=>if c<n*4 then f c else Value.slice none 0 0)=(List.range (n*4)).map f++[.slice none 0 0,.slice none 0 0,.slice none 0 0,.slice none 0 0]:=by
   rw [show (n+1)*4=n*4+4 by omega,List.range_add,List.map_append]
   congr 1
   ·refine List.map_congr_left fun c hc=>?_;rw [if_pos (List.mem_range.1 hc)]
   ·simp only [List.range_succ,List.range_zero,List.nil_append,List.map_cons,List.map_nil,List.cons_append];simp
    refine ⟨fun h=>?_,fun h=>?_,fun h=>?_⟩ <;> omega
  rw [e1];exact hown
 ·have e1:q=k:=by simpa [Value.ownBlock] using hk
  unfold updO;rw [if_pos e1.symm]
 ·by_cases e1:c<n*4
  ·simp only [if_pos e1];refine ((h.l c e1).ren hq2 (by omega)).fr fr fun k hk ht=>?_
   have:=h.r.o k ht
   unfold updO
   split <;> omega
  ·simp only [if_neg e1];exact Ow.nil _ _ _ _ _ _
theorem Half.put {W w4:World} {B s E e z n q cap c rq capb:Nat} {own:Nat->Nat} {v:Value} {f:Nat->Value} {ln:Nat->Nat} {cs:Nat->List Value} {ys:List Value} (h:Half W B own s E e z v n f ln cs) (hc:c<n*4) (hv:v=.slice (some ⟨rq,0,none⟩) n capb) (hg:W.grownBy w4 (f c).ownBlock)
  (hown:w4.ownsRow B e z (.slice (some ⟨q,0,none⟩) (ln c+1) cap) (ln c+1) (cs c++ys)) (hq:(f c).ownBlock=some q\/W.heap.size<=q) :
  (w4.cell? ⟨rq,c,none⟩=some (f c)/\w4.frozen? ⟨rq,c,none⟩=false/\rq<w4.heap.size)/\own rq=s /\
  Half (w4.setCell ⟨rq,c,none⟩ (.slice (some ⟨q,0,none⟩) (ln c+1) cap)) B (updO own q (s+2+2*c)) s E e z v n (updV f c (.slice (some ⟨q,0,none⟩) (ln c+1) cap)) (updN ln c (ln c+1)) (updL cs c (cs c++ys)):=by
 have fr:=grown_fr hg;have orq:own rq=s:=h.r.o rq (by rw [hv];rfl);have hq2:own q=s+2+2*c\/W.heap.size<=q:=hq.imp (fun e=>(h.l c hc).o q e) id;have hr4:Ow w4 B own s E 4 v n ((List.range (n*4)).map f):=h.r.fr fr fun k hk ht=>by have:=(h.l c hc).o k ht;omega
 have hlen:c<((List.range (n*4)).map f).length:=by simpa using hc
 have hrl:=hr4.r;rw [hv] at hrl;obtain ⟨g1,⟨g2,g3⟩|⟨g,cap',cur,g2,g3,g4,g5,g6,g7,g8⟩⟩:=id hrl
 ·cases g2
 ·have e0:rq=g:=by injection g2 with g2;injection g2 with g2;injection g2
  subst e0;refine ⟨⟨?_,frozen_of_row _ _ _ _ _ g4,(Array.getElem?_eq_some_iff.1 g4).1⟩,orq,?_⟩
  ·rw [cell_of_row w4 rq c cur E (0,0) g4];have e1:(cur.toList.take (n*4))[c]?=some (f c):=by rw [g8];simp [hc]
   rw [List.getElem?_take,if_pos hc] at e1;simpa using e1
  ·have g1':Fr (One rq) w4 (w4.setCell ⟨rq,c,none⟩ (.slice (some ⟨q,0,none⟩) (ln c+1) cap)):=(Fr.refl (One rq) w4).setCell (.inr rfl) _ _;have hl1:rq<W.heap.size:=(h.r.r.lt rq (by rw [hv];rfl)).2;have nqr:q≠rq:=by rintro rfl;omega
   refine ⟨⟨?_,fun k hk=>?_⟩,fun d hd=>?_⟩
   ·rw [hv,<- range_set];exact row_set hrl hlen
   ·have e1:rq=k:=by rw [hv] at hk;simpa [Value.ownBlock] using hk
    subst e1;unfold updO;rw [if_neg fun e=>nqr e.symm];exact orq
   ·by_cases e1:d=c
    ·subst e1;unfold updV updN updL;simp only [if_pos];refine ⟨row_fr hown g1' fun k hk ht=>?_,fun k hk=>?_⟩
     ·have:q=k:=by simpa [Value.ownBlock] using hk
      exact nqr (this.trans ht)
     ·have:q=k:=by simpa [Value.ownBlock] using hk
      unfold updO;rw [if_pos this.symm]
    ·unfold updV updN updL;simp only [if_neg e1];refine (((h.l d hd).ren hq2 (by omega)).fr fr fun k hk ht=>?_).fr g1' fun k hk ht=>?_
     ·have:=(h.l c hc).o k ht
      unfold updO
      split <;> omega
     ·have e2:k=rq:=ht;subst e2;unfold updO;rw [if_neg fun e=>nqr e.symm];omega
structure Tg where
 b:Int
 l:Bool
 o:Int
 s:Bool
deriving DecidableEq
abbrev Tg.val (x:Tg):Value:=.agg #[.int .i64 x.b,.bool x.l,.int .i64 x.o,.bool x.s]
abbrev Tg.cells (x:Tg):Array Value:=#[.int .i64 x.b,.bool x.l,.int .i64 x.o,.bool x.s]
def tcells (l:List Tg):List Value:=l.flatMap fun x=>[.int .i64 x.b,.bool x.l,.int .i64 x.o,.bool x.s]
theorem tcells_app (l m:List Tg):tcells (l++m)=tcells l++tcells m:=by unfold tcells;simp
theorem tcells_snoc (l:List Tg) (x:Tg):tcells (l++[x])=tcells l++[.int .i64 x.b,.bool x.l,.int .i64 x.o,.bool x.s]:=by unfold tcells;simp
theorem ocells_add (l:List O) (o:O):ocells (l++[o])=ocells l++[.int .i8 o.op,.int .u8 o.d,.int .u8 o.a,.int .u8 o.b,.int .i64 o.im]:=by simp [ocells]
def gpI (t:Tb.Tab):Int:=max (1+t.d) (t.b 3)
abbrev gcs (blk:Int) (t:Tb.Tab) (vb vt:Value):Array Value:=#[.int .i64 blk,.int .i64 (t.u 0),.int .i64 (t.u 1),.int .i64 (t.u 2),.int .i64 (t.u 3),.int .i64 (t.l 0),.int .i64 (t.l 1),.int .i64 (t.l 2),.int .i64 (t.l 3),.int .i64 (t.b 0),.int .i64 (t.b 1),.int .i64 (t.b 2),.int .i64 (t.b 3),.int .i64 t.d,.int .i64 (gpI t),vb,vt]
def adB (bs:Nat->List O) (c:Nat) (o:O):Nat->List O:=fun d=>if d=c then bs c++[o] else bs d
def adT (ts:Nat->List Tg) (c:Nat) (x:Tg):Nat->List Tg:=fun d=>if d=c then ts c++[x] else ts d
structure Gr (W:World) (g:Nat) (blk:Int) (t:Tb.Tab) (own:Nat->Nat) (ab aq:Option Addr) (cb ct nb nt:Nat) (fb ft:Nat->Value) (bs:Nat->List O) (ts:Nat->List Tg):Prop where
 at':At W g (gcs blk t (.slice ab nb cb) (.slice aq nt ct))
 og:own g=2
 hb:Half W g own 3 65 60 5 (.slice ab nb cb) nb fb (fun c=>(bs c).length) (fun c=>ocells (bs c))
 ht:Half W g own 4 176 67 4 (.slice aq nt ct) nt ft (fun c=>(ts c).length) (fun c=>tcells (ts c))
 zb:∀ c,nb*4<=c->bs c=[]
 zt:∀ c,nt*4<=c->ts c=[]
 nl:∀ k,W.heap.size<=k->own k=0
def GrX (W:World) (g:Nat) (blk:Int) (t:Tb.Tab) (own:Nat->Nat) (n:Nat) (bs:Nat->List O) (ts:Nat->List Tg):Prop:=∃ ab aq cb ct fb ft,Gr W g blk t own ab aq cb ct n n fb ft bs ts
structure Gs (w W:World) (own own':Nat->Nat):Prop where
 fr:Fr (fun k=>own k≠0) w W
 nw:∀ k,k<w.heap.size->own' k≠0->own k≠0
theorem Gs.refl (w:World) (own:Nat->Nat):Gs w w own own:=⟨Fr.refl _ _,fun _ _ h=>h⟩
theorem Gs.trans {a b c:World} {o1 o2 o3:Nat->Nat} (h:Gs a b o1 o2) (g:Gs b c o2 o3):Gs a c o1 o3:=
 ⟨h.fr.trans g.fr fun k hk e=>h.nw k hk e,fun k hk e=>h.nw k hk (g.nw k (Nat.lt_of_lt_of_le hk h.fr.size) e)⟩
theorem Gs.up {a b c:World} {o1 o2:Nat->Nat} (h:Gs a b o1 o2) (g:Below b.heap.size b c):Gs a c o1 o2:=⟨h.fr.then g,h.nw⟩
theorem Gr.up {W W':World} {g:Nat} {blk:Int} {t:Tb.Tab} {own:Nat->Nat} {ab aq:Option Addr} {cb ct nb nt:Nat} {fb ft:Nat->Value} {bs:Nat->List O} {ts:Nat->List Tg} (h:Gr W g blk t own ab aq cb ct nb nt fb ft bs ts) (b:Below W.heap.size W W'):Gr W' g blk t own ab aq cb ct nb nt fb ft bs ts:=
 ⟨At.fr h.at' (Fr.of (X:=Non) b) fun e=>e,h.og,h.hb.up b,h.ht.up b,h.zb,h.zt,fun k hk=>h.nl k (Nat.le_trans b.size hk)⟩
theorem GrX.up {W W':World} {g:Nat} {blk:Int} {t:Tb.Tab} {own:Nat->Nat} {n:Nat} {bs:Nat->List O} {ts:Nat->List Tg} (h:GrX W g blk t own n bs ts) (b:Below W.heap.size W W'):GrX W' g blk t own n bs ts:=by
 obtain ⟨ab,aq,cb,ct,fb,ft,h⟩:=h;exact ⟨ab,aq,cb,ct,fb,ft,h.up b⟩
theorem Gr.fr {T:Nat->Prop} {W W':World} {g:Nat} {blk:Int} {t:Tb.Tab} {own:Nat->Nat} {ab aq:Option Addr} {cb ct nb nt:Nat} {fb ft:Nat->Value} {bs:Nat->List O} {ts:Nat->List Tg} (h:Gr W g blk t own ab aq cb ct nb nt fb ft bs ts) (f:Fr T W W') (hT:∀ k,k<W.heap.size->T k->own k=0):Gr W' g blk t own ab aq cb ct nb nt fb ft bs ts:=
 ⟨At.fr h.at' f fun e=>by have:=hT g h.at'.lt e;have:=h.og;omega,h.og,h.hb.keep f (fun k hk e=>.inr (by have:=hT k hk e;omega)) (by omega),h.ht.keep f (fun k hk e=>.inr (by have:=hT k hk e;omega)) (by omega),h.zb,h.zt,fun k hk=>h.nl k (Nat.le_trans f.size hk)⟩
theorem upd_nz {own:Nat->Nat} {q s sz:Nat} (hq:own q=s\/sz<=q) (_hs:s≠0):∀ k,k<sz->updO own q s k≠0->own k≠0:=by
 intro k hk h;unfold updO at h
 split at h
 ·rename_i e;subst e;rcases hq with hq|hq <;> omega
 ·exact h
theorem Gr.pushB {W W' w4:World} {g q cap:Nat} {blk:Int} {t:Tb.Tab} {own:Nat->Nat} {ab aq:Option Addr} {cb ct nb nt:Nat} {fb ft:Nat->Value} {bs:Nat->List O} {ts:Nat->List Tg} (h0:Gr W g blk t own ab aq cb ct nb nt fb ft bs ts) (hW:Below W.heap.size W W') (hg:W'.grownBy w4 (Value.slice ab nb cb).ownBlock)
  (hown:w4.ownsRow g 65 4 (.slice (some ⟨q,0,none⟩) (nb+1) cap) (nb+1) ((List.range (nb*4)).map fb++[.slice none 0 0,.slice none 0 0,.slice none 0 0,.slice none 0 0])) (hq:(Value.slice ab nb cb).ownBlock=some q\/W'.heap.size<=q) :
  At w4 g (gcs blk t (.slice ab nb cb) (.slice aq nt ct))/\∃ own' fb',Gs W (w4.setCell ⟨g,15,none⟩ (.slice (some ⟨q,0,none⟩) (nb+1) cap)) own own'/\Gr (w4.setCell ⟨g,15,none⟩ (.slice (some ⟨q,0,none⟩) (nb+1) cap)) g blk t own' (some ⟨q,0,none⟩) aq cap ct (nb+1) nt fb' ft bs ts:=by
 have h:=h0.up hW;have fr:=grown_fr hg;have hoq:∀ k,(Value.slice ab nb cb).ownBlock=some k->own k=3:=h.hb.r.o;have gq:g<W.heap.size:=h0.at'.lt;have hsz:=hW.size;have hq0:own q=3\/W.heap.size<=q:=hq.imp (fun e=>hoq q e) fun e=>by omega
 have hq1:own q=3\/W'.heap.size<=q:=hq.imp (fun e=>hoq q e) id;have ngq:g≠q:=by rintro rfl;have:=h.og;omega
 have a4:At w4 g (gcs blk t (.slice ab nb cb) (.slice aq nt ct)):=At.fr h.at' fr fun e=>by have:=hoq g e;have:=h.og;omega
 have fg:Fr (One g) w4 (w4.setCell ⟨g,15,none⟩ (.slice (some ⟨q,0,none⟩) (nb+1) cap)):=(Fr.refl (One g) w4).setCell (.inr rfl) _ _;have og':updO own q 3 g=2:=by unfold updO;rw [if_neg ngq];exact h.og
 have P:=h.hb.push hg hown hq;have Q1:=(h.ht.ren (q:=q) (s':=3) hq1 (.inl (by decide)) (by decide)).keep fr (fun k hk e=>.inl (by have:=hoq k e;unfold updO;split <;> simp_all)) (by decide);refine ⟨a4,updO own q 3,(fun c=>if c<nb*4 then fb c else Value.slice none 0 0),⟨?_,upd_nz hq0 (by decide)⟩,At.set a4 (k:=15) (by simp),og',?_,?_,?_,?_,fun k hk=>by
  rw [World.size_setCell] at hk
  have:=(hown.lt q rfl).2
  have:=fr.size
  unfold updO;rw [if_neg (by omega)];exact h.nl k (by omega)⟩
 ·exact ((Fr.of (X:=fun k=>own k≠0) hW).trans fr fun k _ e=>by have:=hoq k e;omega).setCell (.inr (by rw [h.og];decide)) _ _
 ·have e1:(fun c=>if c<nb*4 then (bs c).length else 0)=fun c=>(bs c).length:=by funext c;split <;> rename_i hc;exact rfl;rw [h.zb c (by omega)];rfl
  have e2:(fun c=>if c<nb*4 then ocells (bs c) else [])=fun c=>ocells (bs c):=by funext c;split <;> rename_i hc;exact rfl;rw [h.zb c (by omega)];rfl
  rw [e1,e2] at P;exact ⟨Ow.fr P.r fg fun k hk e=>by obtain rfl:k=g:=e;rw [og'];decide,fun c hc=>Ow.fr (P.l c hc) fg fun k hk e=>by obtain rfl:k=g:=e;rw [og'];omega⟩
 ·exact Q1.keep fg (fun k hk e=>.inr (by obtain rfl:k=g:=e;rw [og'];decide)) (by decide)
 ·exact fun c hc=>h.zb c (by omega)
 ·exact h.zt
theorem Gr.pushT {W W' w4:World} {g q cap:Nat} {blk:Int} {t:Tb.Tab} {own:Nat->Nat} {ab aq:Option Addr} {cb ct nb nt:Nat} {fb ft:Nat->Value} {bs:Nat->List O} {ts:Nat->List Tg} (h0:Gr W g blk t own ab aq cb ct nb nt fb ft bs ts) (hW:Below W.heap.size W W') (hg:W'.grownBy w4 (Value.slice aq nt ct).ownBlock)
  (hown:w4.ownsRow g 176 4 (.slice (some ⟨q,0,none⟩) (nt+1) cap) (nt+1) ((List.range (nt*4)).map ft++[.slice none 0 0,.slice none 0 0,.slice none 0 0,.slice none 0 0])) (hq:(Value.slice aq nt ct).ownBlock=some q\/W'.heap.size<=q) :
  At w4 g (gcs blk t (.slice ab nb cb) (.slice aq nt ct))/\∃ own' ft',Gs W (w4.setCell ⟨g,16,none⟩ (.slice (some ⟨q,0,none⟩) (nt+1) cap)) own own'/\Gr (w4.setCell ⟨g,16,none⟩ (.slice (some ⟨q,0,none⟩) (nt+1) cap)) g blk t own' ab (some ⟨q,0,none⟩) cb cap nb (nt+1) fb ft' bs ts:=by
 have h:=h0.up hW;have fr:=grown_fr hg;have hoq:∀ k,(Value.slice aq nt ct).ownBlock=some k->own k=4:=h.ht.r.o;have gq:g<W.heap.size:=h0.at'.lt;have hsz:=hW.size;have hq0:own q=4\/W.heap.size<=q:=hq.imp (fun e=>hoq q e) fun e=>by omega
 have hq1:own q=4\/W'.heap.size<=q:=hq.imp (fun e=>hoq q e) id;have ngq:g≠q:=by rintro rfl;have:=h.og;omega
 have a4:At w4 g (gcs blk t (.slice ab nb cb) (.slice aq nt ct)):=At.fr h.at' fr fun e=>by have:=hoq g e;have:=h.og;omega
 have fg:Fr (One g) w4 (w4.setCell ⟨g,16,none⟩ (.slice (some ⟨q,0,none⟩) (nt+1) cap)):=(Fr.refl (One g) w4).setCell (.inr rfl) _ _;have og':updO own q 4 g=2:=by unfold updO;rw [if_neg ngq];exact h.og
 have P:=h.ht.push hg hown hq;have Q1:=(h.hb.ren (q:=q) (s':=4) hq1 (.inl (by decide)) (by decide)).keep fr (fun k hk e=>.inl (by have:=hoq k e;unfold updO;split <;> simp_all)) (by decide);refine ⟨a4,updO own q 4,(fun c=>if c<nt*4 then ft c else Value.slice none 0 0),⟨?_,upd_nz hq0 (by decide)⟩,At.set a4 (k:=16) (by simp),og',?_,?_,?_,?_,fun k hk=>by
  rw [World.size_setCell] at hk
  have:=(hown.lt q rfl).2
  have:=fr.size
  unfold updO;rw [if_neg (by omega)];exact h.nl k (by omega)⟩
 ·exact ((Fr.of (X:=fun k=>own k≠0) hW).trans fr fun k _ e=>by have:=hoq k e;omega).setCell (.inr (by rw [h.og];decide)) _ _
 ·exact Q1.keep fg (fun k hk e=>.inr (by obtain rfl:k=g:=e;rw [og'];decide)) (by decide)
 ·have e1:(fun c=>if c<nt*4 then (ts c).length else 0)=fun c=>(ts c).length:=by funext c;split <;> rename_i hc;exact rfl;rw [h.zt c (by omega)];rfl
  have e2:(fun c=>if c<nt*4 then tcells (ts c) else [])=fun c=>tcells (ts c):=by funext c;split <;> rename_i hc;exact rfl;rw [h.zt c (by omega)];rfl
  rw [e1,e2] at P;exact ⟨Ow.fr P.r fg fun k hk e=>by obtain rfl:k=g:=e;rw [og'];decide,fun c hc=>Ow.fr (P.l c hc) fg fun k hk e=>by obtain rfl:k=g:=e;rw [og'];omega⟩
 ·exact h.zb
 ·exact fun c hc=>h.zt c (by omega)
theorem Gr.putB {W W' w4:World} {g q cap c rq:Nat} {o:O} {blk:Int} {t:Tb.Tab} {own:Nat->Nat} {ab aq:Option Addr} {cb ct nb nt:Nat} {fb ft:Nat->Value} {bs:Nat->List O} {ts:Nat->List Tg} (h0:Gr W g blk t own ab aq cb ct nb nt fb ft bs ts) (hc:c<nb*4) (ha:ab=some ⟨rq,0,none⟩) (hW:Below W.heap.size W W') (hg:W'.grownBy w4 (fb c).ownBlock)
  (hown:w4.ownsRow g 60 5 (.slice (some ⟨q,0,none⟩) ((bs c).length+1) cap) ((bs c).length+1) (ocells (bs c)++[.int .i8 o.op,.int .u8 o.d,.int .u8 o.a,.int .u8 o.b,.int .i64 o.im])) (hq:(fb c).ownBlock=some q\/W'.heap.size<=q) :
  At w4 g (gcs blk t (.slice ab nb cb) (.slice aq nt ct))/\(w4.cell? ⟨rq,c,none⟩=some (fb c)/\w4.frozen? ⟨rq,c,none⟩=false/\rq<w4.heap.size)/\∃ own' fb',Gs W (w4.setCell ⟨rq,c,none⟩ (.slice (some ⟨q,0,none⟩) ((bs c).length+1) cap)) own own'/\Gr (w4.setCell ⟨rq,c,none⟩ (.slice (some ⟨q,0,none⟩) ((bs c).length+1) cap)) g blk t own' ab aq cb ct nb nt fb' ft (adB bs c o) ts:=by
 have h:=h0.up hW;have fr:=grown_fr hg;have hoq:∀ k,(fb c).ownBlock=some k->own k=3+2+2*c:=(h.hb.l c hc).o;have gq:g<W.heap.size:=h0.at'.lt;have hsz:=hW.size;have hq0:own q=3+2+2*c\/W.heap.size<=q:=hq.imp (fun e=>hoq q e) fun e=>by omega
 have hq1:own q=3+2+2*c\/W'.heap.size<=q:=hq.imp (fun e=>hoq q e) id;have ngq:g≠q:=by rintro rfl;have:=h.og;omega
 have a4:At w4 g (gcs blk t (.slice ab nb cb) (.slice aq nt ct)):=At.fr h.at' fr fun e=>by have:=hoq g e;have:=h.og;omega
 have og':updO own q (3+2+2*c) g=2:=by unfold updO;rw [if_neg ngq];exact h.og
 have P:=h.hb.put hc (by rw [ha]) hg hown hq;have fq:Fr (One rq) w4 (w4.setCell ⟨rq,c,none⟩ (.slice (some ⟨q,0,none⟩) ((bs c).length+1) cap)):=(Fr.refl (One rq) w4).setCell (.inr rfl) _ _;have ngr:g≠rq:=by rintro rfl;have:=h.og;have:=P.2.1;omega
 have Q1:=(h.ht.ren (q:=q) (s':=3+2+2*c) hq1 (.inl (by omega)) (by decide)).keep fr (fun k hk e=>.inl (by have:=hoq k e;unfold updO;split <;> omega)) (by decide);refine ⟨a4,P.1,updO own q (3+2+2*c),updV fb c (.slice (some ⟨q,0,none⟩) ((bs c).length+1) cap),⟨?_,upd_nz hq0 (by omega)⟩,At.fr a4 fq (fun e=>ngr e),og',?_,?_,?_,?_,fun k hk=>by
  rw [World.size_setCell] at hk
  have:=(hown.lt q rfl).2
  have:=fr.size
  unfold updO;rw [if_neg (by omega)];exact h.nl k (by omega)⟩
 ·exact ((Fr.of (X:=fun k=>own k≠0) hW).trans fr fun k _ e=>by have:=hoq k e;omega).setCell (.inr (by rw [P.2.1];decide)) _ _
 ·have e1:updN (fun c=>(bs c).length) c ((bs c).length+1)=fun d=>(adB bs c o d).length:=by funext d;unfold updN adB;split <;> simp
  have e2:updL (fun c=>ocells (bs c)) c (ocells (bs c)++[.int .i8 o.op,.int .u8 o.d,.int .u8 o.a,.int .u8 o.b,.int .i64 o.im])=fun d=>ocells (adB bs c o d):=by funext d;unfold updL adB;split;rw [ocells_add];rfl
  have P2:=P.2.2;rw [e1,e2] at P2;exact P2
 ·exact Q1.keep fq (fun k hk e=>.inl (by obtain rfl:k=rq:=e;have:=P.2.1;unfold updO;split <;> omega)) (by decide)
 ·intro d hd;unfold adB;rw [if_neg (by omega)];exact h.zb d hd
 ·exact h.zt
theorem Gr.putT {W W' w4:World} {g q cap c rq:Nat} {o:Tg} {blk:Int} {t:Tb.Tab} {own:Nat->Nat} {ab aq:Option Addr} {cb ct nb nt:Nat} {fb ft:Nat->Value} {bs:Nat->List O} {ts:Nat->List Tg} (h0:Gr W g blk t own ab aq cb ct nb nt fb ft bs ts) (hc:c<nt*4) (ha:aq=some ⟨rq,0,none⟩) (hW:Below W.heap.size W W') (hg:W'.grownBy w4 (ft c).ownBlock)
  (hown:w4.ownsRow g 67 4 (.slice (some ⟨q,0,none⟩) ((ts c).length+1) cap) ((ts c).length+1) (tcells (ts c)++[.int .i64 o.b,.bool o.l,.int .i64 o.o,.bool o.s])) (hq:(ft c).ownBlock=some q\/W'.heap.size<=q) :
  At w4 g (gcs blk t (.slice ab nb cb) (.slice aq nt ct))/\(w4.cell? ⟨rq,c,none⟩=some (ft c)/\w4.frozen? ⟨rq,c,none⟩=false/\rq<w4.heap.size)/\∃ own' ft',Gs W (w4.setCell ⟨rq,c,none⟩ (.slice (some ⟨q,0,none⟩) ((ts c).length+1) cap)) own own'/\Gr (w4.setCell ⟨rq,c,none⟩ (.slice (some ⟨q,0,none⟩) ((ts c).length+1) cap)) g blk t own' ab aq cb ct nb nt fb ft' bs (adT ts c o):=by
 have h:=h0.up hW;have fr:=grown_fr hg;have hoq:∀ k,(ft c).ownBlock=some k->own k=4+2+2*c:=(h.ht.l c hc).o;have gq:g<W.heap.size:=h0.at'.lt;have hsz:=hW.size;have hq0:own q=4+2+2*c\/W.heap.size<=q:=hq.imp (fun e=>hoq q e) fun e=>by omega
 have hq1:own q=4+2+2*c\/W'.heap.size<=q:=hq.imp (fun e=>hoq q e) id;have ngq:g≠q:=by rintro rfl;have:=h.og;omega
 have a4:At w4 g (gcs blk t (.slice ab nb cb) (.slice aq nt ct)):=At.fr h.at' fr fun e=>by have:=hoq g e;have:=h.og;omega
 have og':updO own q (4+2+2*c) g=2:=by unfold updO;rw [if_neg ngq];exact h.og
 have P:=h.ht.put hc (by rw [ha]) hg hown hq;have fq:Fr (One rq) w4 (w4.setCell ⟨rq,c,none⟩ (.slice (some ⟨q,0,none⟩) ((ts c).length+1) cap)):=(Fr.refl (One rq) w4).setCell (.inr rfl) _ _;have ngr:g≠rq:=by rintro rfl;have:=h.og;have:=P.2.1;omega
 have Q1:=(h.hb.ren (q:=q) (s':=4+2+2*c) hq1 (.inl (by omega)) (by decide)).keep fr (fun k hk e=>.inl (by have:=hoq k e;unfold updO;split <;> omega)) (by decide);refine ⟨a4,P.1,updO own q (4+2+2*c),updV ft c (.slice (some ⟨q,0,none⟩) ((ts c).length+1) cap),⟨?_,upd_nz hq0 (by omega)⟩,At.fr a4 fq (fun e=>ngr e),og',?_,?_,?_,?_,fun k hk=>by
  rw [World.size_setCell] at hk
  have:=(hown.lt q rfl).2
  have:=fr.size
  unfold updO;rw [if_neg (by omega)];exact h.nl k (by omega)⟩
 ·exact ((Fr.of (X:=fun k=>own k≠0) hW).trans fr fun k _ e=>by have:=hoq k e;omega).setCell (.inr (by rw [P.2.1];decide)) _ _
 ·exact Q1.keep fq (fun k hk e=>.inl (by obtain rfl:k=rq:=e;have:=P.2.1;unfold updO;split <;> omega)) (by decide)
 ·have e1:updN (fun c=>(ts c).length) c ((ts c).length+1)=fun d=>(adT ts c o d).length:=by funext d;unfold updN adT;split <;> simp
  have e2:updL (fun c=>tcells (ts c)) c (tcells (ts c)++[.int .i64 o.b,.bool o.l,.int .i64 o.o,.bool o.s])=fun d=>tcells (adT ts c o d):=by funext d;unfold updL adT;split;rw [tcells_snoc];rfl
  have P2:=P.2.2;rw [e1,e2] at P2;exact P2
 ·exact h.zb
 ·intro d hd;unfold adT;rw [if_neg (by omega)];exact h.zt d hd
end Go.Proofs.YtpdaknbmcpmhjaaGreatDoor.Ly
namespace Go.Proofs.YtpdaknbmcpmhjaaGreatDoor.Ly
open Go.ChangeShapes Go.WideShapes Go.ChangeAt Go.RowKit
open YtpdaknbmcpmhjaaGreatDoor.Op YtpdaknbmcpmhjaaGreatDoor.So
open YtpdaknbmcpmhjaaGreatDoor.Tb (Tab TabAt Bnds)
theorem gp_in {t:Tab} (h:t.ok=true):1<=gpI t/\gpI t<=5/\0<=t.d/\t.d<=4/\1<=t.b 3/\t.b 3<=4:=by
 obtain ⟨h1,h2⟩:=Tb.ok_parts h;have h3:=Tb.inB_iff h1;have h4:=Tb.inB_iff (h2 3 (by decide)).2.2;unfold gpI;omega
theorem gr_new (W:World) (blk:Int) (t:Tab):GrX (W.alloc (.cells (gcs blk t (.slice none 0 0) (.slice none 0 0)) 98)) W.heap.size blk t (fun k=>if k=W.heap.size then 2 else 0) 0 (fun _=>[]) (fun _=>[]):=
 ⟨none,none,0,0,fun _=>.slice none 0 0,fun _=>.slice none 0 0,At.new _ _ _,if_pos rfl,⟨Ow.nil _ _ _ _ _ _,fun c hc=>absurd hc (by omega)⟩,⟨Ow.nil _ _ _ _ _ _,fun c hc=>absurd hc (by omega)⟩,fun _ _=>rfl,fun _ _=>rfl,fun k hk=>if_neg (by simp at hk;omega)⟩
theorem newGrowth_any (blk:Int) (t:Tab) (w:World) (ht:t.ok=true) :
  Calls Tryz.prog 36 #[.int .i64 blk,t.val] w fun e w'=>e=.returned (.pointer (some ⟨w.heap.size+1,0,none⟩))/\Below w.heap.size w w'/\GrX w' (w.heap.size+1) blk t (fun k=>if k=w.heap.size+1 then 2 else 0) 0 (fun _=>[]) (fun _=>[]):=by
 obtain ⟨g1,g2,d0,d1,b0,b1⟩:=gp_in ht;have hw:IntKind.i64.wrap (1+t.d)=1+t.d:=by rw [IntKind.wrap_i64];omega
 have HF:Hid (GrX ((w.alloc (.cells t.cells 27)).alloc (.cells (gcs blk t (.slice none 0 0) (.slice none 0 0)) 98)) (w.heap.size+1) blk t (fun k=>if k=w.heap.size+1 then 2 else 0) 0 (fun _=>[]) (fun _=>[])):=by
  have:=gr_new (w.alloc (.cells t.cells 27)) blk t
  rw [World.size_alloc] at this;exact this
 have HG:Hid (gpI t=max (1+t.d) (t.b 3)):=rfl;unfold Tab.val;clear ht g1 g2;go_enter Tryz.func36,Tryz.ntmps36;go_wp2
 all_goals
  go_ret
  refine ⟨rfl,((Below.refl _ _).alloc (Nat.le_refl _) _).alloc (by simp) _,?_⟩;have hf:=HF.out;unfold gcs at hf
 ·rw [show gpI t=t.b 3 by rw [HG.out];omega] at hf;exact hf
 ·rw [show gpI t=1+t.d by rw [HG.out];omega] at hf;exact hf
theorem info65:(Tryz.prog.info? 65).map (fun i=>(i.zero,i.size,i.bytes))=some (some (.agg #[.slice none 0 0,.slice none 0 0,.slice none 0 0,.slice none 0 0]),4,96):=by kernel_rfl
theorem info176:(Tryz.prog.info? 176).map (fun i=>(i.zero,i.size,i.bytes))=some (some (.agg #[.slice none 0 0,.slice none 0 0,.slice none 0 0,.slice none 0 0]),4,96):=by kernel_rfl
theorem fill_any (g m n:Nat) (blk:Int) (t:Tab) (own:Nat->Nat) (bs:Nat->List O) (ts:Nat->List Tg) (w:World) (h:GrX w g blk t own n bs ts) (hm:m<=1000000) (hn:n<=1000000) :
  Calls Tryz.prog 43 #[.pointer (some ⟨g,0,none⟩),.int .i64 (m:Int)] w fun e w'=>e=.returned (.tuple #[])/\∃ own',Gs w w' own own'/\GrX w' g blk t own' (max n m) bs ts:=by
 obtain ⟨i0,hi,hi2⟩:=Option.map_eq_some_iff.1 info65;simp only [Prod.mk.injEq] at hi2;obtain ⟨j0,hj,hj2⟩:=Option.map_eq_some_iff.1 info176;simp only [Prod.mk.injEq] at hj2;have HI:Hid (Tryz.prog.info? 65=some i0/\i0.zero=some (.agg #[.slice none 0 0,.slice none 0 0,.slice none 0 0,.slice none 0 0])/\i0.size=4/\i0.bytes=96):=⟨hi,hi2.1,hi2.2.1,hi2.2.2⟩;have HJ:Hid (Tryz.prog.info? 176=some j0/\j0.zero=some (.agg #[.slice none 0 0,.slice none 0 0,.slice none 0 0,.slice none 0 0])/\j0.size=4/\j0.bytes=96):=⟨hj,hj2.1,hj2.2.1,hj2.2.2⟩;have HX:Hid (GrX w g blk t own n bs ts):=h;clear hi hi2 hj hj2 h;go_enter Tryz.func43,Tryz.ntmps43;go_wp2_with fail
 go_loopg [] m (fun k wr=>∃ (n1:Nat) (own1:Nat->Nat),n<=n1/\(n1<=n\/n1<=m)/\m-n1<=k/\Hid (Gs w wr own own1)/\Hid (GrX wr g blk t own1 n1 bs ts))
 case atStart=>exact ⟨n,own,Nat.le_refl _,.inl (Nat.le_refl _),by omega,Gs.refl _ _,HX.out⟩
 case round=>
  rename World=>wr;clear HX;obtain ⟨n1,own1,h1,h2,h3,HS,HX⟩:=hrel;obtain ⟨ab,aq,cb,ct,fb,ft,hG⟩:=HX.out;have HG:Hid (Gr wr g blk t own1 ab aq cb ct n1 n1 fb ft bs ts):=hG;have c15:=hG.at'.c 15 _ rfl;have c16:=hG.at'.c 16 _ rfl;have glt:=hG.at'.lt;have gf:=hG.at'.f;clear hG HX
  by_cases hlt:n1<m
  ·have hl:(n1:Int)<(m:Int):=by omega
   have HO:Hid (wr.ownsRow g 65 4 (.slice ab n1 cb) n1 ((List.range (n1*4)).map fb)):=HG.out.hb.r.r;have HR:Hid (∀ w4 q cap,(wr.alloc (.cells #[.slice none 0 0,.slice none 0 0,.slice none 0 0,.slice none 0 0] 65)).grownBy w4 (Value.slice ab n1 cb).ownBlock->w4.ownsRow g 65 4 (.slice (some ⟨q,0,none⟩) (n1+1) cap) (n1+1) ((List.range (n1*4)).map fb++[.slice none 0 0,.slice none 0 0,.slice none 0 0,.slice none 0 0])->((Value.slice ab n1 cb).ownBlock=some q\/(wr.alloc (.cells #[.slice none 0 0,.slice none 0 0,.slice none 0 0,.slice none 0 0] 65)).heap.size<=q)->At w4 g (gcs blk t (.slice ab n1 cb) (.slice aq n1 ct))/\∃ own' fb',Gs wr (w4.setCell ⟨g,15,none⟩ (.slice (some ⟨q,0,none⟩) (n1+1) cap)) own1 own'/\Gr (w4.setCell ⟨g,15,none⟩ (.slice (some ⟨q,0,none⟩) (n1+1) cap)) g blk t own' (some ⟨q,0,none⟩) aq cap ct (n1+1) n1 fb' ft bs ts):=fun w4 q cap a1 a2 a3=>HG.out.pushB ((Below.refl _ _).alloc (Nat.le_refl _) _) a1 a2 a3;clear HG;go_upto_region 2 with (first|(at_builtin;refine wpList_append_lies _ rfl _ _ 38 rfl g 65 i0 (.agg #[.slice none 0 0,.slice none 0 0,.slice none 0 0,.slice none 0 0]) 4 96 Tryz.underlying38 HI.out.1 HI.out.2.1 HI.out.2.2.1 HI.out.2.2.2 rfl (by decide) (.slice ab n1 cb) n1 ((List.range (n1*4)).map fb) rfl (HO.out.alloc _) ⟨wr.heap.size,0,none⟩ 1 1 [.slice none 0 0,.slice none 0 0,.slice none 0 0,.slice none 0 0] rfl rfl (World.news_of_block (heap_alloc_new wr _)) (by simp [Value.oneCell']) (by decide) (by unfold maxLen;omega) (by omega) (by simp;omega) (wr.heap.size+1) (by simp) ?_;intro q cap w4 hown hgrow hat hlt3;have HR4:Hid _:=HR.out w4 q cap hgrow hown (hat.imp id fun e=>by rw [e];simp);have z15:=HR4.out.1.c 15 _ rfl;have z16:=HR4.out.1.c 16 _ rfl;have zf:=HR4.out.1.f;have zl:=HR4.out.1.lt;clear hown hgrow hat hlt3))
   obtain ⟨own2,fb2,hs2,hg2⟩:=HR4.out.2;have HS2:Hid (Gs w (w4.setCell ⟨g,15,none⟩ (.slice (some ⟨q,0,none⟩) (n1+1) cap)) own own2):=HS.out.trans hs2;have HG2:Hid (Gr (w4.setCell ⟨g,15,none⟩ (.slice (some ⟨q,0,none⟩) (n1+1) cap)) g blk t own2 (some ⟨q,0,none⟩) aq cap ct (n1+1) n1 fb2 ft bs ts):=hg2;clear HR4 hs2 hg2 HS HR HO z15 z16 zf zl c15 c16 gf glt;generalize w4.setCell ⟨g,15,none⟩ (.slice (some ⟨q,0,none⟩) (n1+1) cap)=X at *;have y16:=HG2.out.at'.c 16 _ rfl;have yf:=HG2.out.at'.f;have yl:=HG2.out.at'.lt;have HO2:Hid (X.ownsRow g 176 4 (.slice aq n1 ct) n1 ((List.range (n1*4)).map ft)):=HG2.out.ht.r.r;have HR2:Hid (∀ w4 q2 cap2,(X.alloc (.cells #[.slice none 0 0,.slice none 0 0,.slice none 0 0,.slice none 0 0] 176)).grownBy w4 (Value.slice aq n1 ct).ownBlock->w4.ownsRow g 176 4 (.slice (some ⟨q2,0,none⟩) (n1+1) cap2) (n1+1) ((List.range (n1*4)).map ft++[.slice none 0 0,.slice none 0 0,.slice none 0 0,.slice none 0 0])->((Value.slice aq n1 ct).ownBlock=some q2\/(X.alloc (.cells #[.slice none 0 0,.slice none 0 0,.slice none 0 0,.slice none 0 0] 176)).heap.size<=q2)->At w4 g (gcs blk t (.slice (some ⟨q,0,none⟩) (n1+1) cap) (.slice aq n1 ct))/\∃ own' ft',Gs X (w4.setCell ⟨g,16,none⟩ (.slice (some ⟨q2,0,none⟩) (n1+1) cap2)) own2 own'/\Gr (w4.setCell ⟨g,16,none⟩ (.slice (some ⟨q2,0,none⟩) (n1+1) cap2)) g blk t own' (some ⟨q,0,none⟩) (some ⟨q2,0,none⟩) cap cap2 (n1+1) (n1+1) fb2 ft' bs ts):=fun w4 q cap a1 a2 a3=>HG2.out.pushT ((Below.refl _ _).alloc (Nat.le_refl _) _) a1 a2 a3;clear HG2;go_wp2_with (first|(at_builtin;refine wpList_append_lies _ rfl _ _ 96 rfl g 176 j0 (.agg #[.slice none 0 0,.slice none 0 0,.slice none 0 0,.slice none 0 0]) 4 96 Tryz.underlying96 HJ.out.1 HJ.out.2.1 HJ.out.2.2.1 HJ.out.2.2.2 rfl (by decide) (.slice aq n1 ct) n1 ((List.range (n1*4)).map ft) rfl (HO2.out.alloc _) ⟨X.heap.size,0,none⟩ 1 1 [.slice none 0 0,.slice none 0 0,.slice none 0 0,.slice none 0 0] rfl rfl (World.news_of_block (heap_alloc_new X _)) (by simp [Value.oneCell']) (by decide) (by unfold maxLen;omega) (by omega) (by simp;omega) (X.heap.size+1) (by simp) ?_;intro q2 cap2 w5 hown hgrow hat hlt3;have HR5:Hid _:=HR2.out w5 q2 cap2 hgrow hown (hat.imp id fun e=>by rw [e];simp);have z16:=HR5.out.1.c 16 _ rfl;have zf:=HR5.out.1.f;have zl:=HR5.out.1.lt;clear hown hgrow hat hlt3))
   obtain ⟨own3,ft3,hs3,hg3⟩:=HR5.out.2
   go_roundg (gk-1)
   case rel=>exact ⟨n1+1,own3,by omega,by omega,by omega,HS2.out.trans hs3,_,_,_,_,_,_,hg3⟩
   all_goals omega
  ·have hl:¬ (n1:Int)<(m:Int):=by omega
   go_wp2_with fail
   go_end0
   obtain rfl:n1=max n m:=by omega
   exact ⟨rfl,own1,HS.out,_,_,_,_,_,_,HG.out⟩
end Go.Proofs.YtpdaknbmcpmhjaaGreatDoor.Ly
