/- Parts We. -/
import Derived.Test.YtiejdpjgplikjaaGreatDoorN13
set_option maxRecDepth 20000
namespace Go.Proofs.YtiejdpjgplikjaaGreatDoor.Ls
open Go.ChangeShapes Go.WideShapes Go.ChangeAt Go.RowKit
open YtiejdpjgplikjaaGreatDoor.Op YtiejdpjgplikjaaGreatDoor.So YtiejdpjgplikjaaGreatDoor.Dp YtiejdpjgplikjaaGreatDoor.ListWay
open YtiejdpjgplikjaaGreatDoor.Rv (RAt Few frB tkF tk_few take_any free_any evOk NwOut new_ok)
open YtiejdpjgplikjaaGreatDoor.Tb (Tab TabAt Bnds)
theorem atSet {w:World} {b:Nat} {cs:Array Value} (h:At w b cs) {j:Nat} (hj:j<cs.size) (v:Value):At (w.setCell ⟨b,j,none⟩ v) b (cs.setIfInBounds j v):=by
 refine ⟨fun i u e=>?_,fun i=>by rw [World.frozen?_setCell];exact h.f i,by simpa using h.lt⟩;rw [Array.getElem?_setIfInBounds] at e
 by_cases hij:j=i
 ·subst hij;rw [if_pos rfl,if_pos hj] at e
  injection e with e
  rw [<- e,World.cell?_setCell_same _ _ _ (h.c j _ (Array.getElem?_eq_getElem hj))]
 ·rw [if_neg hij] at e;rw [World.cell?_setCell_other]
  ·exact h.c i u e
  ·intro h';injection h' with _ h2;exact hij h2
structure Na (w X:World) (ao:Option Addr) (n cap wb rb mb:Nat) (t:Tab) (a1:Option Addr) (c1:Nat) (es:List Ed):Prop where
 at':At X wb #[.slice ao n cap,.pointer (some ⟨rb,0,none⟩),.slice none 0 0,.slice none 0 0,.slice none 0 0,.slice none 0 0]
 ra:RAt X rb t none mb 0 (fun _ _=>0)
 eo:EOwn w.heap.size X a1 c1 es
 en:∀ b,(Value.slice a1 es.length c1).ownBlock=some b->b<wb
 up:Below w.heap.size w X
 r0:w.heap.size<=rb
 m0:w.heap.size<=mb
 rw:rb<wb
 mw:mb<wb
structure Nb (w W:World) (ao:Option Addr) (n cap wb rb mb cb tb fb:Nat) (t:Tab) (a1:Option Addr) (c1:Nat) (es:List Ed):Prop where
 at':At W wb #[.slice ao n cap,.pointer (some ⟨rb,0,none⟩),.slice (some ⟨cb,0,none⟩) n n,.slice none 0 0,.slice (some ⟨tb,0,none⟩) n n,.slice (some ⟨fb,0,none⟩) n n]
 ra:RAt W rb t none mb 0 (fun _ _=>0)
 eo:EOwn w.heap.size W a1 c1 es
 en:∀ b,(Value.slice a1 es.length c1).ownBlock=some b->b<wb
 up:Below w.heap.size w W
 cy:Ir W cb n (fun _=>0)
 wt:Ir W tb n (fun _=>0)
 fs:Ir W fb n (fun _=>0)
 r0:w.heap.size<=rb
 m0:w.heap.size<=mb
 rw:rb<wb
 mw:mb<wb
 wc:wb<cb
 wt':wb<tb
 wf:wb<fb
 ct:cb≠tb
 cf:cb≠fb
 tf:tb≠fb
theorem ir3 (X:World) (n c:Nat) (h1:X.heap.size<=c) (h2:c<X.heap.size+3):Ir (((X.alloc (.cells (madeCells #[.int .i64 0] n) 3)).alloc (.cells (madeCells #[.int .i64 0] n) 3)).alloc (.cells (madeCells #[.int .i64 0] n) 3)) c n (fun _=>0):=by
 have e1:(X.alloc (.cells (madeCells #[.int .i64 0] n) 3)).heap.size=X.heap.size+1:=by simp
 have e2:((X.alloc (.cells (madeCells #[.int .i64 0] n) 3)).alloc (.cells (madeCells #[.int .i64 0] n) 3)).heap.size=X.heap.size+2:=by simp
 have g1:Below (X.alloc (.cells (madeCells #[.int .i64 0] n) 3)).heap.size (X.alloc (.cells (madeCells #[.int .i64 0] n) 3)) ((X.alloc (.cells (madeCells #[.int .i64 0] n) 3)).alloc (.cells (madeCells #[.int .i64 0] n) 3)):=(Below.refl _ _).alloc (Nat.le_refl _) _;have g2:Below ((X.alloc (.cells (madeCells #[.int .i64 0] n) 3)).alloc (.cells (madeCells #[.int .i64 0] n) 3)).heap.size ((X.alloc (.cells (madeCells #[.int .i64 0] n) 3)).alloc (.cells (madeCells #[.int .i64 0] n) 3)) (((X.alloc (.cells (madeCells #[.int .i64 0] n) 3)).alloc (.cells (madeCells #[.int .i64 0] n) 3)).alloc (.cells (madeCells #[.int .i64 0] n) 3)):=(Below.refl _ _).alloc (Nat.le_refl _) _;have k1:=((Ir.new X n 3).up g1).up g2;have k2:=(Ir.new (X.alloc (.cells (madeCells #[.int .i64 0] n) 3)) n 3).up g2;have k3:=Ir.new ((X.alloc (.cells (madeCells #[.int .i64 0] n) 3)).alloc (.cells (madeCells #[.int .i64 0] n) 3)) n 3;rw [e1] at k2;rw [e2] at k3;rcases (by omega:c=X.heap.size\/c=X.heap.size+1\/c=X.heap.size+2) with rfl|rfl|rfl
 ·exact k1
 ·exact k2
 ·exact k3
theorem nb_of {w X:World} {ao:Option Addr} {n cap wb rb mb:Nat} {t:Tab} {a1:Option Addr} {c1:Nat} {es:List Ed} (h:Na w X ao n cap wb rb mb t a1 c1 es) (cb tb fb:Nat) (p1:X.heap.size<=cb) (q1:cb<X.heap.size+3) (p2:X.heap.size<=tb) (q2:tb<X.heap.size+3) (p3:X.heap.size<=fb) (q3:fb<X.heap.size+3) (n1:cb≠tb) (n2:cb≠fb) (n3:tb≠fb) :
  Nb w (((((((X.setCell ⟨wb,2,none⟩ (.slice (some ⟨cb,0,none⟩) n n)).setCell ⟨wb,4,none⟩ (.slice (some ⟨tb,0,none⟩) n n)).setCell ⟨wb,5,none⟩ (.slice (some ⟨fb,0,none⟩) n n)).alloc (.cells (madeCells #[.int .i64 0] n) 3)).alloc (.cells (madeCells #[.int .i64 0] n) 3)).alloc (.cells (madeCells #[.int .i64 0] n) 3)).drew) ao n cap wb rb mb cb tb fb t a1 c1 es:=by
 have hw:=h.at'.lt;have a1':=((atSet (atSet (atSet h.at' (j:=2) (by simp) (.slice (some ⟨cb,0,none⟩) n n)) (j:=4) (by simp) (.slice (some ⟨tb,0,none⟩) n n)) (j:=5) (by simp) (.slice (some ⟨fb,0,none⟩) n n)));have g:Fr (One wb) X (((X.setCell ⟨wb,2,none⟩ (.slice (some ⟨cb,0,none⟩) n n)).setCell ⟨wb,4,none⟩ (.slice (some ⟨tb,0,none⟩) n n)).setCell ⟨wb,5,none⟩ (.slice (some ⟨fb,0,none⟩) n n)):=(((Fr.refl (One wb) X).setCell (.inr rfl) _ _).setCell (.inr rfl) _ _).setCell (.inr rfl) _ _;have hsz:(((X.setCell ⟨wb,2,none⟩ (.slice (some ⟨cb,0,none⟩) n n)).setCell ⟨wb,4,none⟩ (.slice (some ⟨tb,0,none⟩) n n)).setCell ⟨wb,5,none⟩ (.slice (some ⟨fb,0,none⟩) n n)).heap.size=X.heap.size:=by simp
 obtain ⟨Y,hY⟩:∃ Y,((X.setCell ⟨wb,2,none⟩ (.slice (some ⟨cb,0,none⟩) n n)).setCell ⟨wb,4,none⟩ (.slice (some ⟨tb,0,none⟩) n n)).setCell ⟨wb,5,none⟩ (.slice (some ⟨fb,0,none⟩) n n)=Y:=⟨_,rfl⟩;rw [hY] at a1' g hsz ⊢;have g0:Below Y.heap.size Y (((Y.alloc (.cells (madeCells #[.int .i64 0] n) 3)).alloc (.cells (madeCells #[.int .i64 0] n) 3)).alloc (.cells (madeCells #[.int .i64 0] n) 3)):=by go_grown
 have gd:Below Y.heap.size Y (((Y.alloc (.cells (madeCells #[.int .i64 0] n) 3)).alloc (.cells (madeCells #[.int .i64 0] n) 3)).alloc (.cells (madeCells #[.int .i64 0] n) 3)).drew:=⟨g0.os,g0.tape,g0.output,g0.size,g0.block⟩;have i1:=ir3 Y n cb (by omega) (by omega);have i2:=ir3 Y n tb (by omega) (by omega);have i3:=ir3 Y n fb (by omega) (by omega);have r1:=h.r0;have r2:=h.rw;have r3:=h.m0;have r4:=h.mw;have u:Below w.heap.size w Y:=h.up.trans (g.below h.up.size fun k hk e=>by have e:k=wb:=e;omega);refine ⟨a1'.below gd a1'.lt,(raFr h.ra g ?_ ?_).up gd,row_up (row_fr h.eo g (fun k hk e=>?_)) gd,h.en,u.trans (gd.mono u.size),i1.up (drew_up _),i2.up (drew_up _),i3.up (drew_up _),r1,r3,r2,r4,by omega,by omega,by omega,n1,n2,n3⟩
 ·show ¬ rb=wb;omega
 ·show ¬ mb=wb;omega
 ·have:=h.en k hk
  have e:k=wb:=e;omega
def toN (es:List Ed) (i:Nat):Int:=((es.countP fun e=>decide (e.t.toNat = i):Nat):Int)
theorem toN_put (es:List Ed) (e:Ed):toN (es++[e])=updI (toN es) e.t.toNat (toN es e.t.toNat + 1):=by
 funext i
 unfold toN updI;rw [List.countP_append,List.countP_singleton]
 by_cases h:i=e.t.toNat
 ·subst h;simp
 ·rw [if_neg h,if_neg (by simpa using fun e2:e.t.toNat = i=>h e2.symm)];rfl
theorem toN_le (es:List Ed) (i:Nat):0<=toN es i/\toN es i<=es.length:=by
 unfold toN
 have:=List.countP_le_length (p:=fun e:Ed=>decide (e.t.toNat = i)) (l:=es)
 omega
theorem frm_put (es:List Ed) (e:Ed) (i:Nat):frm (es++[e]) i=if e.f.toNat = i then frm es i++[e] else frm es i:=by
 unfold frm;rw [List.filter_append]
 by_cases h:e.f.toNat = i
 ·simp [h]
 ·simp [h]
def Sep (d:Dt) (n:Nat):Prop:=∀ i j,i<n->j<n->i≠j->∀ b,(d.V i).ownBlock=some b->¬ (d.V j).ownBlock=some b
def dV (d:Dt) (i:Nat) (v:Value):Dt:=⟨d.wb,d.rb,d.mb,d.cb,d.ab,d.tb,d.fb,fun j=>if j=i then v else d.V j⟩
theorem Wy.put {w0 W X w4:World} {d:Dt} {ao:Option Addr} {cap:Nat} {t:Tab} {xs:List O} {es:List Ed} {m:Nat} {f:Int->Int->Int} {C Wt Ff:Nat->Int} (h:Wy w0 W d ao cap t xs es m f C Wt Ff) (hz:∀ i,W.frozen? ⟨d.ab,i,none⟩=false) (hs:Sep d xs.length) (hX:Below W.heap.size W X) {i g cp:Nat} {e:Ed} (hi:i<xs.length) (he:e.f.toNat = i) (hgrow:X.grownBy w4 (d.V i).ownBlock) (hown:w4.ownsRow (d.ab+1) 47 5 (.slice (some ⟨g,0,none⟩) ((frm es i).length+1) cp) ((frm es i).length+1) (ecells (frm es i)++e.cells)) (hg:(d.V i).ownBlock=some g\/W.heap.size<=g) :
  (w4.cell? ⟨d.ab,i,none⟩=some (d.V i)/\w4.frozen? ⟨d.ab,i,none⟩=false/\d.ab<w4.heap.size/\Fr (fun b=>(d.V i).ownBlock=some b) W w4) /\
  (Wy w0 (w4.setCell ⟨d.ab,i,none⟩ (.slice (some ⟨g,0,none⟩) ((frm es i).length+1) cp)) (dV d i (.slice (some ⟨g,0,none⟩) ((frm es i).length+1) cp)) ao cap t xs (es++[e]) m f C Wt Ff /\
  (∀ j,(w4.setCell ⟨d.ab,i,none⟩ (.slice (some ⟨g,0,none⟩) ((frm es i).length+1) cp)).frozen? ⟨d.ab,j,none⟩=false) /\
  Sep (dV d i (.slice (some ⟨g,0,none⟩) ((frm es i).length+1) cp)) xs.length/\Fr (fun b=>b=d.ab\/(d.V i).ownBlock=some b) W (w4.setCell ⟨d.ab,i,none⟩ (.slice (some ⟨g,0,none⟩) ((frm es i).length+1) cp))):=by
 have hF:Fr (fun b=>(d.V i).ownBlock=some b) W w4:=(Fr.of hX).trans (grown_fr hgrow) fun _ _ e=>e;have hlo:∀ b,(d.V i).ownBlock=some b->d.ab+1<=b/\b<W.heap.size:=fun b hb=>(h.rw i hi).lt b hb;have na:¬ (d.V i).ownBlock=some d.ab:=fun e=>by have:=hlo _ e;omega
 have c1:=(hF.cell h.al na i).trans (h.af i hi);have c2:=(hF.frozen h.al na i).trans (hz i);have hz4:d.ab<w4.heap.size:=Nat.lt_of_lt_of_le h.al hF.size;have o:=h.ok;have o1:=o.r0;have o2:=o.rw;have o3:=o.mw;have o4:=o.wc;have o5:=o.ca;have o6:=o.wt;have o7:=o.ta;have o8:=o.wf;have o9:=o.fa;have o10:=o.m0;have G:Fr (fun b=>b=d.ab\/(d.V i).ownBlock=some b) W (w4.setCell ⟨d.ab,i,none⟩ (.slice (some ⟨g,0,none⟩) ((frm es i).length+1) cp)):=(hF.mono fun k _ e=>.inr e).setCell (.inr (.inl rfl)) _ _;have lo:∀ b,b<d.ab->¬ (b=d.ab\/(d.V i).ownBlock=some b):=fun b hb e=>by
  rcases e with e|e
  ·omega
  ·have:=hlo b e;omega
 refine ⟨⟨c1,c2,hz4,hF⟩,⟨⟨o.r0,o.m0,o.rw,o.mw,o.wc,o.wt,o.wf,o.ct,o.cf,o.tf,o.ca,o.ta,o.fa⟩,h.up.trans (G.below h.up.size fun k hk=>lo k (by omega)),h.op,atFr h.at' G (lo d.wb (by omega)),raFr h.ra G (lo d.rb (by omega)) (lo d.mb (by omega)),h.cy.fr G (lo _ o5),h.wt.fr G (lo _ o7),h.fs.fr G (lo _ o9),fun j hj=>?_,by simpa [dV] using hz4,fun j hj=>?_⟩,fun j=>?_,fun j k hj hk hjk b hb=>?_,G⟩
 ·by_cases e:j=i
  ·subst e;show World.cell? _ ⟨d.ab,j,none⟩=some (if j=j then _ else _);rw [if_pos rfl,World.cell?_setCell_same _ _ _ c1]
  ·show World.cell? _ ⟨d.ab,j,none⟩=some (if j=i then _ else d.V j);rw [if_neg e,World.cell?_setCell_other]
   ·exact (hF.cell h.al na j).trans (h.af j hj)
   ·intro h';injection h' with _ h2;exact e h2.symm
 ·show World.ownsRow _ (d.ab+1) 47 5 (if j=i then _ else d.V j) _ _;rw [frm_put,he]
  by_cases e:j=i
  ·subst e;rw [if_pos rfl,if_pos rfl,ecells_put,List.length_append];exact row_set' hown (by omega) _
  ·rw [if_neg e,if_neg (fun e2=>e e2.symm)];refine row_fr (h.rw j hj) G fun k hk e2=>?_;rcases e2 with e2|e2
   ·have:=((h.rw j hj).lt k hk).1;omega
   ·exact hs j i hj hi e k hk e2
 ·rw [World.frozen?_setCell];exact (hF.frozen h.al na j).trans (hz j)
 ·have hb:(if j=i then Value.slice (some ⟨g,0,none⟩) ((frm es i).length+1) cp else d.V j).ownBlock=some b:=hb;show ¬ (if k=i then Value.slice (some ⟨g,0,none⟩) ((frm es i).length+1) cp else d.V k).ownBlock=some b
  by_cases e1:j=i
  ·rw [if_pos e1] at hb;rw [if_neg (fun e2=>hjk (e1.trans e2.symm))];have e3:g=b:=by simpa [Value.ownBlock] using hb
   subst e3;rcases hg with hg|hg
   ·exact hs i k hi hk (fun e=>hjk (e1.trans e)) g hg
   ·intro e4
    have:=((h.rw k hk).lt g e4).2
    omega
  ·rw [if_neg e1] at hb
   by_cases e2:k=i
   ·rw [if_pos e2];intro e3;have e3:g=b:=by simpa [Value.ownBlock] using e3
    subst e3;rcases hg with hg|hg
    ·exact hs j i hj hi e1 g hb hg
    ·have:=((h.rw j hj).lt g hb).2
     omega
   ·rw [if_neg e2];exact hs j k hj hk hjk b hb
end Go.Proofs.YtiejdpjgplikjaaGreatDoor.Ls
