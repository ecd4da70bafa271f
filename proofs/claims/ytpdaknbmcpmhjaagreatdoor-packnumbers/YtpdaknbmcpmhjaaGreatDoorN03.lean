/- Parts Ad Ea Eb Ro Rc Rw. -/
import Derived.Test.YtpdaknbmcpmhjaaGreatDoorN02
import Derived.Test.YtpdaknbmcpmhjaaGreatDoorN01
import Derived.Deep.AppendLies
import Derived.RegionTactic
import Derived.Deep.RegionLaw
import Derived.Deep.LoopGhost
set_option maxRecDepth 20000
set_option maxHeartbeats 4000000
namespace Go.Proofs.YtpdaknbmcpmhjaaGreatDoor.Al
open Go.ChangeShapes Go.WideShapes Go.ChangeAt Go.RowKit
open YtpdaknbmcpmhjaaGreatDoor.Op
theorem pair_in {xs:List O} {i j:Int} (h:pairB xs i j=true):∃ k m:Nat,k<xs.length/\m<xs.length/\i=k/\j=m:=by
  unfold pairB at h
  simp only [Bool.and_eq_true] at h
  obtain ⟨k,hk,rfl⟩:=memB_in h.1.1
  obtain ⟨m,hm,rfl⟩:=memB_in h.1.2
  exact ⟨k,m,hk,hm,rfl,rfl⟩
theorem ops_cut {w:World} {b f k m:Nat} {xs:List O} (h:OpsAt w (some ⟨b,f,none⟩) xs) (hkm:k<m) (hm:m<xs.length):OpsAt w (some ⟨b,f+k*5,none⟩) (cut xs k m):=by
  have hkl:(cut xs (k:Int) (m:Int)).length=m-k:=by unfold cut;simp;omega
  refine ⟨fun o ho=>h.ok o (cut_sub ho),by have:=h.len;omega,fun _=>?_⟩
  obtain ⟨b',f',e,hz,hx⟩:=h.is (by omega)
  cases e
  refine ⟨b,f+k*5,rfl,hz,fun i hi=>?_⟩
  have hi':k+i<xs.length:=by omega
  have e1:(cut xs (k:Int) (m:Int))[i]=xs[k+i]:=by unfold cut;simp
  have:=hx (k+i) hi'
  rw [show f+(k+i)*5=f+k*5+i*5 by omega] at this
  rw [e1];exact this
theorem meet_any (ao:Option Addr) (cap:Nat) (xs:List O) (i j:Int) (w:World) (h:OpsAt w ao xs) (hcap:xs.length<=cap) :
    Calls Tryz.prog 261 #[.slice ao xs.length cap,.int .i64 i,.int .i64 j] w fun e w'=>e=.returned (.bool (meetB xs i j))/\Below w.heap.size w w':=by
  have HP:Hid (Calls Tryz.prog 311 #[.slice ao xs.length cap,.int .i64 i,.int .i64 j] w fun e w'=>e=.returned (.bool (pairB xs i j))/\Below w.heap.size w w'):=isPair_any ao cap xs i j w h
  have hdef:meetB xs i j=(decide (i<j)&&pairB xs i j&&may (atL xs i) (atL xs j) (cut xs i j)):=rfl
  rw [hdef]
  clear hdef
  by_cases hij:i<j
  rotate_left
  · rw [decide_eq_false hij]
    have hij2:j<=i:=by omega
    clear h HP hij
    go_enter Tryz.func261,Tryz.ntmps261
    go_wp2_with fail
    go_ret
    exact ⟨rfl,Below.refl _ _⟩
  rw [decide_eq_true hij]
  cases hp:pairB xs i j
  · rw [hp] at HP
    clear h hp
    go_enter Tryz.func261,Tryz.ntmps261
    go_wp2_with (first|(go_at_call 311;refine Calls.mono HP.out ?_;rintro e w1 ⟨rfl,hb⟩))
    go_ret
    exact ⟨rfl,hb⟩
  · rw [hp] at HP
    obtain ⟨k,m,hk,hm,rfl,rfl⟩:=pair_in hp
    rw [atL_at hk,atL_at hm]
    obtain ⟨b,f,rfl,hz,hx⟩:=h.is (by omega)
    have hki:(k:Int)<xs.length:=by omega
    have hmi:(m:Int)<xs.length:=by omega
    have hlen:=h.len
    have HX:Hid (∀ W,Below w.heap.size w W->OAt W b (f+k*5) xs[k]/\OAt W b (f+m*5) xs[m]):=fun W hb=>⟨(hx k hk).below hb hz,(hx m hm).below hb hz⟩
    have hkm:k<m:=by omega
    have hi0:(0:Int)<=(k:Int):=by omega
    have hi1:(k:Int)<=(m:Int):=by omega
    have hi2:(m:Int)<=(cap:Int):=by omega
    have hi3:¬ cap=k:=by omega
    have hkl:(cut xs (k:Int) (m:Int)).length=m-k:=by unfold cut;simp;omega
    have HM:Hid (∀ W c,Below w.heap.size w W->W.cell? ⟨c,0,none⟩=some (.slice (some ⟨b,f+k*5,none⟩) (m-k) (cap-k))->c<W.heap.size->Calls Tryz.prog 312 #[xs[k].val,xs[m].val,.func (.func 346) #[] #[.pointer (some ⟨c,0,none⟩)]] W fun e w'=>e=.returned (.bool (may xs[k] xs[m] (cut xs k m)))/\Below W.heap.size W w'):=fun W c hb h1 h2=>mayBe_any _ _ _ (cap-k) c (cut xs k m) W (ops_cut (h.below hb) hkm hm) (by rw [hkl];exact h1) h2
    clear h hp hx hkl
    generalize hcut:cut xs (k:Int) (m:Int)=st at *
    clear hcut
    generalize xs[k]=x at *
    generalize xs[m]=y at *
    go_enter Tryz.func261,Tryz.ntmps261
    go_wp2_with (first|(go_at_call 311;refine Calls.mono HP.out ?_;rintro e w1 ⟨rfl,hb⟩;have HB:Hid (Below w.heap.size w w1):=hb;clear hb HP))
    have HB:Hid (Below w.heap.size w w1.drew):=HB.out.drew
    have HX2:Hid (∀ W,Below w.heap.size w W->W.cell? ⟨b,f+k*5,none⟩=some (.int .i8 x.op)/\W.cell? ⟨b,f+k*5+1,none⟩=some (.int .u8 x.d)/\W.cell? ⟨b,f+k*5+2,none⟩=some (.int .u8 x.a)/\W.cell? ⟨b,f+k*5+3,none⟩=some (.int .u8 x.b)/\W.cell? ⟨b,f+k*5+4,none⟩=some (.int .i64 x.im)/\W.cell? ⟨b,f+m*5,none⟩=some (.int .i8 y.op)/\W.cell? ⟨b,f+m*5+1,none⟩=some (.int .u8 y.d)/\W.cell? ⟨b,f+m*5+2,none⟩=some (.int .u8 y.a)/\W.cell? ⟨b,f+m*5+3,none⟩=some (.int .u8 y.b)/\W.cell? ⟨b,f+m*5+4,none⟩=some (.int .i64 y.im)):=fun W hb=>⟨(HX.out W hb).1.c0,(HX.out W hb).1.c1,(HX.out W hb).1.c2,(HX.out W hb).1.c3,(HX.out W hb).1.c4,(HX.out W hb).2.c0,(HX.out W hb).2.c1,(HX.out W hb).2.c2,(HX.out W hb).2.c3,(HX.out W hb).2.c4⟩
    clear HX
    go_region_held3 (fun w'=>w'.cell? ⟨b,f+k*5,none⟩=some (.int .i8 x.op)/\w'.cell? ⟨b,f+k*5+1,none⟩=some (.int .u8 x.d)/\w'.cell? ⟨b,f+k*5+2,none⟩=some (.int .u8 x.a)/\w'.cell? ⟨b,f+k*5+3,none⟩=some (.int .u8 x.b)/\w'.cell? ⟨b,f+k*5+4,none⟩=some (.int .i64 x.im)/\w'.cell? ⟨b,f+m*5,none⟩=some (.int .i8 y.op)/\w'.cell? ⟨b,f+m*5+1,none⟩=some (.int .u8 y.d)/\w'.cell? ⟨b,f+m*5+2,none⟩=some (.int .u8 y.a)/\w'.cell? ⟨b,f+m*5+3,none⟩=some (.int .u8 y.b)/\w'.cell? ⟨b,f+m*5+4,none⟩=some (.int .i64 y.im))
      (first|exact HX2.out _ HB.out|go_keep)
      (first
       | (go_at_call 313;refine Calls.mono (writer_any _ _ _ _) ?_;rintro e w2 ⟨rfl,hw2⟩;have HC:Hid (w2.cell? ⟨w1.drew.heap.size,0,none⟩=some (.slice (some ⟨b,f+k*5,none⟩) (m-k) (cap-k))/\w1.drew.heap.size<w2.heap.size):=(by rw [hw2];exact ⟨(At.new w1.drew #[.slice (some ⟨b,f+k*5,none⟩) (m-k) (cap-k)] 33).c 0 _ rfl,(At.new w1.drew #[.slice (some ⟨b,f+k*5,none⟩) (m-k) (cap-k)] 33).lt⟩);have HB:Hid (Below w.heap.size w w2):=(by rw [hw2];exact HB.out.alloc HB.out.size _);clear hw2)
       | (go_at_call 312;refine Calls.mono (HM.out _ _ HB.out HC.out.1 HC.out.2) ?_;rintro e w3 ⟨rfl,hb⟩;have HB:Hid (Below w.heap.size w w3):=HB.out.trans (hb.mono HB.out.size);clear hb))
    go_wp2_with fail
    go_ret
    exact ⟨ret_bool (by simp),HB.out⟩
end Go.Proofs.YtpdaknbmcpmhjaaGreatDoor.Al
namespace Go.Proofs.YtpdaknbmcpmhjaaGreatDoor.Dp
open Go.ChangeShapes Go.WideShapes Go.ChangeAt Go.RowKit
open YtpdaknbmcpmhjaaGreatDoor.Op YtpdaknbmcpmhjaaGreatDoor.So
structure Ed where
 f:Int
 t:Int
 l:Int
 d:Int
 y:Int
abbrev Ed.cells (e:Ed):List Value:=[.int .i64 e.f,.int .i64 e.t,.int .i64 e.l,.int .i64 e.d,.int .i8 e.y]
def Ed.val (e:Ed):Value:=.agg #[.int .i64 e.f,.int .i64 e.t,.int .i64 e.l,.int .i64 e.d,.int .i8 e.y]
def ecells (es:List Ed):List Value:=es.flatMap Ed.cells
theorem ecells_put (es:List Ed) (e:Ed):ecells (es++[e])=ecells es++e.cells:=by unfold ecells;simp
theorem ecells_at (es:List Ed) (i:Nat) (h:i<es.length) (j:Nat) (hj:j<5):(ecells es)[i*5+j]?=(es[i]'h).cells[j]?:=by
 induction es generalizing i with
 | nil=>simp at h
 | cons e es ih=>
  have hc:ecells (e::es)=e.cells++ecells es:=rfl;rw [hc]
  cases i with
  | zero=>
   rw [List.getElem?_append_left (by show 0*5+j<5;omega)];simp
  | succ i=>
   rw [List.getElem?_append_right (by show 5<=_;omega),show (i+1)*5+j-e.cells.length=i*5+j by show (i+1)*5+j-5=_;omega,ih i (by simpa using h)];simp
structure Rw where
 y:Int
 b:Bool
 l:Int
def edL (e:Ed) (rs:List Rw):List Ed:=rs.flatMap fun r=>if r.b then [⟨e.f,e.t,r.l,e.d,r.y⟩] else []
theorem edL_len (e:Ed) (rs:List Rw):(edL e rs).length<=rs.length:=by
 unfold edL
 induction rs with
 | nil=>simp
 | cons r rs ih=>
  rw [List.flatMap_cons,List.length_append];have e1:(r::rs).length=rs.length+1:=rfl
  split
  ·show 1+_<=_;omega
  ·show 0+_<=_;omega
theorem edL_take (e:Ed) (rs:List Rw) (k:Nat) (h:k<rs.length):edL e (rs.take (k+1))=edL e (rs.take k)++(if rs[k].b then [⟨e.f,e.t,rs[k].l,e.d,rs[k].y⟩] else []):=by
 unfold edL;rw [List.take_succ_eq_append_getElem h,List.flatMap_append];simp
structure Gr (f:Nat) (ve:Value) (w:World) (ve':Value) (w':World):Prop where
 fr:Fr (fun k=>k=f\/ve.ownBlock=some k) w w'
 ow:∀ b,b<w.heap.size->ve'.ownBlock=some b->ve.ownBlock=some b
 fc:f<w.heap.size->∀ j,¬ j=2->w'.cell? ⟨f,j,none⟩=w.cell? ⟨f,j,none⟩
theorem Gr.refl (f:Nat) (ve:Value) (w:World):Gr f ve w ve w:=⟨Fr.refl _ _,fun _ _ h=>h,fun _ _ _=>rfl⟩
theorem Gr.of {f:Nat} {ve:Value} {w w':World} (h:Below w.heap.size w w'):Gr f ve w ve w':=⟨Fr.of h,fun _ _ h=>h,fun hf _ _=>(bcell h).1 _ _ hf⟩
theorem Gr.trans {f:Nat} {ve ve' ve'':Value} {w w' w'':World} (h:Gr f ve w ve' w') (g:Gr f ve' w' ve'' w''):Gr f ve w ve'' w'':=
 ⟨h.fr.trans g.fr fun k hk hy=>hy.imp id (h.ow k hk),fun b hb e=>h.ow b hb (g.ow b (Nat.lt_of_lt_of_le hb h.fr.size) e),fun hf j hj=>(g.fc (Nat.lt_of_lt_of_le hf h.fr.size) j hj).trans (h.fc hf j hj)⟩
theorem Gr.up {f:Nat} {ve ve':Value} {w w' w'':World} (h:Gr f ve w ve' w') (g:Below w'.heap.size w' w''):Gr f ve w ve' w'':=h.trans (Gr.of g)
theorem Gr.below {f B:Nat} {ve ve':Value} {w w':World} (h:Gr f ve w ve' w') (hB:B<=f) (hw:B<=w.heap.size) (hv:∀ k,ve.ownBlock=some k->B<=k):Below B w w':=
 h.fr.below hw fun k hk hx=>by
  rcases hx with rfl|hx;· omega
  ·have:=hv k hx;omega
structure FE (w:World) (f:Nat) (ve:Value) (es:List Ed):Prop where
 c:w.cell? ⟨f,2,none⟩=some ve
 z:w.frozen? ⟨f,2,none⟩=false
 lt:f<w.heap.size
 row:w.ownsRow (f+1) 122 5 ve es.length (ecells es)
theorem row_fr {T:Nat->Prop} {w w':World} {B:Nat} {e:TypeId} {z:Nat} {v:Value} {n:Nat} {xs:List Value} (h:w.ownsRow B e z v n xs) (g:Fr T w w') (hT:∀ k,v.ownBlock=some k->¬ T k):w'.ownsRow B e z v n xs:=by
 refine ⟨h.1,h.2.imp id ?_⟩;rintro ⟨b,cap,cur,rfl,h2,h3,h4⟩;have hz:b<w.heap.size:=(h.lt b rfl).2;exact ⟨b,cap,cur,rfl,h2,by rw [g.block b hz (hT b rfl)];exact h3,h4⟩
theorem row_up {w w':World} {B:Nat} {e:TypeId} {z:Nat} {v:Value} {n:Nat} {xs:List Value} (h:w.ownsRow B e z v n xs) (hb:Below w.heap.size w w'):w'.ownsRow B e z v n xs:=row_fr h (Fr.of (X:=Non) hb) fun _ _ hk=>hk
theorem row_set' {w:World} {B:Nat} {e:TypeId} {z:Nat} {v:Value} {n:Nat} {xs:List Value} (h:w.ownsRow B e z v n xs) {b j:Nat} (hb:b<B) (u:Value):(w.setCell ⟨b,j,none⟩ u).ownsRow B e z v n xs:=
 row_fr h ((Fr.refl (One b) w).setCell (.inr rfl) j u) fun k hk e=>by
  have:=(h.lt k hk).1
  have e':k=b:=e;omega
theorem FE.up {w w':World} {f:Nat} {ve:Value} {es:List Ed} (h:FE w f ve es) (hb:Below w.heap.size w w'):FE w' f ve es:=
 ⟨by rw [(bcell hb).1 _ _ h.lt];exact h.c,by rw [(bcell hb).2 _ _ h.lt];exact h.z,Nat.lt_of_lt_of_le h.lt hb.size,row_up h.row hb⟩
theorem grown_fr {w w':World} {row:Option Nat} (h:w.grownBy w' row):Fr (fun b=>row=some b) w w':=⟨h.os,h.tape,h.output,h.size,fun k hk hx=>h.block k hk fun e=>hx e.symm⟩
theorem drew_up (w:World):Below w.heap.size w w.drew:=⟨rfl,rfl,rfl,Nat.le_refl _,fun _ _=>rfl⟩
theorem FE.next {w W w4:World} {f g cap:Nat} {ve:Value} {es:List Ed} {e:Ed} (h:FE w f ve es) (hW:Below w.heap.size w W) (hgrow:W.grownBy w4 ve.ownBlock)
  (hown:w4.ownsRow (f+1) 122 5 (.slice (some ⟨g,0,none⟩) (es.length+1) cap) (es.length+1) (ecells es++e.cells)) (hg:ve.ownBlock=some g\/w.heap.size<=g) :
  (w4.cell? ⟨f,2,none⟩=some ve/\w4.frozen? ⟨f,2,none⟩=false/\f<w4.heap.size) /\
  FE (w4.setCell ⟨f,2,none⟩ (.slice (some ⟨g,0,none⟩) (es.length+1) cap)) f (.slice (some ⟨g,0,none⟩) (es.length+1) cap) (es++[e]) /\
  Gr f ve w (.slice (some ⟨g,0,none⟩) (es.length+1) cap) (w4.setCell ⟨f,2,none⟩ (.slice (some ⟨g,0,none⟩) (es.length+1) cap)):=by
 have hF:Fr (fun b=>ve.ownBlock=some b) w w4:=(Fr.of hW).trans (grown_fr hgrow) fun _ _ e=>e;have nf:¬ ve.ownBlock=some f:=fun e=>by have:=(h.row.lt f e).1;omega
 have c1:=hF.cell h.lt nf 2;have c2:=hF.frozen h.lt nf 2;have hz:f<w4.heap.size:=Nat.lt_of_lt_of_le h.lt hF.size;rw [h.c] at c1;rw [h.z] at c2;refine ⟨⟨c1,c2,hz⟩,⟨World.cell?_setCell_same _ _ _ c1,by rw [World.frozen?_setCell];exact c2,by simpa using hz,?_⟩,?_,?_,fun _ j hj=>?_⟩
 ·rw [ecells_put,List.length_append];exact row_set' hown (by omega) _
 ·exact (hF.mono fun k _ e=>.inr e).setCell (.inr (.inl rfl)) _ _
 ·intro b hb e;rcases hg with hg|hg
  ·rw [hg];exact e
  ·have:g=b:=by simpa [Value.ownBlock] using e
   omega
 ·rw [World.cell?_setCell_other]
  ·exact hF.cell h.lt nf j
  ·intro h';injection h' with _ h2;exact hj h2.symm
structure RowsAt (w:World) (rb:Nat) (rs:List Rw):Prop where
 lt:rb<w.heap.size
 c0:∀ (k:Nat) (h:k<rs.length),w.cell? ⟨rb,k*3,none⟩=some (.int .i8 rs[k].y)
 c1:∀ (k:Nat) (h:k<rs.length),w.cell? ⟨rb,k*3+1,none⟩=some (.bool rs[k].b)
 c2:∀ (k:Nat) (h:k<rs.length),w.cell? ⟨rb,k*3+2,none⟩=some (.int .i64 rs[k].l)
theorem RowsAt.fr {X:Nat->Prop} {w w':World} {rb:Nat} {rs:List Rw} (h:RowsAt w rb rs) (g:Fr X w w') (hx:¬ X rb):RowsAt w' rb rs:=
 ⟨Nat.lt_of_lt_of_le h.lt g.size,fun k hk=>by rw [g.cell h.lt hx];exact h.c0 k hk,fun k hk=>by rw [g.cell h.lt hx];exact h.c1 k hk,fun k hk=>by rw [g.cell h.lt hx];exact h.c2 k hk⟩
theorem info122:(Tryz.prog.info? 122).map (fun i=>(i.zero,i.size,i.bytes))=some (some (.agg #[.int .i64 0,.int .i64 0,.int .i64 0,.int .i64 0,.int .i8 0]),5,40):=by kernel_rfl
theorem at_fr' {X:Nat->Prop} {w w':World} {b:Nat} {cs:Array Value} (h:At w b cs) (g:Fr X w w') (hx:¬ X b):At w' b cs:=⟨fun j v e=>(g.cell h.lt hx j).trans (h.c j v e),fun j=>(g.frozen h.lt hx j).trans (h.f j),Nat.lt_of_lt_of_le h.lt g.size⟩
theorem at_set' {w:World} {q j:Nat} {cs:Array Value} (h:At w q cs) (hj:j<cs.size) (v:Value):At (w.setCell ⟨q,j,none⟩ v) q (cs.setIfInBounds j v):=by
 refine ⟨fun k u hk=>?_,fun k=>by rw [World.frozen?_setCell];exact h.f k,by simpa using h.lt⟩
 by_cases e:j=k
 ·subst e;rw [World.cell?_setCell_same _ _ _ (h.c j _ (Array.getElem?_eq_getElem hj))];rw [Array.getElem?_setIfInBounds_self_of_lt hj] at hk;exact hk
 ·rw [Array.getElem?_setIfInBounds_ne e] at hk;rw [World.cell?_setCell_other]
  ·exact h.c k u hk
  ·intro h';injection h' with _ h2;exact e h2
structure Pu (w:World) (f:Nat) (e:Ed) (ve:Value) (W:World) (ve':Value) (l y:Int) (es:List Ed):Prop where
 fe:FE W f ve' es
 gr:Gr f ve w ve' W
 box:At W w.heap.size #[.int .i64 e.f,.int .i64 e.t,.int .i64 l,.int .i64 e.d,.int .i8 y]
 no:¬ ve'.ownBlock=some w.heap.size
 lt:f<w.heap.size
theorem Pu.start {w:World} {f:Nat} {ve:Value} {es:List Ed} (h:FE w f ve es) (e:Ed) (t:TypeId):Pu w f e ve (w.alloc (.cells #[.int .i64 e.f,.int .i64 e.t,.int .i64 e.l,.int .i64 e.d,.int .i8 e.y] t)) ve e.l e.y es:=
 ⟨h.up ((Below.refl _ _).alloc (Nat.le_refl _) _),Gr.of ((Below.refl _ _).alloc (Nat.le_refl _) _),At.new w _ t,fun e=>by have:=(h.row.lt _ e).2;omega,h.lt⟩
theorem Pu.up {w W W':World} {f:Nat} {e:Ed} {ve ve':Value} {l y:Int} {es:List Ed} (h:Pu w f e ve W ve' l y es) (hb:Below W.heap.size W W'):Pu w f e ve W' ve' l y es:=
 ⟨h.fe.up hb,h.gr.up hb,h.box.below hb h.box.lt,h.no,h.lt⟩
theorem Pu.set {w W:World} {f:Nat} {e:Ed} {ve ve':Value} {l y:Int} {es:List Ed} (h:Pu w f e ve W ve' l y es) (j:Nat) (v:Value) (l' y':Int) (hj:j<5) (hv:(#[.int .i64 e.f,.int .i64 e.t,.int .i64 l,.int .i64 e.d,.int .i8 y]:Array Value).setIfInBounds j v=#[.int .i64 e.f,.int .i64 e.t,.int .i64 l',.int .i64 e.d,.int .i8 y']) :
  Pu w f e ve (W.setCell ⟨w.heap.size,j,none⟩ v) ve' l' y' es:=by
 have hlt:=h.lt;have hF:Fr (One w.heap.size) W (W.setCell ⟨w.heap.size,j,none⟩ v):=(Fr.refl (One w.heap.size) W).setCell (.inr rfl) _ _;have nf:¬ One w.heap.size f:=fun e=>by have e':f=w.heap.size:=e;omega
 refine ⟨⟨?_,?_,?_,?_⟩,⟨h.gr.fr.setCell (.inl (Nat.le_refl _)) _ _,h.gr.ow,fun hf k hk=>(hF.cell h.fe.lt nf k).trans (h.gr.fc hf k hk)⟩,?_,h.no,h.lt⟩
 ·rw [hF.cell h.fe.lt nf];exact h.fe.c
 ·rw [hF.frozen h.fe.lt nf];exact h.fe.z
 ·simpa using h.fe.lt
 ·exact row_fr h.fe.row hF fun k hk e=>h.no (by have e':k=w.heap.size:=e;rw [<- e'];exact hk)
 ·rw [<- hv];exact at_set' h.box (by simpa using hj) v
theorem Pu.next {w W W' w4:World} {f g cap:Nat} {e:Ed} {ve ve':Value} {l y:Int} {es:List Ed} (h:Pu w f e ve W ve' l y es) (hW:Below W.heap.size W W') (hgrow:W'.grownBy w4 ve'.ownBlock)
  (hown:w4.ownsRow (f+1) 122 5 (.slice (some ⟨g,0,none⟩) (es.length+1) cap) (es.length+1) (ecells es++[.int .i64 e.f,.int .i64 e.t,.int .i64 l,.int .i64 e.d,.int .i8 y])) (hg:ve'.ownBlock=some g\/W.heap.size<=g) :
  (w4.cell? ⟨f,2,none⟩=some ve'/\w4.frozen? ⟨f,2,none⟩=false/\f<w4.heap.size) /\
  Pu w f e ve (w4.setCell ⟨f,2,none⟩ (.slice (some ⟨g,0,none⟩) (es.length+1) cap)) (.slice (some ⟨g,0,none⟩) (es.length+1) cap) l y (es++[⟨e.f,e.t,l,e.d,y⟩]):=by
 obtain ⟨h1,h2,h3⟩:=h.fe.next (e:=⟨e.f,e.t,l,e.d,y⟩) hW hgrow hown hg;have hlt:=h.lt;refine ⟨h1,h2,h.gr.trans h3,at_fr' h.box h3.fr ?_,?_,h.lt⟩
 ·rintro (e|e)
  ·omega
  ·exact h.no e
 ·intro e;have e':g=w.heap.size:=by simpa [Value.ownBlock] using e
  have hb:=h.box.lt;rcases hg with hg|hg
  ·exact h.no (by rw [hg,e'])
  ·omega
theorem put_any (f:Nat) (e:Ed) (rb cap:Nat) (rs:List Rw) (ve:Value) (es:List Ed) (w:World) (hF:FE w f ve es) (hr:RowsAt w rb rs) (hn:rs.length<=5) (hne:¬ rb=f) (hno:¬ ve.ownBlock=some rb) (hl:es.length<=1000000000) :
  Calls Tryz.prog 309 #[.pointer (some ⟨f,0,none⟩),e.val,.slice (some ⟨rb,0,none⟩) rs.length cap] w fun r w'=>r=.returned (.tuple #[])/\∃ ve',FE w' f ve' (es++edL e rs)/\Gr f ve w ve' w':=by
 have HR:Hid (∀ W ve' l y es',Pu w f e ve W ve' l y es'->RowsAt W rb rs):=fun W ve' l y es' h=>hr.fr h.gr.fr fun hx=>hx.elim hne hno;have HP:Hid (Pu w f e ve (w.alloc (.cells #[.int .i64 e.f,.int .i64 e.t,.int .i64 e.l,.int .i64 e.d,.int .i8 e.y] 122)) ve e.l e.y es):=Pu.start hF e 122;obtain ⟨i0,hi,hi2⟩:=Option.map_eq_some_iff.1 info122;simp only [Prod.mk.injEq] at hi2;obtain ⟨hz0,hz1,hz2⟩:=hi2;have HI:Hid (Tryz.prog.info? 122=some i0/\i0.zero=some (.agg #[.int .i64 0,.int .i64 0,.int .i64 0,.int .i64 0,.int .i8 0])/\i0.size=5/\i0.bytes=40):=⟨hi,hz0,hz1,hz2⟩;have hff:f<w.heap.size:=hF.lt;have hnf:¬ f=w.heap.size:=by omega
 have hnf':¬ w.heap.size=f:=by omega
 clear hi hz0 hz1 hz2 hr hF;unfold Ed.val;go_enter Tryz.func309,Tryz.ntmps309;go_wp2_with fail
 go_loopw [10] (fun i wr=>∃ (k:Nat) (ve':Value) (l y:Int),k<=rs.length/\i=.int .i64 k/\Pu w f e ve wr ve' l y (es++edL e (rs.take k))) (fun i _=>rs.length-(intOf i).toNat)
 case atStart=>exact ⟨0,ve,e.l,e.y,by omega,rfl,by simpa [edL] using HP.out⟩
 case round=>
  rename World=>wr;obtain ⟨k,ve',l,y,hk,rfl,hp⟩:=hrel;have HQ:Hid (Pu w f e ve wr ve' l y (es++edL e (rs.take k))):=hp;clear hp HP
  by_cases hlt:k<rs.length
  ·have hki:(k:Int)<rs.length:=by omega
   have hk0:(0:Int)<=(k:Int):=by omega
   have hra:=HR.out _ _ _ _ _ HQ.out;have r0:=hra.c0 k hlt;have r1:=hra.c1 k hlt;have r2:=hra.c2 k hlt;have rl:=hra.lt;have HE:Hid (edL e (rs.take (k+1))=edL e (rs.take k)++(if rs[k].b then [⟨e.f,e.t,rs[k].l,e.d,rs[k].y⟩] else [])):=edL_take e rs k hlt;have hel:Hid ((es++edL e (rs.take k)).length<=1000000005):=by
    have h5:=edL_len e (rs.take k);have h6:(rs.take k).length<=k:=by simp;omega
    show (es++edL e (rs.take k)).length<=1000000005;rw [List.length_append];omega
   clear hra;generalize rs[k]=r at *;obtain ⟨es',hes⟩:∃ es',es++edL e (rs.take k)=es':=⟨_,rfl⟩;have HES:Hid (es++edL e (rs.take k)=es'):=hes;rw [hes] at HQ hel;clear hes
   cases hb:r.b
   ·rw [hb] at r1;go_wp2_with fail
    go_roundw
    case rel=>exact ⟨k+1,ve',l,y,by omega,by go_num,by
     rw [HE.out,hb,<- List.append_assoc,HES.out];simpa using HQ.out.up (by go_grown)⟩
    case measure=>simp [intOf];omega
   ·rw [hb] at r1;have HE2:Hid (es++edL e (rs.take (k+1))=es'++[⟨e.f,e.t,r.l,e.d,r.y⟩]):=by
     show es++edL e (rs.take (k+1))=es'++[⟨e.f,e.t,r.l,e.d,r.y⟩];rw [HE.out,hb,<- List.append_assoc,HES.out];rfl
    have bx:=HQ.out.box;have f2:=bx.f 2;have f4:=bx.f 4;have bl:=bx.lt;have g2:=bx.c 2 _ rfl;have g4:=bx.c 4 _ rfl;clear bx;go_wp2_with fail
    go_region
    have HX:Hid (Pu w f e ve ((((wr.setCell ⟨w.heap.size,4,none⟩ (.int .i8 r.y)).setCell ⟨w.heap.size,2,none⟩ (.int .i64 r.l)).alloc (.cells #[.int .i8 r.y,.bool true,.int .i64 r.l] 388)).drew) ve' r.l r.y es'):=((HQ.out.set 4 (.int .i8 r.y) l r.y (by decide) rfl).set 2 (.int .i64 r.l) r.l r.y (by decide) rfl).up (((Below.refl _ _).alloc (Nat.le_refl _) _).trans (drew_up _ |>.mono (by simp)));generalize ((((wr.setCell ⟨w.heap.size,4,none⟩ (.int .i8 r.y)).setCell ⟨w.heap.size,2,none⟩ (.int .i64 r.l)).alloc (.cells #[.int .i8 r.y,.bool true,.int .i64 r.l] 388)).drew)=X at *;clear HQ f2 f4 bl g2 g4 r0 r1 r2 rl HE HES;have bx:=HX.out.box;have f2:=bx.f 2;have f4:=bx.f 4;have bl:=bx.lt;have b0:=bx.c 0 _ rfl;have b1:=bx.c 1 _ rfl;have b2:=bx.c 2 _ rfl;have b3:=bx.c 3 _ rfl;have b4:=bx.c 4 _ rfl;have y0:=HX.out.fe.c;have y1:=HX.out.fe.z;have y2:=HX.out.fe.lt;have hel2:=hel.out;clear bx;go_wp2_with fail
    have e1:X.drew.heap.size=X.heap.size:=rfl
    go_region_law
     ((refine step_append_lies _ (by rfl) _ _ 118 (by rfl) (f+1) 122 i0 (.agg #[.int .i64 0,.int .i64 0,.int .i64 0,.int .i64 0,.int .i8 0]) 5 40 Tryz.underlying118 HI.out.1 HI.out.2.1 HI.out.2.2.1 HI.out.2.2.2 rfl (by decide) ve' es'.length (ecells es') (by rfl) (HX.out.fe.row.drew.alloc _) ⟨X.heap.size,0,none⟩ 1 1 [.int .i64 e.f,.int .i64 e.t,.int .i64 r.l,.int .i64 e.d,.int .i8 r.y] (by rfl) rfl (World.news_of_block (heap_alloc_new X.drew (.cells #[.int .i64 e.f,.int .i64 e.t,.int .i64 r.l,.int .i64 e.d,.int .i8 r.y] 122))) (by simp [Value.oneCell']) (by decide) (by unfold maxLen;omega) (by omega) (by have h5:=HX.out.fe.lt;simp;omega) _ rfl ?_;intro g cap w4 hown hgrow hg hlt3;have HP3:Hid ((w4.cell? ⟨f,2,none⟩=some ve'/\w4.frozen? ⟨f,2,none⟩=false/\f<w4.heap.size)/\Pu w f e ve (w4.setCell ⟨f,2,none⟩ (.slice (some ⟨g,0,none⟩) (es'.length+1) cap)) (.slice (some ⟨g,0,none⟩) (es'.length+1) cap) r.l r.y (es'++[⟨e.f,e.t,r.l,e.d,r.y⟩])):=HX.out.next ((drew_up X).alloc (Nat.le_refl _) _) hgrow hown (hg.imp id fun e=>by rw [e];simp);have z0:=HP3.out.1.1;have z1:=HP3.out.1.2.1;have z2:=HP3.out.1.2.2;clear hown hgrow hg hlt3))
    all_goals
     go_wp2_with fail
     go_roundw
     case rel=>exact ⟨k+1,_,r.l,r.y,by omega,by go_num,by rw [HE2.out];exact HP3.out.2⟩
     case measure=>simp [intOf];omega
  ·have hki:¬ (k:Int)<rs.length:=by omega
   go_wp2_with fail
   go_end0
   obtain rfl:k=rs.length:=by omega
   rw [List.take_length] at HQ;exact ⟨rfl,ve',HQ.out.fe,HQ.out.gr⟩
end Go.Proofs.YtpdaknbmcpmhjaaGreatDoor.Dp
namespace Go.Proofs.YtpdaknbmcpmhjaaGreatDoor.Op
open Go.ChangeShapes Go.WideShapes Go.ChangeAt Go.RowKit
abbrev rz:Value:=.agg #[.string ⟨#[]⟩,.int .i64 0,.bool false,.bool false,.bool false,.bool false,.bool false]
abbrev K.row (k:K):Value:=.agg #[.string k.s,.int .i64 k.cls,.bool k.D,.bool k.A,.bool k.B,.bool k.N,.bool k.I]
theorem turns18 (w:World):Calls Tryz.prog 229 #[.int .i8 18] w fun e w'=>e=.returned (.tuple #[(kindL[18]'(by decide)).row,.bool true])/\Below w.heap.size w w':=by
 go_enter Tryz.func229,Tryz.ntmps229;go_wp2
 refine bodyPost_ret (v:=.tuple #[(kindL[18]'(by decide)).row,.bool true]) (by simp [results,Tryz.results229,go_sem];exact ⟨rfl,rfl,rfl,rfl,rfl,rfl,rfl⟩) rfl ⟨rfl,by go_grown⟩
theorem turns19 (w:World):Calls Tryz.prog 229 #[.int .i8 19] w fun e w'=>e=.returned (.tuple #[(kindL[19]'(by decide)).row,.bool true])/\Below w.heap.size w w':=by
 go_enter Tryz.func229,Tryz.ntmps229;go_wp2
 refine bodyPost_ret (v:=.tuple #[(kindL[19]'(by decide)).row,.bool true]) (by simp [results,Tryz.results229,go_sem];exact ⟨rfl,rfl,rfl,rfl,rfl,rfl,rfl⟩) rfl ⟨rfl,by go_grown⟩
theorem turns20 (w:World):Calls Tryz.prog 229 #[.int .i8 20] w fun e w'=>e=.returned (.tuple #[(kindL[20]'(by decide)).row,.bool true])/\Below w.heap.size w w':=by
 go_enter Tryz.func229,Tryz.ntmps229;go_wp2
 refine bodyPost_ret (v:=.tuple #[(kindL[20]'(by decide)).row,.bool true]) (by simp [results,Tryz.results229,go_sem];exact ⟨rfl,rfl,rfl,rfl,rfl,rfl,rfl⟩) rfl ⟨rfl,by go_grown⟩
theorem turns21 (w:World):Calls Tryz.prog 229 #[.int .i8 21] w fun e w'=>e=.returned (.tuple #[(kindL[21]'(by decide)).row,.bool true])/\Below w.heap.size w w':=by
 go_enter Tryz.func229,Tryz.ntmps229;go_wp2
 refine bodyPost_ret (v:=.tuple #[(kindL[21]'(by decide)).row,.bool true]) (by simp [results,Tryz.results229,go_sem];exact ⟨rfl,rfl,rfl,rfl,rfl,rfl,rfl⟩) rfl ⟨rfl,by go_grown⟩
theorem turns22 (w:World):Calls Tryz.prog 229 #[.int .i8 22] w fun e w'=>e=.returned (.tuple #[(kindL[22]'(by decide)).row,.bool true])/\Below w.heap.size w w':=by
 go_enter Tryz.func229,Tryz.ntmps229;go_wp2
 refine bodyPost_ret (v:=.tuple #[(kindL[22]'(by decide)).row,.bool true]) (by simp [results,Tryz.results229,go_sem];exact ⟨rfl,rfl,rfl,rfl,rfl,rfl,rfl⟩) rfl ⟨rfl,by go_grown⟩
theorem turns23 (w:World):Calls Tryz.prog 229 #[.int .i8 23] w fun e w'=>e=.returned (.tuple #[(kindL[23]'(by decide)).row,.bool true])/\Below w.heap.size w w':=by
 go_enter Tryz.func229,Tryz.ntmps229;go_wp2
 refine bodyPost_ret (v:=.tuple #[(kindL[23]'(by decide)).row,.bool true]) (by simp [results,Tryz.results229,go_sem];exact ⟨rfl,rfl,rfl,rfl,rfl,rfl,rfl⟩) rfl ⟨rfl,by go_grown⟩
theorem turnsNo (d:Int) (w:World) (h:d<18\/24<=d):Calls Tryz.prog 229 #[.int .i8 d] w fun e w'=>e=.returned (.tuple #[rz,.bool false])/\Below w.heap.size w w':=by
 have g18:(d==18)=false:=by simp;omega
 have g19:(d==19)=false:=by simp;omega
 have g20:(d==20)=false:=by simp;omega
 have g21:(d==21)=false:=by simp;omega
 have g22:(d==22)=false:=by simp;omega
 have g23:(d==23)=false:=by simp;omega
 clear h;go_enter Tryz.func229,Tryz.ntmps229;go_wp2
 refine bodyPost_ret (v:=.tuple #[rz,.bool false]) (by simp [results,Tryz.results229,go_sem]) rfl ⟨rfl,by go_grown⟩
theorem of0 (w:World):Calls Tryz.prog 176 #[.int .i8 0] w fun e w'=>e=.returned (.tuple #[(kindL[0]'(by decide)).row,.bool true])/\Below w.heap.size w w':=by
 go_enter Tryz.func176,Tryz.ntmps176;go_wp2
 refine bodyPost_ret (v:=.tuple #[(kindL[0]'(by decide)).row,.bool true]) (by simp [results,Tryz.results176,go_sem];exact ⟨rfl,rfl,rfl,rfl,rfl,rfl,rfl⟩) rfl ⟨rfl,by go_grown⟩
theorem of1 (w:World):Calls Tryz.prog 176 #[.int .i8 1] w fun e w'=>e=.returned (.tuple #[(kindL[1]'(by decide)).row,.bool true])/\Below w.heap.size w w':=by
 go_enter Tryz.func176,Tryz.ntmps176;go_wp2
 refine bodyPost_ret (v:=.tuple #[(kindL[1]'(by decide)).row,.bool true]) (by simp [results,Tryz.results176,go_sem];exact ⟨rfl,rfl,rfl,rfl,rfl,rfl,rfl⟩) rfl ⟨rfl,by go_grown⟩
theorem of2 (w:World):Calls Tryz.prog 176 #[.int .i8 2] w fun e w'=>e=.returned (.tuple #[(kindL[2]'(by decide)).row,.bool true])/\Below w.heap.size w w':=by
 go_enter Tryz.func176,Tryz.ntmps176;go_wp2
 refine bodyPost_ret (v:=.tuple #[(kindL[2]'(by decide)).row,.bool true]) (by simp [results,Tryz.results176,go_sem];exact ⟨rfl,rfl,rfl,rfl,rfl,rfl,rfl⟩) rfl ⟨rfl,by go_grown⟩
theorem of3 (w:World):Calls Tryz.prog 176 #[.int .i8 3] w fun e w'=>e=.returned (.tuple #[(kindL[3]'(by decide)).row,.bool true])/\Below w.heap.size w w':=by
 go_enter Tryz.func176,Tryz.ntmps176;go_wp2
 refine bodyPost_ret (v:=.tuple #[(kindL[3]'(by decide)).row,.bool true]) (by simp [results,Tryz.results176,go_sem];exact ⟨rfl,rfl,rfl,rfl,rfl,rfl,rfl⟩) rfl ⟨rfl,by go_grown⟩
theorem of4 (w:World):Calls Tryz.prog 176 #[.int .i8 4] w fun e w'=>e=.returned (.tuple #[(kindL[4]'(by decide)).row,.bool true])/\Below w.heap.size w w':=by
 go_enter Tryz.func176,Tryz.ntmps176;go_wp2
 refine bodyPost_ret (v:=.tuple #[(kindL[4]'(by decide)).row,.bool true]) (by simp [results,Tryz.results176,go_sem];exact ⟨rfl,rfl,rfl,rfl,rfl,rfl,rfl⟩) rfl ⟨rfl,by go_grown⟩
theorem of5 (w:World):Calls Tryz.prog 176 #[.int .i8 5] w fun e w'=>e=.returned (.tuple #[(kindL[5]'(by decide)).row,.bool true])/\Below w.heap.size w w':=by
 go_enter Tryz.func176,Tryz.ntmps176;go_wp2
 refine bodyPost_ret (v:=.tuple #[(kindL[5]'(by decide)).row,.bool true]) (by simp [results,Tryz.results176,go_sem];exact ⟨rfl,rfl,rfl,rfl,rfl,rfl,rfl⟩) rfl ⟨rfl,by go_grown⟩
theorem of6 (w:World):Calls Tryz.prog 176 #[.int .i8 6] w fun e w'=>e=.returned (.tuple #[(kindL[6]'(by decide)).row,.bool true])/\Below w.heap.size w w':=by
 go_enter Tryz.func176,Tryz.ntmps176;go_wp2
 refine bodyPost_ret (v:=.tuple #[(kindL[6]'(by decide)).row,.bool true]) (by simp [results,Tryz.results176,go_sem];exact ⟨rfl,rfl,rfl,rfl,rfl,rfl,rfl⟩) rfl ⟨rfl,by go_grown⟩
theorem of7 (w:World):Calls Tryz.prog 176 #[.int .i8 7] w fun e w'=>e=.returned (.tuple #[(kindL[7]'(by decide)).row,.bool true])/\Below w.heap.size w w':=by
 go_enter Tryz.func176,Tryz.ntmps176;go_wp2
 refine bodyPost_ret (v:=.tuple #[(kindL[7]'(by decide)).row,.bool true]) (by simp [results,Tryz.results176,go_sem];exact ⟨rfl,rfl,rfl,rfl,rfl,rfl,rfl⟩) rfl ⟨rfl,by go_grown⟩
theorem of8 (w:World):Calls Tryz.prog 176 #[.int .i8 8] w fun e w'=>e=.returned (.tuple #[(kindL[8]'(by decide)).row,.bool true])/\Below w.heap.size w w':=by
 go_enter Tryz.func176,Tryz.ntmps176;go_wp2
 refine bodyPost_ret (v:=.tuple #[(kindL[8]'(by decide)).row,.bool true]) (by simp [results,Tryz.results176,go_sem];exact ⟨rfl,rfl,rfl,rfl,rfl,rfl,rfl⟩) rfl ⟨rfl,by go_grown⟩
theorem of9 (w:World):Calls Tryz.prog 176 #[.int .i8 9] w fun e w'=>e=.returned (.tuple #[(kindL[9]'(by decide)).row,.bool true])/\Below w.heap.size w w':=by
 go_enter Tryz.func176,Tryz.ntmps176;go_wp2
 refine bodyPost_ret (v:=.tuple #[(kindL[9]'(by decide)).row,.bool true]) (by simp [results,Tryz.results176,go_sem];exact ⟨rfl,rfl,rfl,rfl,rfl,rfl,rfl⟩) rfl ⟨rfl,by go_grown⟩
theorem of10 (w:World):Calls Tryz.prog 176 #[.int .i8 10] w fun e w'=>e=.returned (.tuple #[(kindL[10]'(by decide)).row,.bool true])/\Below w.heap.size w w':=by
 go_enter Tryz.func176,Tryz.ntmps176;go_wp2
 refine bodyPost_ret (v:=.tuple #[(kindL[10]'(by decide)).row,.bool true]) (by simp [results,Tryz.results176,go_sem];exact ⟨rfl,rfl,rfl,rfl,rfl,rfl,rfl⟩) rfl ⟨rfl,by go_grown⟩
theorem of11 (w:World):Calls Tryz.prog 176 #[.int .i8 11] w fun e w'=>e=.returned (.tuple #[(kindL[11]'(by decide)).row,.bool true])/\Below w.heap.size w w':=by
 go_enter Tryz.func176,Tryz.ntmps176;go_wp2
 refine bodyPost_ret (v:=.tuple #[(kindL[11]'(by decide)).row,.bool true]) (by simp [results,Tryz.results176,go_sem];exact ⟨rfl,rfl,rfl,rfl,rfl,rfl,rfl⟩) rfl ⟨rfl,by go_grown⟩
theorem of12 (w:World):Calls Tryz.prog 176 #[.int .i8 12] w fun e w'=>e=.returned (.tuple #[(kindL[12]'(by decide)).row,.bool true])/\Below w.heap.size w w':=by
 go_enter Tryz.func176,Tryz.ntmps176;go_wp2
 refine bodyPost_ret (v:=.tuple #[(kindL[12]'(by decide)).row,.bool true]) (by simp [results,Tryz.results176,go_sem];exact ⟨rfl,rfl,rfl,rfl,rfl,rfl,rfl⟩) rfl ⟨rfl,by go_grown⟩
theorem of13 (w:World):Calls Tryz.prog 176 #[.int .i8 13] w fun e w'=>e=.returned (.tuple #[(kindL[13]'(by decide)).row,.bool true])/\Below w.heap.size w w':=by
 go_enter Tryz.func176,Tryz.ntmps176;go_wp2
 refine bodyPost_ret (v:=.tuple #[(kindL[13]'(by decide)).row,.bool true]) (by simp [results,Tryz.results176,go_sem];exact ⟨rfl,rfl,rfl,rfl,rfl,rfl,rfl⟩) rfl ⟨rfl,by go_grown⟩
theorem of14 (w:World):Calls Tryz.prog 176 #[.int .i8 14] w fun e w'=>e=.returned (.tuple #[(kindL[14]'(by decide)).row,.bool true])/\Below w.heap.size w w':=by
 go_enter Tryz.func176,Tryz.ntmps176;go_wp2
 refine bodyPost_ret (v:=.tuple #[(kindL[14]'(by decide)).row,.bool true]) (by simp [results,Tryz.results176,go_sem];exact ⟨rfl,rfl,rfl,rfl,rfl,rfl,rfl⟩) rfl ⟨rfl,by go_grown⟩
theorem of15 (w:World):Calls Tryz.prog 176 #[.int .i8 15] w fun e w'=>e=.returned (.tuple #[(kindL[15]'(by decide)).row,.bool true])/\Below w.heap.size w w':=by
 go_enter Tryz.func176,Tryz.ntmps176;go_wp2
 refine bodyPost_ret (v:=.tuple #[(kindL[15]'(by decide)).row,.bool true]) (by simp [results,Tryz.results176,go_sem];exact ⟨rfl,rfl,rfl,rfl,rfl,rfl,rfl⟩) rfl ⟨rfl,by go_grown⟩
theorem of16 (w:World):Calls Tryz.prog 176 #[.int .i8 16] w fun e w'=>e=.returned (.tuple #[(kindL[16]'(by decide)).row,.bool true])/\Below w.heap.size w w':=by
 go_enter Tryz.func176,Tryz.ntmps176;go_wp2
 refine bodyPost_ret (v:=.tuple #[(kindL[16]'(by decide)).row,.bool true]) (by simp [results,Tryz.results176,go_sem];exact ⟨rfl,rfl,rfl,rfl,rfl,rfl,rfl⟩) rfl ⟨rfl,by go_grown⟩
theorem of17 (w:World):Calls Tryz.prog 176 #[.int .i8 17] w fun e w'=>e=.returned (.tuple #[(kindL[17]'(by decide)).row,.bool true])/\Below w.heap.size w w':=by
 go_enter Tryz.func176,Tryz.ntmps176;go_wp2
 refine bodyPost_ret (v:=.tuple #[(kindL[17]'(by decide)).row,.bool true]) (by simp [results,Tryz.results176,go_sem];exact ⟨rfl,rfl,rfl,rfl,rfl,rfl,rfl⟩) rfl ⟨rfl,by go_grown⟩
theorem At.r7 {w:World} {b:Nat} {x0 x1 x2 x3 x4 x5 x6:Value} (h:At w b #[x0,x1,x2,x3,x4,x5,x6]):w.cell? ⟨b,0,none⟩=some x0/\w.cell? ⟨b,1,none⟩=some x1/\w.cell? ⟨b,2,none⟩=some x2/\w.cell? ⟨b,3,none⟩=some x3/\w.cell? ⟨b,4,none⟩=some x4/\w.cell? ⟨b,5,none⟩=some x5/\w.cell? ⟨b,6,none⟩=some x6:=
 ⟨h.c 0 _ rfl,h.c 1 _ rfl,h.c 2 _ rfl,h.c 3 _ rfl,h.c 4 _ rfl,h.c 5 _ rfl,h.c 6 _ rfl⟩
theorem ofTurns (d:Int) (x0:ByteArray) (x1:Int) (x2 x3 x4 x5 x6 x7:Bool) (w:World) (h:d<0\/18<=d) (hT:∀ w,Calls Tryz.prog 229 #[.int .i8 d] w fun e w'=>e=.returned (.tuple #[.agg #[.string x0,.int .i64 x1,.bool x2,.bool x3,.bool x4,.bool x5,.bool x6],.bool x7])/\Below w.heap.size w w') :
  Calls Tryz.prog 176 #[.int .i8 d] w fun e w'=>e=.returned (.tuple #[.agg #[.string x0,.int .i64 x1,.bool x2,.bool x3,.bool x4,.bool x5,.bool x6],.bool x7])/\Below w.heap.size w w':=by
 have g0:(d==0)=false:=by simp;omega
 have g1:(d==1)=false:=by simp;omega
 have g2:(d==2)=false:=by simp;omega
 have g3:(d==3)=false:=by simp;omega
 have g4:(d==4)=false:=by simp;omega
 have g5:(d==5)=false:=by simp;omega
 have g6:(d==6)=false:=by simp;omega
 have g7:(d==7)=false:=by simp;omega
 have g8:(d==8)=false:=by simp;omega
 have g9:(d==9)=false:=by simp;omega
 have g10:(d==10)=false:=by simp;omega
 have g11:(d==11)=false:=by simp;omega
 have g12:(d==12)=false:=by simp;omega
 have g13:(d==13)=false:=by simp;omega
 have g14:(d==14)=false:=by simp;omega
 have g15:(d==15)=false:=by simp;omega
 have g16:(d==16)=false:=by simp;omega
 have g17:(d==17)=false:=by simp;omega
 have HT:Hid _:=hT;clear h hT;go_enter Tryz.func176,Tryz.ntmps176;go_wp2_with (first|(go_at_call 229;refine Calls.mono (HT.out _) ?_;rintro e w1 ⟨rfl,hb⟩;obtain ⟨a1,hb0,hz⟩:=one_new w _ _ hb;have HB:Hid (Below w.heap.size w w1):=hb0;obtain ⟨c0,c1,c2,c3,c4,c5,c6⟩:=a1.r7;have f0:=a1.f 0;have f1:=a1.f 1;have f2:=a1.f 2;have f3:=a1.f 3;have f4:=a1.f 4;have f5:=a1.f 5;have f6:=a1.f 6;clear hb hb0 a1))
 refine bodyPost_ret (v:=.tuple #[.agg #[.string x0,.int .i64 x1,.bool x2,.bool x3,.bool x4,.bool x5,.bool x6],.bool x7]) (by simp [results,Tryz.results176,go_sem,c0,c1,c2,c3,c4,c5,c6]) rfl ⟨rfl,HB.out.trans ?_⟩
 go_grown
theorem of_no (d:Int) (w:World) (h:kOf d=none):Calls Tryz.prog 176 #[.int .i8 d] w fun e w'=>e=.returned (.tuple #[rz,.bool false])/\Below w.heap.size w w':=by
 have:=kOf_out h
 exact ofTurns d _ _ _ _ _ _ _ _ w (by omega) (fun w=>turnsNo d w (by omega))
theorem of_yes (d:Int) (k:K) (w:World) (h:kOf d=some k):Calls Tryz.prog 176 #[.int .i8 d] w fun e w'=>e=.returned (.tuple #[k.row,.bool true])/\Below w.heap.size w w':=by
 obtain ⟨n,hn,rfl,rfl⟩:=kOf_some h;clear h
 match n,hn with
 | 0,_=>exact of0 w
 | 1,_=>exact of1 w
 | 2,_=>exact of2 w
 | 3,_=>exact of3 w
 | 4,_=>exact of4 w
 | 5,_=>exact of5 w
 | 6,_=>exact of6 w
 | 7,_=>exact of7 w
 | 8,_=>exact of8 w
 | 9,_=>exact of9 w
 | 10,_=>exact of10 w
 | 11,_=>exact of11 w
 | 12,_=>exact of12 w
 | 13,_=>exact of13 w
 | 14,_=>exact of14 w
 | 15,_=>exact of15 w
 | 16,_=>exact of16 w
 | 17,_=>exact of17 w
 | 18,_=>exact ofTurns 18 _ _ _ _ _ _ _ _ w (by omega) (fun w=>turns18 w)
 | 19,_=>exact ofTurns 19 _ _ _ _ _ _ _ _ w (by omega) (fun w=>turns19 w)
 | 20,_=>exact ofTurns 20 _ _ _ _ _ _ _ _ w (by omega) (fun w=>turns20 w)
 | 21,_=>exact ofTurns 21 _ _ _ _ _ _ _ _ w (by omega) (fun w=>turns21 w)
 | 22,_=>exact ofTurns 22 _ _ _ _ _ _ _ _ w (by omega) (fun w=>turns22 w)
 | 23,_=>exact ofTurns 23 _ _ _ _ _ _ _ _ w (by omega) (fun w=>turns23 w)
 | _+24,h=>exact absurd h (by omega)
theorem refCheck_none (o:O) (w:World) (h:kOf o.op=none):Calls Tryz.prog 109 #[o.val] w fun e w'=>e=.returned (.int .i64 30)/\Below w.heap.size w w':=by
 have HF:Hid _:=fun w=>of_no o.op w h;clear h;go_enter Tryz.func109,Tryz.ntmps109;go_wp2_with (first|(go_at_call 176;refine Calls.mono (HF.out _) ?_;rintro e w1 ⟨rfl,hb⟩;obtain ⟨a1,hb0,hz⟩:=one_new w _ _ hb;have HB:Hid (Below w.heap.size w w1):=hb0;obtain ⟨o0,o1,o2,o3,o4⟩:=a1.o5;clear hb hb0 a1))
 go_ret
 exact ⟨rfl,HB.out.trans ((Below.refl _ _).alloc (Nat.le_of_lt hz) _)⟩
theorem refCheck_out (o:O) (k:K) (w:World) (h:kOf o.op=some k) (hx:31<o.d\/31<o.a\/31<o.b\/o.im < -2147483648\/2147483647<o.im):Calls Tryz.prog 109 #[o.val] w fun e w'=>e=.returned (.int .i64 30)/\Below w.heap.size w w':=by
 have HF:Hid _:=fun w=>of_yes o.op k w h;clear h;go_enter Tryz.func109,Tryz.ntmps109;go_wp2_with (first|(go_at_call 176;refine Calls.mono (HF.out _) ?_;rintro e w1 ⟨rfl,hb⟩;obtain ⟨a1,hb0,hz⟩:=one_new w _ _ hb;have HB:Hid (Below w.heap.size w w1):=hb0;obtain ⟨o0,o1,o2,o3,o4⟩:=a1.o5;clear hb hb0 a1))
 all_goals
  go_ret
  exact ⟨rfl,HB.out.trans ((Below.refl _ _).alloc (Nat.le_of_lt hz) _)⟩
theorem refCheck_in (o:O) (k:K) (w:World) (h:kOf o.op=some k) (x1:o.d<=31) (x2:o.a<=31) (x3:o.b<=31) (x4 : -2147483648<=o.im) (x5:o.im<=2147483647):Calls Tryz.prog 109 #[o.val] w fun e w'=>e=.returned (.int .i64 (if okF k o then 0 else 30))/\Below w.heap.size w w':=by
 have HF:Hid _:=fun w=>of_yes o.op k w h;clear h;generalize hv:(if okF k o then (0:Int) else 30)=v;have HV:Hid (_=v):=hv;have y1:o.d<32:=by omega
 have y2:o.a<32:=by omega
 have y3:o.b<32:=by omega
 clear hv;go_enter Tryz.func109,Tryz.ntmps109;go_wp2_with (first|(go_at_call 176;refine Calls.mono (HF.out _) ?_;rintro e w1 ⟨rfl,hb⟩;obtain ⟨a1,hb0,hz⟩:=one_new w _ _ hb;have HB:Hid (Below w.heap.size w w1):=hb0;obtain ⟨o0,o1,o2,o3,o4⟩:=a1.o5;clear hb hb0 a1))
 all_goals
  go_ret
  refine ⟨ret_int ?_,HB.out.trans ((Below.refl _ _).alloc (Nat.le_of_lt hz) _)⟩;rw [<- HV.out]
  simp_all [okF,rH,iH]
theorem refCheck_any (o:O) (w:World) (ho:o.Ok):Calls Tryz.prog 109 #[o.val] w fun e w'=>e=.returned (.int .i64 (ckE o))/\Below w.heap.size w w':=by
 cases hk:kOf o.op with
 | none=>
  rw [show ckE o=30 by simp [ckE,okO_none hk]];exact refCheck_none o w hk
 | some k=>
  rw [show ckE o=if okF k o then 0 else 30 by simp [ckE,okO_some hk]]
  by_cases hx:31<o.d\/31<o.a\/31<o.b\/o.im < -2147483648\/2147483647<o.im
  ·have hf:okF k o=false:=by
    obtain ⟨_,_,d0,d1,a0,a1,b0,b1,i0,i1⟩:=ho;unfold okF rH iH
    cases k.D <;> cases k.A <;> cases k.B <;> cases k.N <;> cases k.I <;> simp <;> omega
   rw [hf];exact refCheck_out o k w hk hx
  ·exact refCheck_in o k w hk (by omega) (by omega) (by omega) (by omega) (by omega)

end Go.Proofs.YtpdaknbmcpmhjaaGreatDoor.Op
