/- Parts Ur Us Uu. -/
import Derived.Test.YtiejdpjgplikjaaGreatDoorN32
import Derived.Deep.RegionHeld
import Derived.Test.YtiejdpjgplikjaaGreatDoorN00
set_option maxRecDepth 20000
set_option maxHeartbeats 8000000
namespace Go.Proofs.YtiejdpjgplikjaaGreatDoor.Mo
open Go.ChangeShapes Go.WideShapes Go.ChangeAt Go.RowKit Go.Great Go.Maps
open YtiejdpjgplikjaaGreatDoor.Op YtiejdpjgplikjaaGreatDoor.So YtiejdpjgplikjaaGreatDoor.Dp YtiejdpjgplikjaaGreatDoor.Bn
open YtiejdpjgplikjaaGreatDoor.Rv (I64)
open YtiejdpjgplikjaaGreatDoor.Ls (Nl clN clN_at)
def Mv (sb pb fb mb:Nat) (Y:Nat->Prop):Nat->Prop:=fun q=>q=sb\/q=pb\/q=fb\/q=mb\/Y q
structure Fx (C:Cq) (xs:List O) (sb bb pb pf fb ff mb B cap bc pc fc:Nat) (ba ao:Option Addr) (W:World):Prop where
 b0:W.cell? ⟨bb,0,none⟩=some (.slice ao C.N cap)
 bu:∀ c,c<4->W.cell? ⟨bb,1+c,none⟩=some (.int .i64 (C.U c))
 bz:∀ c,c<4->W.cell? ⟨bb,9+c,none⟩=some (.int .i64 ((C.Z c:Nat):Int))
 bl:bb<W.heap.size
 ops:OpsAt W ao xs
 bh:Bh W ba C.N C.FM
structure Fn (C:Cq) (xs:List O) (sb bb pb pf fb ff mb B cap bc pc fc:Nat) (ba ao:Option Addr):Prop where
 len:xs.length=C.N
 n64:C.N<=64
 cls:∀ i,C.clf i=clN xs i
 z1:∀ c,1<=C.Z c/\C.Z c<=4
 u1:∀ c,0<=C.U c/\C.U c<=8
 e1:1<=C.E
 e2:C.E<=65536
 fm:∀ i j,i<C.N->j<C.N->C.FM i j=noW∨-4260360<=C.FM i j/\C.FM i j<=4260360
 d1:sb≠pb/\sb≠fb/\sb≠mb/\pb≠fb/\pb≠mb/\fb≠mb
 d2:bb≠sb/\bb≠pb/\bb≠fb/\bb≠mb
 d3:∀ x,ao=some x->x.block≠pb/\x.block≠mb
 lt:sb<B/\pb<B/\fb<B/\mb<B/\bb<B
structure Sc (C:Cq) (xs:List O) (sb bb pb pf fb ff mb B cap bc pc fc:Nat) (ba ao:Option Addr) (W:World) (P F:Nat->Int) (st:Int) (nn:Nat) (f:Int->Int->Value):Prop where
 s:At W sb #[.pointer (some ⟨bb,0,none⟩),.int .i64 C.E,.slice ba C.N bc,.slice (some ⟨pb,pf,none⟩) C.N pc,.map (some mb),.slice (some ⟨fb,ff,none⟩) C.N fc,.int .i64 st]
 p:∀ k,k<C.N->W.cell? ⟨pb,pf+k,none⟩=some (.int .i64 (P k))
 pz:∀ k,W.frozen? ⟨pb,k,none⟩=false
 q:∀ k,k<C.N->W.cell? ⟨fb,ff+k,none⟩=some (.int .i64 (F k))
 qz:∀ k,W.frozen? ⟨fb,k,none⟩=false
 h:Hd W B mb nn f (hlP C.clf C.Z C.E P C.N)
 x:Fx C xs sb bb pb pf fb ff mb B cap bc pc fc ba ao W
 sz:B<=W.heap.size
section
variable {C:Cq} {xs:List O} {sb bb pb pf fb ff mb B cap bc pc fc:Nat} {ba ao:Option Addr}
theorem Fx.up {W W':World} (h:Fx C xs sb bb pb pf fb ff mb B cap bc pc fc ba ao W) (g:Below W.heap.size W W'):Fx C xs sb bb pb pf fb ff mb B cap bc pc fc ba ao W':=
 ⟨by rw [(bcell g).1 _ _ h.bl];exact h.b0,fun c hc=>by rw [(bcell g).1 _ _ h.bl];exact h.bu c hc,fun c hc=>by rw [(bcell g).1 _ _ h.bl];exact h.bz c hc,Nat.lt_of_lt_of_le h.bl g.size,h.ops.below g,h.bh.up g⟩
theorem Sc.up {W W':World} {P F:Nat->Int} {st:Int} {nn:Nat} {f:Int->Int->Value} (k:Fn C xs sb bb pb pf fb ff mb B cap bc pc fc ba ao) (h:Sc C xs sb bb pb pf fb ff mb B cap bc pc fc ba ao W P F st nn f) (g:Below W.heap.size W W'):Sc C xs sb bb pb pf fb ff mb B cap bc pc fc ba ao W' P F st nn f:=by
 have l1:=k.lt;have l2:=h.sz;have a1:pb<W.heap.size:=by omega
 have a2:fb<W.heap.size:=by omega
 exact ⟨h.s.below g h.s.lt,fun i hi=>by rw [(bcell g).1 _ _ a1];exact h.p i hi,fun i=>by rw [(bcell g).2 _ _ a1];exact h.pz i,fun i hi=>by rw [(bcell g).1 _ _ a2];exact h.q i hi,fun i=>by rw [(bcell g).2 _ _ a2];exact h.qz i,h.h.fr g,h.x.up g,Nat.le_trans h.sz g.size⟩
theorem Hd.far {W W':World} {b mb B nn:Nat} {f:Int->Int->Value} {hl:Int->Int->Nat} (h:Hd W B mb nn f hl) (g:So.Fr (So.One b) W W') (hb:b<B) (hm:mb≠b):Hd W' B mb nn f hl:=
 ⟨h.m.below (g.block _ h.m.lt fun e=>hm e),fun x y=>by
  obtain ⟨ys,hy⟩:=h.row x y;exact ⟨ys,row_far hy g hb⟩,h.inj,h.lt⟩
theorem Sc.step {W:World} {P F:Nat->Int} {st:Int} {nn:Nat} {f:Int->Int->Value} (k:Fn C xs sb bb pb pf fb ff mb B cap bc pc fc ba ao) (h:Sc C xs sb bb pb pf fb ff mb B cap bc pc fc ba ao W P F st nn f) (hx:∀ W',So.Fr (So.One sb) W W'->Fx C xs sb bb pb pf fb ff mb B cap bc pc fc ba ao W') (v:Int):Sc C xs sb bb pb pf fb ff mb B cap bc pc fc ba ao (W.setCell ⟨sb,6,none⟩ (.int .i64 v)) P F v nn f:=by
 have l1:=k.lt;have l2:=h.sz;obtain ⟨e1,e2,e3,e4,e5,e6⟩:=k.d1;have g:So.Fr (So.One sb) W (W.setCell ⟨sb,6,none⟩ (.int .i64 v)):=(So.Fr.refl (So.One sb) W).setCell (.inr rfl) _ _;have np:¬ So.One sb pb:=fun e=>e1 (by have e:pb=sb:=e;exact e.symm);have nf:¬ So.One sb fb:=fun e=>e2 (by have e:fb=sb:=e;exact e.symm);refine ⟨at_set' h.s (by simp) _,fun i hi=>by rw [g.cell (by omega) np];exact h.p i hi,fun i=>by rw [g.frozen (by omega) np];exact h.pz i,fun i hi=>by rw [g.cell (by omega) nf];exact h.q i hi,fun i=>by rw [g.frozen (by omega) nf];exact h.qz i,h.h.far g (by omega) (fun e=>e3 e.symm),hx _ g,by rw [World.size_setCell];exact h.sz⟩
theorem Sc.fail {W:World} {P F:Nat->Int} {st:Int} {nn:Nat} {f:Int->Int->Value} (k:Fn C xs sb bb pb pf fb ff mb B cap bc pc fc ba ao) (h:Sc C xs sb bb pb pf fb ff mb B cap bc pc fc ba ao W P F st nn f) (hx:∀ W',So.Fr (So.One fb) W W'->Fx C xs sb bb pb pf fb ff mb B cap bc pc fc ba ao W') {n:Nat} (hn:n<C.N) (v:Int):Sc C xs sb bb pb pf fb ff mb B cap bc pc fc ba ao (W.setCell ⟨fb,ff+n,none⟩ (.int .i64 v)) P (updI F n v) st nn f:=by
 have l1:=k.lt;have l2:=h.sz;obtain ⟨e1,e2,e3,e4,e5,e6⟩:=k.d1;have g:So.Fr (So.One fb) W (W.setCell ⟨fb,ff+n,none⟩ (.int .i64 v)):=(So.Fr.refl (So.One fb) W).setCell (.inr rfl) _ _;have np:¬ So.One fb pb:=fun e=>e4 e;refine ⟨atFr2 h.s g (fun e=>e2 e),fun i hi=>by rw [g.cell (by omega) np];exact h.p i hi,fun i=>by rw [g.frozen (by omega) np];exact h.pz i,fun i hi=>?_,fun i=>by rw [World.frozen?_setCell];exact h.qz i,h.h.far g (by omega) (fun e=>e6 e.symm),hx _ g,by rw [World.size_setCell];exact h.sz⟩;unfold updI
 by_cases e:i=n
 ·subst e;rw [if_pos rfl];exact World.cell?_setCell_same _ _ _ (h.q i hi)
 ·rw [if_neg e,World.cell?_setCell_other _ _ _ _ (by intro e';injection e' with _ h2;omega)];exact h.q i hi
theorem Sc.taken {W W':World} {P F:Nat->Int} {st:Int} {nn L:Nat} {f f2:Int->Int->Value} {Y:Nat->Prop} (k:Fn C xs sb bb pb pf fb ff mb B cap bc pc fc ba ao) (h:Sc C xs sb bb pb pf fb ff mb B cap bc pc fc ba ao W P F st nn f) (hx:∀ W',So.Fr (Mv sb pb fb mb Y) W W'->Fx C xs sb bb pb pf fb ff mb B cap bc pc fc ba ao W') {n:Nat} (hn:n<C.N) {c:Int} (h0:P n = -1) (hc:c≠-1) (hY:¬ Y sb/\¬ Y pb/\¬ Y fb) (hL:L=C.Z (C.clf n)) (g:So.Fr (fun q=>q=mb\/Y q) (W.setCell ⟨pb,pf+n,none⟩ (.int .i64 c)) W') (hh:Hd W' B mb (nn+L) f2 (fun a b=>hlP C.clf C.Z C.E P C.N a b+cntL (C.clf n) c C.E L a b)):Sc C xs sb bb pb pf fb ff mb B cap bc pc fc ba ao W' (updI P n c) F st (nn+L) f2:=by
 have l1:=k.lt;have l2:=h.sz;obtain ⟨e1,e2,e3,e4,e5,e6⟩:=k.d1;have g0:So.Fr (So.One pb) W (W.setCell ⟨pb,pf+n,none⟩ (.int .i64 c)):=(So.Fr.refl (So.One pb) W).setCell (.inr rfl) _ _;have zs:(W.setCell ⟨pb,pf+n,none⟩ (.int .i64 c)).heap.size=W.heap.size:=World.size_setCell _ _ _;have ns:¬ (sb=mb\/Y sb):=fun e=>e.elim e3 hY.1;have np:¬ (pb=mb\/Y pb):=fun e=>e.elim e5 hY.2.1;have nf:¬ (fb=mb\/Y fb):=fun e=>e.elim e6 hY.2.2;have n0s:¬ So.One pb sb:=fun e=>e1 e;have n0f:¬ So.One pb fb:=fun e=>e4 (by have e:fb=pb:=e;exact e.symm);refine ⟨atFr2 (atFr2 h.s g0 n0s) g ns,fun i hi=>?_,fun i=>?_,fun i hi=>?_,fun i=>?_,?_,hx _ ((g0.mono fun q _ e=>.inr (.inl e)).trans g fun q _ e=>by rcases e with e|e;exact .inr (.inr (.inr (.inl e)));exact .inr (.inr (.inr (.inr e)))),by have:=g.size;omega⟩
 ·rw [g.cell (by omega) np];unfold updI
  by_cases e:i=n
  ·subst e;rw [if_pos rfl];exact World.cell?_setCell_same _ _ _ (h.p i hi)
  ·rw [if_neg e,World.cell?_setCell_other _ _ _ _ (by intro e';injection e' with _ h2;omega)];exact h.p i hi
 ·rw [g.frozen (by omega) np,World.frozen?_setCell];exact h.pz i
 ·rw [g.cell (by omega) nf,g0.cell (by omega) n0f];exact h.q i hi
 ·rw [g.frozen (by omega) nf,g0.frozen (by omega) n0f];exact h.qz i
 ·rw [hlP_put h0 hc hn,<- hL];exact hh
theorem Sc.back {W w2:World} {P F:Nat->Int} {st:Int} {nn L:Nat} {f f2:Int->Int->Value} (k:Fn C xs sb bb pb pf fb ff mb B cap bc pc fc ba ao) {n:Nat} {c:Int} (h:Sc C xs sb bb pb pf fb ff mb B cap bc pc fc ba ao W (updI P n c) F st nn f) (hx:∀ W',So.Fr (fun q=>q=mb\/q=pb) W W'->Fx C xs sb bb pb pf fb ff mb B cap bc pc fc ba ao W') (hn:n<C.N) (h0:P n = -1) (hc:c≠-1) (hL:L=C.Z (C.clf n)) (g:So.Fr (So.One mb) W w2) (hh:Hd w2 B mb (nn+L) f2 (fun a b=>hlP C.clf C.Z C.E (updI P n c) C.N a b-cntL (C.clf n) c C.E L a b)):Sc C xs sb bb pb pf fb ff mb B cap bc pc fc ba ao (w2.setCell ⟨pb,pf+n,none⟩ (.int .i64 (-1))) P F st (nn+L) f2:=by
 have l1:=k.lt;have l2:=h.sz;obtain ⟨e1,e2,e3,e4,e5,e6⟩:=k.d1;have g0:So.Fr (So.One pb) w2 (w2.setCell ⟨pb,pf+n,none⟩ (.int .i64 (-1))):=(So.Fr.refl (So.One pb) w2).setCell (.inr rfl) _ _;have gz:=g.size;have ns:¬ So.One mb sb:=fun e=>e3 e;have np:¬ So.One mb pb:=fun e=>e5 e;have nf:¬ So.One mb fb:=fun e=>e6 e;have n0s:¬ So.One pb sb:=fun e=>e1 e;have n0f:¬ So.One pb fb:=fun e=>e4 (by have e:fb=pb:=e;exact e.symm);have eq:(fun a b=>hlP C.clf C.Z C.E (updI P n c) C.N a b-cntL (C.clf n) c C.E L a b)=hlP C.clf C.Z C.E P C.N:=by
  rw [hlP_put h0 hc hn,<- hL];funext a b
  show hlP C.clf C.Z C.E P C.N a b+cntL (C.clf n) c C.E L a b-cntL (C.clf n) c C.E L a b=_;omega
 rw [eq] at hh;refine ⟨atFr2 (atFr2 h.s g ns) g0 n0s,fun i hi=>?_,fun i=>?_,fun i hi=>?_,fun i=>?_,hh.far g0 (by omega) (fun e=>e5 e.symm),hx _ ((g.mono fun q _ e=>.inl e).trans g0 fun q _ e=>.inr e),by rw [World.size_setCell];omega⟩
 ·have hp:=h.p i hi;unfold updI at hp
  by_cases e:i=n
  ·subst e;rw [h0];exact World.cell?_setCell_same _ _ _ ((g.cell (by omega) np _).trans hp)
  ·rw [if_neg e] at hp;rw [World.cell?_setCell_other _ _ _ _ (by intro e';injection e' with _ h2;omega),g.cell (by omega) np];exact hp
 ·rw [World.frozen?_setCell,g.frozen (by omega) np];exact h.pz i
 ·rw [g0.cell (by omega) n0f,g.cell (by omega) nf];exact h.q i hi
 ·rw [g0.frozen (by omega) n0f,g.frozen (by omega) nf];exact h.qz i
end
def cntU (P:Nat->Int):Nat->Nat
 | 0=>0
 | k+1=>cntU P k+if P k = -1 then 1 else 0
theorem cntU_same {P Q:Nat->Int} : ∀ {k:Nat},(∀ i,i<k->P i=Q i)->cntU P k=cntU Q k
 | 0,_=>rfl
 | k+1,h=>by
  show cntU P k+_=cntU Q k+_;rw [cntU_same (k:=k) fun i hi=>h i (by omega),h k (by omega)]
theorem cntU_put {P:Nat->Int} {n:Nat} {c:Int} (h0:P n = -1) (hc:c≠-1):∀ {k:Nat},n<k->cntU (updI P n c) k+1=cntU P k
 | 0,h=>by omega
 | k+1,h=>by
  show cntU (updI P n c) k+_+1=cntU P k+_
  by_cases e:n=k
  ·subst e;rw [cntU_same (P:=updI P n c) (Q:=P) fun i hi=>by unfold updI;rw [if_neg (by omega)]];have e1:updI P n c n=c:=by unfold updI;rw [if_pos rfl]
   rw [e1,if_neg hc,if_pos h0]
  ·have:=cntU_put h0 hc (k:=k) (by omega)
   have e1:updI P n c k=P k:=by unfold updI;rw [if_neg (by omega)]
   rw [e1];omega
theorem cntU_pos {P:Nat->Int} {n:Nat} (h0:P n = -1):∀ {k:Nat},n<k->0<cntU P k
 | 0,h=>by omega
 | k+1,h=>by
  show 0<cntU P k+_
  by_cases e:n=k
  ·subst e;rw [if_pos h0];omega
  ·have:=cntU_pos h0 (k:=k) (by omega);omega
theorem mem_byJ {ub:Nat->Int} {u E e:Int} {L K i:Nat} {c:Int} (h:c∈byJ ub u E e L K i):∃ k:Nat,k<K/\c=e+(k:Int)/\okF ub u E L k=true:=by
 unfold byJ at h;obtain ⟨k,hk,rfl⟩:=List.mem_map.1 h;obtain ⟨h1,h2⟩:=List.mem_filter.1 hk;simp only [Bool.and_eq_true] at h2;exact ⟨k,List.mem_range.1 h1,rfl,h2.1⟩
theorem mem_frC {hl:Int->Int->Nat} {cl E u e l:Int} {L:Nat} {c:Int} (h:c∈frC hl cl E u e l L):∃ k:Nat,k<wdF e l E/\c=e+(k:Int)/\okF (ucF hl cl (e-1) E (wdF e l E+L+1)) u E L k=true:=by
 unfold frC catL catL catL catL at h;simp only [List.nil_append,List.mem_append] at h;rcases h with (h|h)|h
 ·exact mem_byJ h
 ·exact mem_byJ h
 ·exact mem_byJ h
theorem wdF_lt {e l E:Int} {k:Nat} (h:k<wdF e l E):e+(k:Int)<=l:=by
 unfold wdF at h;omega
end Go.Proofs.YtiejdpjgplikjaaGreatDoor.Mo
namespace Go.Proofs.YtiejdpjgplikjaaGreatDoor.Mo
open Go.ChangeShapes Go.WideShapes Go.ChangeAt Go.RowKit Go.Great Go.Maps
open YtiejdpjgplikjaaGreatDoor.Op YtiejdpjgplikjaaGreatDoor.So YtiejdpjgplikjaaGreatDoor.Dp YtiejdpjgplikjaaGreatDoor.Bn
open YtiejdpjgplikjaaGreatDoor.Rv (I64)
open YtiejdpjgplikjaaGreatDoor.Ls (Nl clN clN_at clN_lt)
structure Dp0 (C:Cq) (xs:List O) (sb bb pb pf fb ff mb B cap bc pc fc:Nat) (ba ao:Option Addr) (w1:World) (Y0:Nat->Prop) (la K K8:Int) (u:Nat) (e l P F:Nat->Int) (st:Int) (W:World) (nn:Nat) (f:Int->Int->Value) (Y:Nat->Prop):Prop where
 un:cntU P C.N<=u
 u64:u<=64
 wn:∀ i,i<C.N->0<=e i/\e i<=la+4260360∧-4260360<=l i/\l i<=la
 pr:∀ i,i<C.N→-1<=P i/\P i<=la
 bd:Bd C.N K F st
 st0:(u:Int)-64<=st
 k8:(nn:Int)+8*st<=K8
 sc:Sc C xs sb bb pb pf fb ff mb B cap bc pc fc ba ao W P F st nn f
 fr:So.Fr (Mv sb pb fb mb Y0) w1 W
 y1:∀ a b q,(f a b).ownBlock=some q->Y q
 y2:∀ q,W.heap.size<=q->Y q
 y3:∀ q,Y q->Y0 q
structure Dps (C:Cq) (xs:List O) (sb bb pb pf fb ff mb B cap bc pc fc:Nat) (ba ao:Option Addr) (w1:World) (Y0:Nat->Prop) (la K K8:Int):Prop where
 k:Fn C xs sb bb pb pf fb ff mb B cap bc pc fc ba ao
 im:∀ W,So.Fr (Mv sb pb fb mb Y0) w1 W->Fx C xs sb bb pb pf fb ff mb B cap bc pc fc ba ao W
 la0:0<=la
 la1:la<=200000
 k0:K<=5000
 k8:K8<=100000
 ny:¬ Y0 sb/\¬ Y0 pb/\¬ Y0 fb/\¬ Y0 mb/\¬ Y0 bb
section
variable {C:Cq} {xs:List O} {sb bb pb pf fb ff mb B cap bc pc fc:Nat} {ba ao:Option Addr} {w1:World} {Y0:Nat->Prop} {la K K8:Int}
theorem Dps.fx (d:Dps C xs sb bb pb pf fb ff mb B cap bc pc fc ba ao w1 Y0 la K K8) {W W':World} {X:Nat->Prop} (g0:So.Fr (Mv sb pb fb mb Y0) w1 W) (hX:∀ q,X q->Mv sb pb fb mb Y0 q) (g:So.Fr X W W'):Fx C xs sb bb pb pf fb ff mb B cap bc pc fc ba ao W':=d.im W' (g0.trans g fun q _ e=>hX q e)
theorem nlP (d:Dps C xs sb bb pb pf fb ff mb B cap bc pc fc ba ao w1 Y0 la K K8) {W:World} {P F:Nat->Int} {st:Int} {nn:Nat} {f:Int->Int->Value} (h:Sc C xs sb bb pb pf fb ff mb B cap bc pc fc ba ao W P F st nn f) (hp:∀ i,i<C.N→-1<=P i/\P i<=la):Nl W (some ⟨pb,pf,none⟩) C.N P:=by
 have l:=d.k.lt;have z:=h.sz;have a:=d.la1;exact ⟨fun _=>⟨pb,pf,rfl,by omega,h.p⟩,fun i hi=>by have:=hp i hi;omega⟩
theorem nlF (d:Dps C xs sb bb pb pf fb ff mb B cap bc pc fc ba ao w1 Y0 la K K8) {W:World} {P F:Nat->Int} {st:Int} {nn:Nat} {f:Int->Int->Value} (h:Sc C xs sb bb pb pf fb ff mb B cap bc pc fc ba ao W P F st nn f) (hf:∀ i,i<C.N->0<=F i/\F i<=10000):Nl W (some ⟨fb,ff,none⟩) C.N F:=by
 have l:=d.k.lt;have z:=h.sz;exact ⟨fun _=>⟨fb,ff,rfl,by omega,h.q⟩,fun i hi=>by have:=hf i hi;omega⟩
theorem Dp0.fbd (d:Dps C xs sb bb pb pf fb ff mb B cap bc pc fc ba ao w1 Y0 la K K8) {u:Nat} {e l P F:Nat->Int} {st:Int} {W:World} {nn:Nat} {f:Int->Int->Value} {Y:Nat->Prop} (h:Dp0 C xs sb bb pb pf fb ff mb B cap bc pc fc ba ao w1 Y0 la K K8 u e l P F st W nn f Y):∀ i,i<C.N->0<=F i/\F i<=10000:=fun i hi=>by
 have a:=h.bd.f0 i hi;have b:=h.bd.f1 i hi;have c:=d.k0;have s:=h.st0;omega
theorem next_at (d:Dps C xs sb bb pb pf fb ff mb B cap bc pc fc ba ao w1 Y0 la K K8) {u:Nat} {e l P F:Nat->Int} {st:Int} {W:World} {nn:Nat} {f:Int->Int->Value} {Y:Nat->Prop} (h:Dp0 C xs sb bb pb pf fb ff mb B cap bc pc fc ba ao w1 Y0 la K K8 u e l P F st W nn f Y) {W0:World} {x:Nat} (g:Below W.heap.size W W0) (hx:At W0 x (wnA e l)) :
  Calls Tryz.prog 156 #[.pointer (some ⟨sb,0,none⟩),.pointer (some ⟨x,0,none⟩)] W0 fun e' w'=>e' = .returned (.int .i64 (nxP e l F P C.N))/\Below W0.heap.size W0 w':=by
 have s:=h.sc.up d.k g;have a:=d.la1;have a0:=d.la0;exact next_any sb x C.N e l F P _ _ pc fc W0 (s.s.c 3 _ rfl) (s.s.c 5 _ rfl) s.s.lt (Wn.of hx) (nlP d s h.pr) (nlF d s (h.fbd d)) ⟨fun i hi=>by have:=h.wn i hi;omega,fun i hi=>by have:=h.wn i hi;omega,h.fbd d⟩ d.k.n64
theorem place_done (d:Dps C xs sb bb pb pf fb ff mb B cap bc pc fc ba ao w1 Y0 la K K8) {u:Nat} {e l P F:Nat->Int} {st:Int} {W:World} {nn:Nat} {f:Int->Int->Value} {Y:Nat->Prop} (h:Dp0 C xs sb bb pb pf fb ff mb B cap bc pc fc ba ao w1 Y0 la K K8 u e l P F st W nn f Y) (hn:nxP e l F P C.N = -1) :
  Calls Tryz.prog 131 #[.pointer (some ⟨sb,0,none⟩),.agg (wnA e l)] W (fun r w'=>∃ nn' f',r=.returned (.bool (⟨true,P,F,st⟩:Dv).ok)/\Sc C xs sb bb pb pf fb ff mb B cap bc pc fc ba ao w' (⟨true,P,F,st⟩:Dv).P (⟨true,P,F,st⟩:Dv).F (⟨true,P,F,st⟩:Dv).st nn' f'/\So.Fr (Mv sb pb fb mb Y) W w'/\(∀ a b q,(f' a b).ownBlock=some q->Y q)/\(nn':Int)+8*(⟨true,P,F,st⟩:Dv).st<=(nn:Int)+8*st/\((⟨true,P,F,st⟩:Dv).ok=false->(nn':Int)+8*(⟨true,P,F,st⟩:Dv).st<=(nn:Int)+8*st-8)):=by
 have HA:Hid (At (W.alloc (.cells (wnA e l) 186)) W.heap.size (wnA e l)):=At.new _ _ _;have HB:Hid (Below W.heap.size W (W.alloc (.cells (wnA e l) 186))):=(Below.refl _ _).alloc (Nat.le_refl _) _;have HN:Hid (Calls Tryz.prog 156 #[.pointer (some ⟨sb,0,none⟩),.pointer (some ⟨W.heap.size,0,none⟩)] (W.alloc (.cells (wnA e l) 186)) fun e' w'=>e' = .returned (.int .i64 (-1))/\Below (W.alloc (.cells (wnA e l) 186)).heap.size (W.alloc (.cells (wnA e l) 186)) w'):=by rw [<- hn];exact next_at d h HB.out HA.out
 have HZ:Hid (∀ w',Below W.heap.size W w'->Sc C xs sb bb pb pf fb ff mb B cap bc pc fc ba ao w' P F st nn f/\So.Fr (Mv sb pb fb mb Y) W w'/\∀ a b q,(f a b).ownBlock=some q->Y q):=fun w' g=>⟨h.sc.up d.k g,So.Fr.of g,h.y1⟩;clear hn h d;go_enter Tryz.func131,Tryz.ntmps131;apply wp_seq_k;intro K0 hK0
 apply wp_region_lit
 refine wpList_boxTo rfl 186 (.tmp 1) rfl (some 3) rfl W.heap.size rfl (wnA e l) rfl ?_;simp only [pq];generalize W.alloc (.cells (wnA e l) 186)=W0 at *;generalize wnA e l=A at *;go_wp2_with (first|(go_at_call 156;refine Calls.mono HN.out ?_;rintro e1 w2 ⟨rfl,b2⟩;have H2:Hid (Below W.heap.size W w2):=HB.out.trans (b2.mono HB.out.size);clear b2 HN))
 go_ret
 obtain ⟨z1,z2,z3⟩:=HZ.out _ H2.out;exact ⟨nn,f,rfl,z1,z2,z3,Int.le_refl _,fun e=>nomatch e⟩
end
section
variable {C:Cq} {xs:List O} {sb bb pb pf fb ff mb B cap bc pc fc:Nat} {ba ao:Option Addr} {w1:World} {Y0:Nat->Prop} {la K K8:Int}
theorem hl_small (d:Dps C xs sb bb pb pf fb ff mb B cap bc pc fc ba ao w1 Y0 la K K8) (P:Nat->Int) (a b:Int):hlP C.clf C.Z C.E P C.N a b<=1000000:=Nat.le_trans (hlP_le C.clf C.Z C.E P (fun c=>(d.k.z1 c).2) C.N a b) (by have:=d.k.n64;omega)
theorem take_at (d:Dps C xs sb bb pb pf fb ff mb B cap bc pc fc ba ao w1 Y0 la K K8) {P F:Nat->Int} {st:Int} {W:World} {nn:Nat} {f:Int->Int->Value} (h:Sc C xs sb bb pb pf fb ff mb B cap bc pc fc ba ao W P F st nn f) (fr0:So.Fr (Mv sb pb fb mb Y0) w1 W) {n:Nat} {c:Int} (hn:n<C.N) (h0:P n = -1) (hc0:0<=c) (hc1:c<=10000000) (hnn:nn<=1000000) {Y:Nat->Prop} (y1:∀ a b q,(f a b).ownBlock=some q->Y q) (y2:∀ q,W.heap.size<=q->Y q) (y3:∀ q,Y q->Y0 q) :
  Calls Tryz.prog 158 #[.pointer (some ⟨sb,0,none⟩),.int .i64 (n:Int),.int .i64 c] W fun r w'=>r=.returned (.tuple #[])/\∃ f2,Sc C xs sb bb pb pf fb ff mb B cap bc pc fc ba ao w' (updI P n c) F st (nn+C.Z (C.clf n)) f2/\So.Fr (Mv sb pb fb mb Y) W w'/\∀ a b q,(f2 a b).ownBlock=some q->Y q:=by
 obtain ⟨e1,e2,e3,e4,e5,e6⟩:=d.k.d1;obtain ⟨g1,g2,g3,g4⟩:=d.k.d2;obtain ⟨b1,b2,b3,b4,b5⟩:=d.k.lt;obtain ⟨v1,v2,v3,v4,v5⟩:=d.ny;have hcl:C.clf n<4:=by rw [d.k.cls];exact clN_lt xs n
 have hY:¬ Y sb/\¬ Y pb/\¬ Y fb:=⟨fun e=>v1 (y3 _ e),fun e=>v2 (y3 _ e),fun e=>v3 (y3 _ e)⟩;refine (take_any sb bb C.N n mb nn B pb pf (C.clf n) (C.Z (C.clf n)) cap bc pc fc C.E st c ba _ ao xs f _ W h.s h.x.ops d.k.len hn h.x.b0 (h.x.bz _ hcl) h.x.bl (d.k.cls n).symm hcl (d.k.z1 _).2 _ (h.p n hn) (h.pz _) h.h (hl_small d P) hnn hc0 hc1 d.k.e1 d.k.e2 d.k.n64 (fun e=>e3 e.symm) (fun e=>g4 e.symm) (fun e=>e5 e.symm) (fun z hz e=>(d.k.d3 z hz).2 e.symm) (fun z hz e=>(d.k.d3 z hz).1 e.symm) (fun e=>e1 e.symm) (fun e=>g2 e.symm) b1 b2 h.sz Y y1 y2 hY.1 (fun e=>v5 (y3 _ e))).mono fun r w' hw=>⟨hw.1,?_⟩;obtain ⟨-,f2,k1,k2,k3⟩:=hw;have g0:So.Fr (So.One pb) W (W.setCell ⟨pb,pf+n,none⟩ (.int .i64 c)):=(So.Fr.refl (So.One pb) W).setCell (.inr rfl) _ _;refine ⟨f2,h.taken d.k (fun W' g=>d.fx fr0 (fun q e=>?_) g) hn h0 (by omega) hY rfl k1 k2,(g0.mono fun q _ e=>.inr (.inl e)).trans k1 fun q _ e=>?_,k3⟩
 ·rcases e with e|e|e|e|e
  ·exact .inl e
  ·exact .inr (.inl e)
  ·exact .inr (.inr (.inl e))
  ·exact .inr (.inr (.inr (.inl e)))
  ·exact .inr (.inr (.inr (.inr (y3 q e))))
 ·rcases e with e|e
  ·exact .inr (.inr (.inr (.inl e)))
  ·exact .inr (.inr (.inr (.inr e)))
theorem back_at (d:Dps C xs sb bb pb pf fb ff mb B cap bc pc fc ba ao w1 Y0 la K K8) {P F:Nat->Int} {st:Int} {W:World} {nn:Nat} {f:Int->Int->Value} {n:Nat} {c:Int} (h:Sc C xs sb bb pb pf fb ff mb B cap bc pc fc ba ao W (updI P n c) F st nn f) (fr0:So.Fr (Mv sb pb fb mb Y0) w1 W) (hn:n<C.N) (h0:P n = -1) (hc0:0<=c) (hc1:c<=10000000) (hnn:nn<=1000000) {Y:Nat->Prop} (y1:∀ a b q,(f a b).ownBlock=some q->Y q) :
  Calls Tryz.prog 160 #[.pointer (some ⟨sb,0,none⟩),.int .i64 (n:Int)] W fun r w'=>r=.returned (.tuple #[])/\∃ f2,Sc C xs sb bb pb pf fb ff mb B cap bc pc fc ba ao w' P F st (nn+C.Z (C.clf n)) f2/\So.Fr (Mv sb pb fb mb Y) W w'/\∀ a b q,(f2 a b).ownBlock=some q->Y q:=by
 obtain ⟨e1,e2,e3,e4,e5,e6⟩:=d.k.d1;obtain ⟨g1,g2,g3,g4⟩:=d.k.d2;obtain ⟨b1,b2,b3,b4,b5⟩:=d.k.lt;have hcl:C.clf n<4:=by rw [d.k.cls];exact clN_lt xs n
 have hpc:W.cell? ⟨pb,pf+n,none⟩=some (.int .i64 c):=by have:=h.p n hn;unfold updI at this;rwa [if_pos rfl] at this
 have hz:=h.sz;refine (giveBack_any sb bb C.N n mb nn B pb pf (C.clf n) (C.Z (C.clf n)) cap bc pc fc C.E st c ba _ ao xs f _ W h.s h.x.ops d.k.len hn h.x.b0 (h.x.bz _ hcl) h.x.bl (d.k.cls n).symm hcl (d.k.z1 _).2 hpc (h.pz _) (by omega) h.h (fun a b=>by rw [hlP_put h0 (by omega) hn];show cntL _ _ _ _ a b<=hlP _ _ _ _ _ a b+cntL _ _ _ _ a b;omega) (hl_small d _) hnn hc0 hc1 d.k.e1 d.k.e2 d.k.n64 (fun e=>e3 e.symm) (fun e=>g4 e.symm) (fun e=>e5 e.symm) (fun z hz e=>(d.k.d3 z hz).2 e.symm) Y y1).mono fun r w' hw=>⟨hw.1,?_⟩;obtain ⟨-,w2,f2,rfl,k1,k2,k3⟩:=hw;have g0:So.Fr (So.One pb) w2 (w2.setCell ⟨pb,pf+n,none⟩ (.int .i64 (-1))):=(So.Fr.refl (So.One pb) w2).setCell (.inr rfl) _ _;refine ⟨f2,h.back d.k (fun W' g=>d.fx fr0 (fun q e=>?_) g) hn h0 (by omega) rfl k1 k2,(k1.mono fun q _ e=>.inr (.inr (.inr (.inl e)))).trans g0 fun q _ e=>.inr (.inl e),k3⟩;rcases e with e|e
 ·exact .inr (.inr (.inr (.inl e)))
 ·exact .inr (.inl e)
theorem narrow_at (d:Dps C xs sb bb pb pf fb ff mb B cap bc pc fc ba ao w1 Y0 la K K8) {P F:Nat->Int} {st:Int} {W:World} {nn:Nat} {f:Int->Int->Value} {n:Nat} {c:Int} (h:Sc C xs sb bb pb pf fb ff mb B cap bc pc fc ba ao W (updI P n c) F st nn f) (hp:∀ i,i<C.N→-1<=updI P n c i/\updI P n c i<=la) (hn:n<C.N) (hc0:0<=c) (hc1:c<=1000000) (e l:Nat->Int) :
  Calls Tryz.prog 159 #[.pointer (some ⟨sb,0,none⟩),.agg (wnA e l),.int .i64 (n:Int)] W fun r w'=>r=.returned (.agg (wnA (nwE C.FM n c e C.N) (nwL C.FM n c l C.N)))/\Below W.heap.size W w':=by
 have e1:updI P n c n=c:=by unfold updI;rw [if_pos rfl]
 have hr:=narrowed_any sb n C.N e l (updI P n c) C.FM _ ba pc bc W (h.s.c 3 _ rfl) (h.s.c 2 _ rfl) h.s.lt (nlP d h hp) h.x.bh d.k.n64 hn (fun i j hi hj=>by
  rcases d.k.fm i j hi hj with a|a
  ·exact .inl a
  ·exact .inr ⟨by omega,by omega⟩) (by rw [e1];exact hc0) (by rw [e1];exact hc1)
 rw [e1] at hr;exact hr
theorem nw_in (d:Dps C xs sb bb pb pf fb ff mb B cap bc pc fc ba ao w1 Y0 la K K8) {e l:Nat->Int} {n:Nat} {c:Int} (hw:∀ i,i<C.N->0<=e i/\e i<=la+4260360∧-4260360<=l i/\l i<=la) (hn:n<C.N) (hc0:0<=c) (hc1:c<=la):∀ i,i<C.N->0<=nwE C.FM n c e C.N i/\nwE C.FM n c e C.N i<=la+4260360∧-4260360<=nwL C.FM n c l C.N i/\nwL C.FM n c l C.N i<=la:=fun i hi=>by
 have h:=hw i hi;have h1:=d.k.fm n i hn hi;have h2:=d.k.fm i n hi hn;unfold nwE nwL;refine ⟨?_,?_,?_,?_⟩ <;> split <;> rename_i hc <;> try omega
end
end Go.Proofs.YtiejdpjgplikjaaGreatDoor.Mo
