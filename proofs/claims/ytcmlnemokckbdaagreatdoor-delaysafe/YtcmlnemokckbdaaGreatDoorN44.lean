/- Parts QNb QNc. -/
import Derived.Test.YtcmlnemokckbdaaGreatDoorN40
import Derived.Test.YtcmlnemokckbdaaGreatDoorN26
import Derived.Laws.EntriesVeiled
import Derived.Deep.AppendLies
import Derived.OwnWalk
set_option maxRecDepth 20000
namespace Go.Proofs.YtcmlnemokckbdaaGreatDoor.L8.Sm
open Go.ChangeShapes Go.WideShapes Go.ChangeAt Go.RowKit
open YtcmlnemokckbdaaGreatDoor.L8.Op
theorem co {w:World} {q j k:Nat} {v:Value} (h:¬ j=k):(w.setCell ⟨q,j,none⟩ v).cell? ⟨q,k,none⟩=w.cell? ⟨q,k,none⟩:=by
 rw [World.cell?_setCell_other];intro e;injection e with _ e;exact h e
theorem cs {w:World} {q j:Nat} {v u:Value} (h:w.cell? ⟨q,j,none⟩=some u):(w.setCell ⟨q,j,none⟩ v).cell? ⟨q,j,none⟩=some v:=World.cell?_setCell_same _ _ _ h
def fnV (n:Nat):Value:=.func (.func n) #[] #[]
def valN (k:Nat):Nat:=if k=1 then 70 else if k=15 then 72 else if k=16 then 73 else if k=17 then 75 else 81
def landN (k:Nat):Nat:=if k=16 then 74 else if k=17 then 76 else 71
def deedF (j:Nat):Value:=if j<2 then .nilFunc else if j%2=0 then fnV (valN (j / 2)) else fnV (landN (j / 2))
structure MAt (w:World) (q:Nat) (ba:Option Addr) (bl bc:Nat) (po:Option Addr) (pc:Nat) (M:Ma):Prop where
 lt:q<w.heap.size
 fz:∀ j:Nat,w.frozen? ⟨q,j,none⟩=false
 bk:w.cell? ⟨q,0,none⟩=some (.slice ba bl bc)
 b:w.cell? ⟨q,329,none⟩=some (.int .i64 (M.b:Int))
 y:w.cell? ⟨q,330,none⟩=some (.bool M.y)
 o:w.cell? ⟨q,331,none⟩=some (.int .i64 (M.o:Int))
 n:w.cell? ⟨q,332,none⟩=some (.int .i64 M.n)
 e:w.cell? ⟨q,333,none⟩=some (.int .i64 M.e)
 v:w.cell? ⟨q,334,none⟩=some (.int .i64 M.v)
 p:w.cell? ⟨q,335,none⟩=some (.slice po M.pr.length pc)
 s:w.cell? ⟨q,336,none⟩=some (.int .i64 (M.s:Int))
 r:∀ i:Nat,i<32->w.cell? ⟨q,41+i,none⟩=some (.int .i64 (M.r i))
 m:∀ i:Nat,i<256->w.cell? ⟨q,73+i,none⟩=some (.int .i64 (M.m i))
 d:∀ i:Nat,i<36->w.cell? ⟨q,1+i,none⟩=some (deedF i)
 en:∀ i:Nat,i<4->w.cell? ⟨q,37+i,none⟩=some (fnV (77+i))
 hi:∀ j:Nat,337<=j->w.cell? ⟨q,j,none⟩=none
theorem MAt.fr {w:World} {q:Nat} {ba:Option Addr} {bl bc:Nat} {po:Option Addr} {pc:Nat} {M:Ma} (h:MAt w q ba bl bc po pc M) {X:Nat->Prop} {w':World} (g:So.Fr X w w') (hx:¬ X q):MAt w' q ba bl bc po pc M:=by
 have c:=fun o=>g.cell h.lt hx o;exact ⟨Nat.lt_of_lt_of_le h.lt g.size,fun j=>(g.frozen h.lt hx j).trans (h.fz j),(c _).trans h.bk,(c _).trans h.b,(c _).trans h.y,(c _).trans h.o,(c _).trans h.n,(c _).trans h.e,(c _).trans h.v,(c _).trans h.p,(c _).trans h.s,fun i hi=>(c _).trans (h.r i hi),fun i hi=>(c _).trans (h.m i hi),fun i hi=>(c _).trans (h.d i hi),fun i hi=>(c _).trans (h.en i hi),fun j hj=>(c _).trans (h.hi j hj)⟩
theorem MAt.up {w:World} {q:Nat} {ba:Option Addr} {bl bc:Nat} {po:Option Addr} {pc:Nat} {M:Ma} (h:MAt w q ba bl bc po pc M) {w':World} (g:Below w.heap.size w w'):MAt w' q ba bl bc po pc M:=h.fr (So.Fr.of (X:=So.Non) g) fun hk=>hk
theorem MAt.set_b {w:World} {q:Nat} {ba:Option Addr} {bl bc:Nat} {po:Option Addr} {pc:Nat} {M:Ma} (h:MAt w q ba bl bc po pc M) (k:Nat):MAt (w.setCell ⟨q,329,none⟩ (.int .i64 (k:Int))) q ba bl bc po pc { M with b:=k }:=by
 exact ⟨by rw [World.size_setCell];exact h.lt,
  fun j=>by rw [World.frozen?_setCell];exact h.fz j,
  (co (by omega)).trans h.bk,
  cs h.b,
  (co (by omega)).trans h.y,
  (co (by omega)).trans h.o,
  (co (by omega)).trans h.n,
  (co (by omega)).trans h.e,
  (co (by omega)).trans h.v,
  (co (by omega)).trans h.p,
  (co (by omega)).trans h.s,
  fun j hj=>(co (by omega)).trans (h.r j hj),
  fun j hj=>(co (by omega)).trans (h.m j hj),
  fun j hj=>(co (by omega)).trans (h.d j hj),
  fun j hj=>(co (by omega)).trans (h.en j hj),
  fun j hj=>(co (by omega)).trans (h.hi j hj)⟩
theorem MAt.set_y {w:World} {q:Nat} {ba:Option Addr} {bl bc:Nat} {po:Option Addr} {pc:Nat} {M:Ma} (h:MAt w q ba bl bc po pc M) (k:Bool):MAt (w.setCell ⟨q,330,none⟩ (.bool k)) q ba bl bc po pc { M with y:=k }:=by
 exact ⟨by rw [World.size_setCell];exact h.lt,
  fun j=>by rw [World.frozen?_setCell];exact h.fz j,
  (co (by omega)).trans h.bk,
  (co (by omega)).trans h.b,
  cs h.y,
  (co (by omega)).trans h.o,
  (co (by omega)).trans h.n,
  (co (by omega)).trans h.e,
  (co (by omega)).trans h.v,
  (co (by omega)).trans h.p,
  (co (by omega)).trans h.s,
  fun j hj=>(co (by omega)).trans (h.r j hj),
  fun j hj=>(co (by omega)).trans (h.m j hj),
  fun j hj=>(co (by omega)).trans (h.d j hj),
  fun j hj=>(co (by omega)).trans (h.en j hj),
  fun j hj=>(co (by omega)).trans (h.hi j hj)⟩
theorem MAt.set_o {w:World} {q:Nat} {ba:Option Addr} {bl bc:Nat} {po:Option Addr} {pc:Nat} {M:Ma} (h:MAt w q ba bl bc po pc M) (k:Nat):MAt (w.setCell ⟨q,331,none⟩ (.int .i64 (k:Int))) q ba bl bc po pc { M with o:=k }:=by
 exact ⟨by rw [World.size_setCell];exact h.lt,
  fun j=>by rw [World.frozen?_setCell];exact h.fz j,
  (co (by omega)).trans h.bk,
  (co (by omega)).trans h.b,
  (co (by omega)).trans h.y,
  cs h.o,
  (co (by omega)).trans h.n,
  (co (by omega)).trans h.e,
  (co (by omega)).trans h.v,
  (co (by omega)).trans h.p,
  (co (by omega)).trans h.s,
  fun j hj=>(co (by omega)).trans (h.r j hj),
  fun j hj=>(co (by omega)).trans (h.m j hj),
  fun j hj=>(co (by omega)).trans (h.d j hj),
  fun j hj=>(co (by omega)).trans (h.en j hj),
  fun j hj=>(co (by omega)).trans (h.hi j hj)⟩
theorem MAt.set_n {w:World} {q:Nat} {ba:Option Addr} {bl bc:Nat} {po:Option Addr} {pc:Nat} {M:Ma} (h:MAt w q ba bl bc po pc M) (k:Int):MAt (w.setCell ⟨q,332,none⟩ (.int .i64 k)) q ba bl bc po pc { M with n:=k }:=by
 exact ⟨by rw [World.size_setCell];exact h.lt,
  fun j=>by rw [World.frozen?_setCell];exact h.fz j,
  (co (by omega)).trans h.bk,
  (co (by omega)).trans h.b,
  (co (by omega)).trans h.y,
  (co (by omega)).trans h.o,
  cs h.n,
  (co (by omega)).trans h.e,
  (co (by omega)).trans h.v,
  (co (by omega)).trans h.p,
  (co (by omega)).trans h.s,
  fun j hj=>(co (by omega)).trans (h.r j hj),
  fun j hj=>(co (by omega)).trans (h.m j hj),
  fun j hj=>(co (by omega)).trans (h.d j hj),
  fun j hj=>(co (by omega)).trans (h.en j hj),
  fun j hj=>(co (by omega)).trans (h.hi j hj)⟩
theorem MAt.set_e {w:World} {q:Nat} {ba:Option Addr} {bl bc:Nat} {po:Option Addr} {pc:Nat} {M:Ma} (h:MAt w q ba bl bc po pc M) (k:Int):MAt (w.setCell ⟨q,333,none⟩ (.int .i64 k)) q ba bl bc po pc { M with e:=k }:=by
 exact ⟨by rw [World.size_setCell];exact h.lt,
  fun j=>by rw [World.frozen?_setCell];exact h.fz j,
  (co (by omega)).trans h.bk,
  (co (by omega)).trans h.b,
  (co (by omega)).trans h.y,
  (co (by omega)).trans h.o,
  (co (by omega)).trans h.n,
  cs h.e,
  (co (by omega)).trans h.v,
  (co (by omega)).trans h.p,
  (co (by omega)).trans h.s,
  fun j hj=>(co (by omega)).trans (h.r j hj),
  fun j hj=>(co (by omega)).trans (h.m j hj),
  fun j hj=>(co (by omega)).trans (h.d j hj),
  fun j hj=>(co (by omega)).trans (h.en j hj),
  fun j hj=>(co (by omega)).trans (h.hi j hj)⟩
theorem MAt.set_v {w:World} {q:Nat} {ba:Option Addr} {bl bc:Nat} {po:Option Addr} {pc:Nat} {M:Ma} (h:MAt w q ba bl bc po pc M) (k:Int):MAt (w.setCell ⟨q,334,none⟩ (.int .i64 k)) q ba bl bc po pc { M with v:=k }:=by
 exact ⟨by rw [World.size_setCell];exact h.lt,
  fun j=>by rw [World.frozen?_setCell];exact h.fz j,
  (co (by omega)).trans h.bk,
  (co (by omega)).trans h.b,
  (co (by omega)).trans h.y,
  (co (by omega)).trans h.o,
  (co (by omega)).trans h.n,
  (co (by omega)).trans h.e,
  cs h.v,
  (co (by omega)).trans h.p,
  (co (by omega)).trans h.s,
  fun j hj=>(co (by omega)).trans (h.r j hj),
  fun j hj=>(co (by omega)).trans (h.m j hj),
  fun j hj=>(co (by omega)).trans (h.d j hj),
  fun j hj=>(co (by omega)).trans (h.en j hj),
  fun j hj=>(co (by omega)).trans (h.hi j hj)⟩
theorem MAt.set_p {w:World} {q:Nat} {ba:Option Addr} {bl bc:Nat} {po:Option Addr} {pc:Nat} {M:Ma} (h:MAt w q ba bl bc po pc M) (po':Option Addr) (pc':Nat) (l:List Int):MAt (w.setCell ⟨q,335,none⟩ (.slice po' l.length pc')) q ba bl bc po' pc' { M with pr:=l }:=by
 exact ⟨by rw [World.size_setCell];exact h.lt,
  fun j=>by rw [World.frozen?_setCell];exact h.fz j,
  (co (by omega)).trans h.bk,
  (co (by omega)).trans h.b,
  (co (by omega)).trans h.y,
  (co (by omega)).trans h.o,
  (co (by omega)).trans h.n,
  (co (by omega)).trans h.e,
  (co (by omega)).trans h.v,
  cs h.p,
  (co (by omega)).trans h.s,
  fun j hj=>(co (by omega)).trans (h.r j hj),
  fun j hj=>(co (by omega)).trans (h.m j hj),
  fun j hj=>(co (by omega)).trans (h.d j hj),
  fun j hj=>(co (by omega)).trans (h.en j hj),
  fun j hj=>(co (by omega)).trans (h.hi j hj)⟩
theorem MAt.set_s {w:World} {q:Nat} {ba:Option Addr} {bl bc:Nat} {po:Option Addr} {pc:Nat} {M:Ma} (h:MAt w q ba bl bc po pc M) (k:Nat):MAt (w.setCell ⟨q,336,none⟩ (.int .i64 (k:Int))) q ba bl bc po pc { M with s:=k }:=by
 exact ⟨by rw [World.size_setCell];exact h.lt,
  fun j=>by rw [World.frozen?_setCell];exact h.fz j,
  (co (by omega)).trans h.bk,
  (co (by omega)).trans h.b,
  (co (by omega)).trans h.y,
  (co (by omega)).trans h.o,
  (co (by omega)).trans h.n,
  (co (by omega)).trans h.e,
  (co (by omega)).trans h.v,
  (co (by omega)).trans h.p,
  cs h.s,
  fun j hj=>(co (by omega)).trans (h.r j hj),
  fun j hj=>(co (by omega)).trans (h.m j hj),
  fun j hj=>(co (by omega)).trans (h.d j hj),
  fun j hj=>(co (by omega)).trans (h.en j hj),
  fun j hj=>(co (by omega)).trans (h.hi j hj)⟩
theorem MAt.set_r {w:World} {q:Nat} {ba:Option Addr} {bl bc:Nat} {po:Option Addr} {pc:Nat} {M:Ma} (h:MAt w q ba bl bc po pc M) {i:Nat} (hi:i<32) (v:Int):MAt (w.setCell ⟨q,41+i,none⟩ (.int .i64 v)) q ba bl bc po pc { M with r:=upd M.r i v }:=by
 exact ⟨by rw [World.size_setCell];exact h.lt,
  fun j=>by rw [World.frozen?_setCell];exact h.fz j,
  (co (by omega)).trans h.bk,
  (co (by omega)).trans h.b,
  (co (by omega)).trans h.y,
  (co (by omega)).trans h.o,
  (co (by omega)).trans h.n,
  (co (by omega)).trans h.e,
  (co (by omega)).trans h.v,
  (co (by omega)).trans h.p,
  (co (by omega)).trans h.s,
  fun j hj=>by
   by_cases e:j=i
   ·subst e;rw [cs (h.r j hj)];simp [upd]
   ·rw [co (by omega),h.r j hj];simp [upd,e],
  fun j hj=>(co (by omega)).trans (h.m j hj),
  fun j hj=>(co (by omega)).trans (h.d j hj),
  fun j hj=>(co (by omega)).trans (h.en j hj),
  fun j hj=>(co (by omega)).trans (h.hi j hj)⟩
theorem MAt.set_m {w:World} {q:Nat} {ba:Option Addr} {bl bc:Nat} {po:Option Addr} {pc:Nat} {M:Ma} (h:MAt w q ba bl bc po pc M) {i:Nat} (hi:i<256) (v:Int):MAt (w.setCell ⟨q,73+i,none⟩ (.int .i64 v)) q ba bl bc po pc { M with m:=upd M.m i v }:=by
 exact ⟨by rw [World.size_setCell];exact h.lt,
  fun j=>by rw [World.frozen?_setCell];exact h.fz j,
  (co (by omega)).trans h.bk,
  (co (by omega)).trans h.b,
  (co (by omega)).trans h.y,
  (co (by omega)).trans h.o,
  (co (by omega)).trans h.n,
  (co (by omega)).trans h.e,
  (co (by omega)).trans h.v,
  (co (by omega)).trans h.p,
  (co (by omega)).trans h.s,
  fun j hj=>(co (by omega)).trans (h.r j hj),
  fun j hj=>by
   by_cases e:j=i
   ·subst e;rw [cs (h.m j hj)];simp [upd]
   ·rw [co (by omega),h.m j hj];simp [upd,e],
  fun j hj=>(co (by omega)).trans (h.d j hj),
  fun j hj=>(co (by omega)).trans (h.en j hj),
  fun j hj=>(co (by omega)).trans (h.hi j hj)⟩
end Go.Proofs.YtcmlnemokckbdaaGreatDoor.L8.Sm
namespace Go.Proofs.YtcmlnemokckbdaaGreatDoor.L8.Sm
open Go.ChangeShapes Go.WideShapes Go.ChangeAt Go.RowKit
open YtcmlnemokckbdaaGreatDoor.L8.Op YtcmlnemokckbdaaGreatDoor.L8.So
def Far (T:Nat->Prop) (ao:Option Addr) (n:Nat):Prop:=0<n->∀ a,ao=some a->¬ T a.block
theorem opsAt_fr {T:Nat->Prop} {w w':World} {ao:Option Addr} {xs:List O} (h:OpsAt w ao xs) (g:Fr T w w') (hf:Far T ao xs.length):OpsAt w' ao xs:=by
 refine ⟨h.ok,h.len,fun h0=>?_⟩;obtain ⟨b,f,e,z,hx⟩:=h.is h0;have hT:¬ T b:=hf h0 _ e;refine ⟨b,f,e,Nat.lt_of_lt_of_le z g.size,fun i hi=>?_⟩;obtain ⟨c0,c1,c2,c3,c4⟩:=hx i hi;have c:=fun o=>g.cell z hT o;exact ⟨(c _).trans c0,(c _).trans c1,(c _).trans c2,(c _).trans c3,(c _).trans c4⟩
theorem far_grow {T T':Nat->Prop} {w:World} {ao:Option Addr} {xs:List O} (h:OpsAt w ao xs) (hf:Far T ao xs.length) (ht:∀ k,k<w.heap.size->T' k->T k):Far T' ao xs.length:=fun h0 a e hT=>by
 obtain ⟨b,f,e',z,_⟩:=h.is h0;rw [e'] at e;cases e;exact hf h0 _ e' (ht _ z hT)
structure PIn (w:World) (T:Nat->Prop) (ao:Option Addr) (ps:List Bk):Prop where
 len:ps.length<=2199023255552
 is:0<ps.length->∃ b f,ao=some ⟨b,f,none⟩/\b<w.heap.size/\¬ T b/\∀ (i:Nat) (h:i<ps.length),∃ p,BAt w b (f+i*6) ps[i] p/\BIn w ps[i] p/\Far T p.oa ps[i].ops.length/\Far T p.ba ps[i].body.length
theorem PIn.pat {w:World} {T:Nat->Prop} {ao:Option Addr} {ps:List Bk} (h:PIn w T ao ps):PAt w ao ps:=by
 refine ⟨h.len,fun h0=>?_⟩;obtain ⟨b,f,e,z,-,hx⟩:=h.is h0;refine ⟨b,f,e,z,fun i hi=>?_⟩;obtain ⟨p,h1,h2,-⟩:=hx i hi;exact ⟨p,h1,h2⟩
theorem PIn.fr {w w':World} {T:Nat->Prop} {ao:Option Addr} {ps:List Bk} (h:PIn w T ao ps) (g:Fr T w w'):PIn w' T ao ps:=by
 refine ⟨h.len,fun h0=>?_⟩;obtain ⟨b,f,e,z,hT,hx⟩:=h.is h0;refine ⟨b,f,e,Nat.lt_of_lt_of_le z g.size,hT,fun i hi=>?_⟩;obtain ⟨p,⟨c0,c1,c2,c3,c4,c5⟩,h2,h3,h4⟩:=hx i hi;have c:=fun o=>g.cell z hT o;exact ⟨p,⟨(c _).trans c0,(c _).trans c1,(c _).trans c2,(c _).trans c3,(c _).trans c4,(c _).trans c5⟩,⟨h2.ok,opsAt_fr h2.o g h3,opsAt_fr h2.b g h4,h2.c⟩,h3,h4⟩
theorem PIn.grow {w:World} {T T':Nat->Prop} {ao:Option Addr} {ps:List Bk} (h:PIn w T ao ps) (ht:∀ k,k<w.heap.size->T' k->T k):PIn w T' ao ps:=by
 refine ⟨h.len,fun h0=>?_⟩;obtain ⟨b,f,e,z,hT,hx⟩:=h.is h0;refine ⟨b,f,e,z,fun h'=>hT (ht _ z h'),fun i hi=>?_⟩;obtain ⟨p,h1,h2,h3,h4⟩:=hx i hi;exact ⟨p,h1,h2,far_grow h2.o h3 ht,far_grow h2.b h4 ht⟩
theorem pin_of {w:World} {T:Nat->Prop} {ao:Option Addr} {ps:List Bk} (h:PAt w ao ps) (ht:∀ k,k<w.heap.size->¬ T k):PIn w T ao ps:=by
 have fa:∀ {a:Option Addr} {xs:List O},OpsAt w a xs->Far T a xs.length:=fun {a xs} ho h0 x e hT=>by
  obtain ⟨b,f,e',z,_⟩:=ho.is h0;rw [e'] at e;cases e;exact ht _ z hT
 refine ⟨h.len,fun h0=>?_⟩;obtain ⟨b,f,e,z,hx⟩:=h.is h0;refine ⟨b,f,e,z,ht _ z,fun i hi=>?_⟩;obtain ⟨p,h1,h2⟩:=hx i hi;exact ⟨p,h1,h2,fa h2.o,fa h2.b⟩
def nums (l:List Int):List Value:=l.map fun x=>.int .i64 x
structure Tn (w:World) (T:Nat->Prop) (w':World) (T':Nat->Prop):Prop where
 f:Fr T w w'
 t:∀ k,T' k->T k\/w.heap.size<=k
theorem Tn.refl (w:World) (T:Nat->Prop):Tn w T w T:=⟨Fr.refl _ _,fun _ h=>.inl h⟩
theorem Tn.of {w w':World} {T:Nat->Prop} (h:Below w.heap.size w w'):Tn w T w' T:=⟨Fr.of h,fun _ h=>.inl h⟩
theorem Tn.trans {a b c:World} {T U V:Nat->Prop} (h:Tn a T b U) (g:Tn b U c V):Tn a T c V:=
 ⟨h.f.trans g.f fun k hk hU=>(h.t k hU).elim id fun h'=>by omega,fun k hV=>(g.t k hV).elim (h.t k) fun h'=>.inr (Nat.le_trans h.f.size h')⟩
theorem Tn.then {a b c:World} {T U:Nat->Prop} (h:Tn a T b U) (g:Below b.heap.size b c):Tn a T c U:=h.trans (Tn.of g)
theorem Tn.below {a b:World} {T U:Nat->Prop} {B:Nat} (h:Tn a T b U) (hB:B<=a.heap.size) (ht:∀ k,k<B->¬ T k):Below B a b:=h.f.below hB ht
structure MR (w:World) (q:Nat) (ps:List Bk) (T:Nat->Prop) (M:Ma):Prop where
 ex:∃ ba bc po pc,MAt w q ba ps.length bc po pc M/\PIn w (fun k=>T k\/q<=k) ba ps/\w.ownsRow (q+1) 2 1 (.slice po M.pr.length pc) M.pr.length (nums M.pr)/\∀ a,po=some a->T a.block
 tq:T q
 tl:∀ k,T k->k<w.heap.size
structure MM (w:World) (q:Nat) (ps:List Bk) (T:Nat->Prop) (M:Ma):Prop where
 mr:MR w q ps T M
 inv:Inv ps M
 ps:PsM ps
theorem row_fr {T:Nat->Prop} {w w':World} {B:Nat} {e:TypeId} {z:Nat} {v:Value} {n:Nat} {xs:List Value} (h:w.ownsRow B e z v n xs) (g:Fr T w w') (hT:∀ k,v.ownBlock=some k->¬ T k):w'.ownsRow B e z v n xs:=by
 refine ⟨h.1,h.2.imp id ?_⟩;rintro ⟨b,cap,cur,rfl,h2,h3,h4⟩;have hz:b<w.heap.size:=(h.lt b rfl).2;exact ⟨b,cap,cur,rfl,h2,by rw [g.block b hz (hT b rfl)];exact h3,h4⟩
theorem row_up {w w':World} {B:Nat} {e:TypeId} {z:Nat} {v:Value} {n:Nat} {xs:List Value} (h:w.ownsRow B e z v n xs) (hb:Below w.heap.size w w'):w'.ownsRow B e z v n xs:=row_fr h (Fr.of (X:=Non) hb) fun _ _ hk=>hk
theorem MR.fr {w w':World} {q:Nat} {ps:List Bk} {T X:Nat->Prop} {M:Ma} (h:MR w q ps T M) (g:Fr X w w') (hx:∀ k,k<w.heap.size->X k->False):MR w' q ps T M:=by
 have hb:Below w.heap.size w w':=g.below (Nat.le_refl _) fun k hk hX=>hx k hk hX;obtain ⟨ba,bc,po,pc,h1,h2,h3,h4⟩:=h.ex;exact ⟨⟨ba,bc,po,pc,h1.up hb,h2.fr (Fr.of hb),row_up h3 hb,h4⟩,h.tq,fun k hk=>Nat.lt_of_lt_of_le (h.tl k hk) hb.size⟩
theorem MR.up {w w':World} {q:Nat} {ps:List Bk} {T:Nat->Prop} {M:Ma} (h:MR w q ps T M) (hb:Below w.heap.size w w'):MR w' q ps T M:=h.fr (Fr.of (X:=Non) hb) fun _ _ hk=>hk
theorem MR.apart {w w':World} {q:Nat} {ps:List Bk} {T X:Nat->Prop} {M:Ma} (h:MR w q ps T M) (g:Fr X w w') (hx:∀ k,T k->¬ X k) (hp:∀ k,k<w.heap.size->X k->q<=k\/∀ j i,w.cell? ⟨k,j,none⟩≠some (.int .i8 i)):MR w' q ps T M:=by
 obtain ⟨ba,bc,po,pc,h1,h2,h3,h4⟩:=h.ex;have fa:∀ {a:Option Addr} {xs:List O},OpsAt w a xs->Far (fun k=>T k\/q<=k) a xs.length->Far X a xs.length:=fun {a xs} ho hf h0 x e hx=>by
  obtain ⟨b,f,e',z,hc⟩:=ho.is h0;rw [e'] at e;cases e;rcases hp b z hx with hq|hq
  ·exact hf h0 _ e' (.inr hq)
  ·exact hq _ _ (hc 0 h0).c0
 have h2':PIn w' (fun k=>T k\/q<=k) ba ps:=by
  have hA:PIn w (fun k=>(T k\/q<=k)\/X k) ba ps:=by
   refine ⟨h2.len,fun h0=>?_⟩;obtain ⟨b,f,e,z,hT,hc⟩:=h2.is h0;refine ⟨b,f,e,z,fun h=>h.elim hT fun hX=>?_,fun i hi=>?_⟩
   ·rcases hp b z hX with hq|hq
    ·exact hT (.inr hq)
    ·obtain ⟨p,k1,-⟩:=hc 0 h0;exact hq _ _ k1.c1
   ·obtain ⟨p,k1,k2,k3,k4⟩:=hc i hi;exact ⟨p,k1,k2,fun h a ha hh=>hh.elim (k3 h a ha) (fa k2.o k3 h a ha),fun h a ha hh=>hh.elim (k4 h a ha) (fa k2.b k4 h a ha)⟩
  exact (hA.fr (g.mono fun _ _ h=>.inr h)).grow fun _ _ h=>.inl h
 refine ⟨⟨ba,bc,po,pc,h1.fr g (hx q h.tq),h2',row_fr h3 g fun k hk=>?_,h4⟩,h.tq,fun k hk=>Nat.lt_of_lt_of_le (h.tl k hk) g.size⟩
 cases po with
 | none=>simp [Value.ownBlock] at hk
 | some a=>
  simp only [Value.ownBlock,Option.some.injEq] at hk;subst hk;exact hx _ (h4 a rfl)
theorem MM.up {w w':World} {q:Nat} {ps:List Bk} {T:Nat->Prop} {M:Ma} (h:MM w q ps T M) (hb:Below w.heap.size w w'):MM w' q ps T M:=⟨h.mr.up hb,h.inv,h.ps⟩
theorem MM.apart {w w':World} {q:Nat} {ps:List Bk} {T X:Nat->Prop} {M:Ma} (h:MM w q ps T M) (g:Fr X w w') (hx:∀ k,T k->¬ X k) (hp:∀ k,k<w.heap.size->X k->q<=k\/∀ j i,w.cell? ⟨k,j,none⟩≠some (.int .i8 i)):MM w' q ps T M:=⟨h.mr.apart g hx hp,h.inv,h.ps⟩
end Go.Proofs.YtcmlnemokckbdaaGreatDoor.L8.Sm
