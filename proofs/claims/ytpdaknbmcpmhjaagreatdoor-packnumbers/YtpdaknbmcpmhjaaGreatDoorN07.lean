/- Parts Hm El Hn. -/
import Derived.Test.YtpdaknbmcpmhjaaGreatDoorN06
import Derived.Deep.OwnRows
import Derived.Deep.DeepCutAuto
set_option maxRecDepth 20000
set_option maxHeartbeats 8000000
namespace Go.Proofs.YtpdaknbmcpmhjaaGreatDoor.Dp
open Go.ChangeShapes Go.WideShapes Go.ChangeAt Go.RowKit
open YtpdaknbmcpmhjaaGreatDoor.Op YtpdaknbmcpmhjaaGreatDoor.So
open YtpdaknbmcpmhjaaGreatDoor.Tb (Tab TabAt Bnds)
def updI (L:Nat->Int) (k:Nat) (v:Int):Nat->Int:=fun j=>if j=k then v else L j
theorem updI_same (L:Nat->Int) (k:Nat) (v:Int):updI L k v k=v:=if_pos rfl
theorem updI_other (L:Nat->Int) {k j:Nat} (v:Int) (h:¬ j=k):updI L k v j=L j:=if_neg h
def raise (h:Nat->Int) (e:Ed):Nat->Int:=updI h e.f.toNat (max (h e.f.toNat) (e.l+h e.t.toNat))
def hts (lat : Nat->Int) (es:List Ed):Nat->Int:=es.foldr (fun e h=>raise h e) lat
theorem hts_drop (lat : Nat->Int) (es:List Ed) (k:Nat) (h:k<es.length):hts lat (es.drop k)=raise (hts lat (es.drop (k+1))) es[k]:=by
 rw [List.drop_eq_getElem_cons h];rfl
structure EOk (n:Nat) (es:List Ed):Prop where
 f0:∀ e∈es,0<=e.f
 ft:∀ e∈es,e.f<e.t
 tn:∀ e∈es,e.t<n
 l0:∀ e∈es,0<=e.l/\e.l<=8
 up:es.Pairwise fun a b=>a.t<=b.t
theorem EOk.tail {n:Nat} {e:Ed} {es:List Ed} (h:EOk n (e::es)):EOk n es:=
 ⟨fun x hx=>h.f0 x (List.mem_cons_of_mem _ hx),fun x hx=>h.ft x (List.mem_cons_of_mem _ hx),fun x hx=>h.tn x (List.mem_cons_of_mem _ hx),fun x hx=>h.l0 x (List.mem_cons_of_mem _ hx),(List.pairwise_cons.1 h.up).2⟩
theorem EOk.drop {n:Nat} {es:List Ed} (h:EOk n es) (k:Nat):EOk n (es.drop k):=
 ⟨fun x hx=>h.f0 x (List.mem_of_mem_drop hx),fun x hx=>h.ft x (List.mem_of_mem_drop hx),fun x hx=>h.tn x (List.mem_of_mem_drop hx),fun x hx=>h.l0 x (List.mem_of_mem_drop hx),h.up.sublist (List.drop_sublist k es)⟩
structure Hts (n:Nat) (lat : Nat->Int) (es:List Ed) (H:Nat->Int):Prop where
 lo:∀ i,i<n->lat i<=H i
 ed:∀ e∈es,e.l+H e.t.toNat<=H e.f.toNat
 ex:∀ i,i<n->H i=lat i\/∃ e∈es,e.f=(i:Int)/\H i=e.l+H e.t.toNat
theorem hts_is {n:Nat} {lat : Nat->Int} : ∀ {es:List Ed},EOk n es->Hts n lat es (hts lat es)
 | [],_=>⟨fun _ _=>Int.le_refl _,fun e he=>(by cases he),fun _ _=>.inl rfl⟩
 | e::es,h=>by
  have ih:=hts_is (lat:=lat) h.tail;have f0:=h.f0 e (List.mem_cons_self ..);have ft:=h.ft e (List.mem_cons_self ..);have hu:=(List.pairwise_cons.1 h.up).1;have et:hts lat (e::es)=raise (hts lat es) e:=rfl;rw [et];generalize hts lat es=H' at *;have key:∀ x∈e::es,raise H' e x.t.toNat = H' x.t.toNat:=fun x hx=>by
   refine updI_other _ _ ?_;have hx0:e.f<x.t:=by
    rcases List.mem_cons.1 hx with rfl|hx
    ·exact ft
    ·have:=hu x hx;omega
   omega
  have ge:∀ i,H' i<=raise H' e i:=fun i=>by
   unfold raise updI
   split
   ·rename_i hi;subst hi;omega
   ·omega
  refine ⟨fun i hi=>Int.le_trans (ih.lo i hi) (ge i),fun x hx=>?_,fun i hi=>?_⟩
  ·rw [key x hx];rcases List.mem_cons.1 hx with rfl|hx'
   ·unfold raise;rw [updI_same];omega
   ·exact Int.le_trans (ih.ed x hx') (ge _)
  ·by_cases hi2:i=e.f.toNat
   ·subst hi2;have e1:raise H' e e.f.toNat = max (H' e.f.toNat) (e.l+H' e.t.toNat):=updI_same _ _ _;rw [e1];rcases Int.le_total (H' e.f.toNat) (e.l+H' e.t.toNat) with hc|hc
    ·right
     refine ⟨e,List.mem_cons_self ..,by omega,?_⟩;rw [key e (List.mem_cons_self ..)];omega
    ·rw [Int.max_eq_left hc];rcases ih.ex _ hi with h1|⟨x,hx,h1,h2⟩
     ·exact .inl h1
     ·exact .inr ⟨x,List.mem_cons_of_mem _ hx,h1,by rw [key x (List.mem_cons_of_mem _ hx)];exact h2⟩
   ·have e1:raise H' e i=H' i:=updI_other _ _ hi2;rw [e1];rcases ih.ex _ hi with h1|⟨x,hx,h1,h2⟩
    ·exact .inl h1
    ·exact .inr ⟨x,List.mem_cons_of_mem _ hx,h1,by rw [key x (List.mem_cons_of_mem _ hx)];exact h2⟩
theorem Hts.le {n:Nat} {lat : Nat->Int} {es:List Ed} {H:Nat->Int} (h:Hts n lat es H) (ho:EOk n es) (hl:∀ i,i<n->1<=lat i/\lat i<=8):∀ i,i<n->1<=H i/\H i<=8*(n-i:Nat):=by
 have main:∀ d i,i<n->n-i<=d->H i<=8*(n-i:Nat):=by
  intro d
  induction d with
  | zero=>intro i hi hd;omega
  | succ d ih=>
   intro i hi hd;rcases h.ex i hi with h1|⟨e,he,hf,h2⟩
   ·have:=hl i hi;omega
   ·have h3:=ho.ft e he;have h4:=ho.tn e he;have h5:=ho.l0 e he;have h6:=ih e.t.toNat (by omega) (by omega);omega
 exact fun i hi=>⟨Int.le_trans (hl i hi).1 (h.lo i hi),main _ i hi (Nat.le_refl _)⟩
def Ahd (H:Nat->Int) (i j:Int):Prop:=H j.toNat<H i.toNat\/H i.toNat = H j.toNat/\i<j
theorem pw_uniq {R:Int->Int->Prop} (ha:∀ x y,R x y->¬ R y x):∀ (l m:List Int),l.Pairwise R->m.Pairwise R->(∀ x,x∈l↔x∈m)->l=m
 | [],[],_,_,_=>rfl
 | [],b::m,_,_,h=>by have:=(h b).2 (List.mem_cons_self ..);cases this
 | a::l,[],_,_,h=>by have:=(h a).1 (List.mem_cons_self ..);cases this
 | a::l,b::m,h1,h2,h=>by
  have p1:=List.pairwise_cons.1 h1;have p2:=List.pairwise_cons.1 h2;have e:a=b:=by
   rcases List.mem_cons.1 ((h a).1 (List.mem_cons_self ..)) with e|e
   ·exact e
   ·rcases List.mem_cons.1 ((h b).2 (List.mem_cons_self ..)) with e' | e'
    ·exact e'.symm
    ·exact absurd (p1.1 b e') (ha _ _ (p2.1 a e))
  subst e;rw [pw_uniq ha l m p1.2 p2.2 fun x=>?_];constructor
  ·intro hx;rcases List.mem_cons.1 ((h x).1 (List.mem_cons_of_mem _ hx)) with e|e
   ·subst e;exact absurd (p1.1 x hx) (ha _ _ (p1.1 x hx))
   ·exact e
  ·intro hx;rcases List.mem_cons.1 ((h x).2 (List.mem_cons_of_mem _ hx)) with e|e
   ·subst e;exact absurd (p2.1 x hx) (ha _ _ (p2.1 x hx))
   ·exact e
theorem ahd_asym (H:Nat->Int) (x y:Int) (h:Ahd H x y):¬ Ahd H y x:=by unfold Ahd at *;omega
def lev (H:Nat->Int) (x:Int):Nat->List Int
 | 0=>[]
 | k+1=>lev H x k++(if H k=x then [(k:Int)] else [])
theorem lev_mem (H:Nat->Int) (x:Int):∀ (n:Nat) (i:Int),i∈lev H x n↔∃ k:Nat,k<n/\i=k/\H k=x
 | 0,i=>by simp [lev]
 | n+1,i=>by
  unfold lev;rw [List.mem_append,lev_mem H x n i];constructor
  ·rintro (⟨k,h1,h2⟩|h)
   ·exact ⟨k,by omega,h2⟩
   ·split at h
    ·exact ⟨n,by omega,by simpa using h,by assumption⟩
    ·cases h
  ·rintro ⟨k,h1,h2,h3⟩
   by_cases e:k=n
   ·subst e;right;rw [if_pos h3];simpa using h2
   ·exact .inl ⟨k,by omega,h2,h3⟩
theorem lev_pw (H:Nat->Int) (x:Int):∀ n,(lev H x n).Pairwise (Ahd H)
 | 0=>List.Pairwise.nil
 | n+1=>by
  unfold lev;refine List.pairwise_append.2 ⟨lev_pw H x n,by split <;> simp,fun a ha b hb=>?_⟩;obtain ⟨k,h1,rfl,h2⟩:=(lev_mem H x n a).1 ha
  split at hb
  ·rename_i hx;obtain rfl:b=n:=by simpa using hb
   right
   refine ⟨?_,by omega⟩;show H (k:Int).toNat = H (n:Int).toNat;simp only [Int.toNat_natCast];omega
  ·cases hb
def dOrd (H:Nat->Int) (n:Nat) (most:Int):Nat->List Int
 | 0=>[]
 | k+1=>dOrd H n most k++lev H (most-k) n
theorem dOrd_mem (H:Nat->Int) (n:Nat) (most:Int):∀ (k:Nat) (i:Int),i∈dOrd H n most k↔∃ j:Nat,j<n/\i=j/\most-k<H j/\H j<=most
 | 0,i=>by
  constructor
  ·intro h;cases h
  ·rintro ⟨j,h1,h2,h3,h4⟩;omega
 | k+1,i=>by
  unfold dOrd;rw [List.mem_append,dOrd_mem H n most k i,lev_mem];constructor
  ·rintro (⟨j,h1,h2,h3,h4⟩|⟨j,h1,h2,h3⟩)
   ·exact ⟨j,h1,h2,by omega,h4⟩
   ·exact ⟨j,h1,h2,by omega,by omega⟩
  ·rintro ⟨j,h1,h2,h3,h4⟩
   by_cases e:H j=most-k
   ·exact .inr ⟨j,h1,h2,e⟩
   ·exact .inl ⟨j,h1,h2,by omega,h4⟩
theorem dOrd_pw (H:Nat->Int) (n:Nat) (most:Int):∀ k,(dOrd H n most k).Pairwise (Ahd H)
 | 0=>List.Pairwise.nil
 | k+1=>by
  unfold dOrd;refine List.pairwise_append.2 ⟨dOrd_pw H n most k,lev_pw H _ n,fun a ha b hb=>?_⟩;obtain ⟨i,-,rfl,h1,-⟩:=(dOrd_mem H n most k a).1 ha;obtain ⟨j,-,rfl,h2⟩:=(lev_mem H _ n b).1 hb
  left
  show H (j:Int).toNat<H (i:Int).toNat;simp only [Int.toNat_natCast];omega
theorem edL_mem {e x:Ed} {rs:List Rw} (h:x∈edL e rs):x.f=e.f/\x.t=e.t/\∃ r∈rs,x.l=r.l:=by
 unfold edL at h;obtain ⟨r,hr,hx⟩:=List.mem_flatMap.1 h
 split at hx
 ·rw [List.mem_singleton.1 hx];exact ⟨rfl,rfl,r,hr,rfl⟩
 ·cases hx
theorem rows_lat {a b:Pt} (ha:1<=a.l/\a.l<=8) (hb:1<=b.l/\b.l<=8) (lr i:Int) (m:Bool):∀ r∈rowsP a b lr i m,0<=r.l/\r.l<=8:=fun r hr=>by
 simp only [rowsP,List.mem_cons,List.not_mem_nil,or_false] at hr;rcases hr with rfl|rfl|rfl|rfl|rfl
 ·exact ⟨by show 0<=a.l;omega,ha.2⟩
 ·exact ⟨by show (0:Int)<=0;omega,by show (0:Int)<=8;omega⟩
 ·exact ⟨by show 0<=max 0 (a.l-b.l+1);omega,by show max 0 (a.l-b.l+1)<=8;omega⟩
 ·show 0<=memL a b/\memL a b<=8;unfold memL
  split
  ·omega
  ·split <;> omega
 ·exact ⟨by show (0:Int)<=1;omega,by show (1:Int)<=8;omega⟩
theorem pairE_mem {ps:List Pt} (hp:PtsOk ps) {L:Nat->Int} {d:Int} {m:Bool} {i j:Nat} (hi:i<ps.length) (hj:j<ps.length) {x:Ed} (h:x∈pairE ps L d m i j):x.f=(i:Int)/\x.t=(j:Int)/\0<=x.l/\x.l<=8:=by
 obtain ⟨h1,h2,r,hr,h3⟩:=edL_mem h;rw [pAt_at hi,pAt_at hj] at hr
 have:=rows_lat (hp _ (List.getElem_mem hi)).2 (hp _ (List.getElem_mem hj)).2 _ _ _ r hr
 exact ⟨h1,h2,by omega,by omega⟩
theorem cat_up {F:Nat->List Ed} : ∀ {n:Nat},(∀ k,k<n->∀ x∈F k,x.t=(k:Int))->(cat F n).Pairwise fun a b=>a.t<=b.t
 | 0,_=>List.Pairwise.nil
 | n+1,h=>by
  unfold cat;refine List.pairwise_append.2 ⟨cat_up fun k hk=>h k (by omega),?_,fun a ha b hb=>?_⟩
  ·have hn:=h n (by omega);exact List.Pairwise.imp_of_mem (fun {a b} ha hb _=>by rw [hn a ha,hn b hb];exact Int.le_refl _) (List.pairwise_of_forall (l:=F n) (R:=fun _ _=>True) fun _ _=>trivial)
  ·obtain ⟨k,hk,ha⟩:=cat_mem.1 ha;rw [h k (by omega) a ha,h n (by omega) b hb];omega
theorem row_t {xs:List O} {ps:List Pt} (hp:PtsOk ps) {j:Nat} (hj:j<ps.length) {n:Nat} (hn:n<=ps.length) {x:Ed} (h:x∈rowW xs ps j n):∃ i:Nat,i<n/\x.f=(i:Int)/\x.t=(j:Int)/\0<=x.l/\x.l<=8:=by
 obtain ⟨i,hi,hx⟩:=cat_mem.1 h;exact ⟨i,hi,pairE_mem hp (by omega) hj hx⟩
theorem ofE_ok (t:Tab) (xs:List O) (hp:PtsOk (ptsL t xs)):EOk xs.length (ofE t xs):=by
 have hl:=ptsL_len t xs;have key:∀ x∈ofE t xs,∃ i j:Nat,i<j/\j<xs.length/\x.f=(i:Int)/\x.t=(j:Int)/\0<=x.l/\x.l<=8:=fun x hx=>by
  obtain ⟨j,hj,hx⟩:=cat_mem.1 hx;obtain ⟨i,hi,h1⟩:=row_t hp (by rw [hl];exact hj) (by rw [hl];omega) hx;exact ⟨i,j,hi,hj,h1⟩
 refine ⟨fun x hx=>?_,fun x hx=>?_,fun x hx=>?_,fun x hx=>?_,?_⟩
 ·obtain ⟨i,j,h1,h2,h3,h4,h5⟩:=key x hx;omega
 ·obtain ⟨i,j,h1,h2,h3,h4,h5⟩:=key x hx;omega
 ·obtain ⟨i,j,h1,h2,h3,h4,h5⟩:=key x hx;omega
 ·obtain ⟨i,j,h1,h2,h3,h4,h5⟩:=key x hx;exact h5
 ·exact cat_up fun k hk x hx=>by
   obtain ⟨i,hi,h1,h2,h3⟩:=row_t hp (by rw [hl];exact hk) (by rw [hl];omega) hx;exact h2
def latV (t:Tab) (d:Int):Int:=t.l (if 15<=d then 2 else if 12<=d then 1 else 0)
def latN (t:Tab) (xs:List O) (i:Nat):Int:=match xs[i]? with|some o=>latV t o.op|none=>1
theorem latN_at (t:Tab) {xs:List O} {i:Nat} (h:i<xs.length):latN t xs i=latV t xs[i].op:=by unfold latN;rw [List.getElem?_eq_getElem h]
theorem latV_in {t:Tab} (ht:t.ok=true) (d:Int):1<=latV t d/\latV t d<=8:=by
 unfold latV;refine Tb.inB_iff ((Tb.ok_parts ht).2 _ ?_).2.1
 split
 ·omega
 ·split <;> omega
theorem eOwn_at {B c:Nat} {w:World} {a:Option Addr} {es:List Ed} (h:EOwn B w a c es) {k:Nat} (hk:k<es.length) :
  ∃ b,a=some ⟨b,0,none⟩/\b<w.heap.size/\B<=b/\w.cell? ⟨b,k*5,none⟩=some (.int .i64 es[k].f)/\w.cell? ⟨b,k*5+1,none⟩=some (.int .i64 es[k].t)/\w.cell? ⟨b,k*5+2,none⟩=some (.int .i64 es[k].l)/\w.cell? ⟨b,k*5+3,none⟩=some (.int .i64 es[k].d)/\w.cell? ⟨b,k*5+4,none⟩=some (.int .i8 es[k].y):=by
 have h0:w.ownsRow B 122 5 (.slice a es.length c) es.length (ecells es):=h;rcases h0.2 with ⟨-,e⟩|⟨b,cap,cur,e,g1,-⟩
 ·omega
 ·injection e with e1 e2 e3
  subst e1;have hb:=(h0.lt b rfl).2;have k5:∀ j,j<5->w.cell? ⟨b,k*5+j,none⟩=es[k].cells[j]?:=fun j hj=>by
   rw [h0.cellAt _ (by
    have:k*5+j<(k+1)*5:=by omega
    exact Nat.lt_of_lt_of_le this (Nat.mul_le_mul_right 5 hk)),ecells_at es k hk j hj]
  exact ⟨b,rfl,hb,g1,k5 0 (by omega),k5 1 (by omega),k5 2 (by omega),k5 3 (by omega),k5 4 (by omega)⟩
theorem EOwn.up {B c:Nat} {w w':World} {a:Option Addr} {es:List Ed} (h:EOwn B w a c es) (hb:Below w.heap.size w w'):EOwn B w' a c es:=row_up h hb
def wl:List O:=[⟨1,1,0,0,0⟩,⟨12,2,1,1,0⟩,⟨2,1,2,1,0⟩,⟨17,0,1,0,0⟩]
theorem latency_any (d:Int) (t:Tab) (w:World):Calls Tryz.prog 209 #[.int .i8 d,t.val] w fun e w'=>e=.returned (.int .i64 (latV t d))/\Below w.heap.size w w':=by
 unfold Tab.val latV
 by_cases h1:15<=d
 ·rw [if_pos h1];go_enter Tryz.func209,Tryz.ntmps209;go_wp2
  go_ret
  exact ⟨rfl,by go_grown⟩
 ·rw [if_neg h1]
  by_cases h2:12<=d
  ·rw [if_pos h2];go_enter Tryz.func209,Tryz.ntmps209;go_wp2
   go_ret
   exact ⟨rfl,by go_grown⟩
  ·rw [if_neg h2];go_enter Tryz.func209,Tryz.ntmps209;go_wp2
   go_ret
   exact ⟨rfl,by go_grown⟩
structure Ir (W:World) (b n:Nat) (h:Nat->Int):Prop where
 c:∀ k,k<n->W.cell? ⟨b,k,none⟩=some (.int .i64 (h k))
 f:∀ k,W.frozen? ⟨b,k,none⟩=false
 lt:b<W.heap.size
theorem Ir.fr {X:Nat->Prop} {W W':World} {b n:Nat} {h:Nat->Int} (a:Ir W b n h) (g:Fr X W W') (hx:¬ X b):Ir W' b n h:=
 ⟨fun k hk=>(g.cell a.lt hx k).trans (a.c k hk),fun k=>(g.frozen a.lt hx k).trans (a.f k),Nat.lt_of_lt_of_le a.lt g.size⟩
theorem Ir.up {W W':World} {b n:Nat} {h:Nat->Int} (a:Ir W b n h) (g:Below W.heap.size W W'):Ir W' b n h:=a.fr (Fr.of (X:=Non) g) fun h=>h
theorem Ir.set {W:World} {b n:Nat} {h:Nat->Int} (a:Ir W b n h) {k:Nat} (hk:k<n) (v:Int):Ir (W.setCell ⟨b,k,none⟩ (.int .i64 v)) b n (updI h k v):=by
 refine ⟨fun j hj=>?_,fun j=>by rw [World.frozen?_setCell];exact a.f j,by simpa using a.lt⟩
 by_cases e:j=k
 ·subst e;rw [updI_same,World.cell?_setCell_same _ _ _ (a.c j hj)]
 ·rw [updI_other _ _ e,World.cell?_setCell_other]
  ·exact a.c j hj
  ·intro h';injection h' with _ h2;exact e h2.symm
theorem Ir.new (W:World) (n:Nat) (t:TypeId):Ir (W.alloc (.cells (madeCells #[.int .i64 0] n) t)) W.heap.size n (fun _=>0):=by
 have h:=At.new W (madeCells #[.int .i64 0] n) t;refine ⟨fun k hk=>h.c k _ ?_,h.f,h.lt⟩;rw [<- Array.getElem?_toList,toList_madeCells_one];simp [hk]
theorem Ir.same {W:World} {b n:Nat} {h g:Nat->Int} (a:Ir W b n h) (e:∀ k,k<n->h k=g k):Ir W b n g:=⟨fun k hk=>by rw [<- e k hk];exact a.c k hk,a.f,a.lt⟩
structure Hs (w W:World) (t:Tab) (hb n:Nat) (h:Nat->Int) (a:Option Addr) (c:Nat) (es:List Ed):Prop where
 t:TabAt W w.heap.size t
 ir:Ir W hb n h
 es:EOwn (w.heap.size+1) W a c es
 ne:∀ x,a=some x->¬ x.block=hb
 up:Below w.heap.size w W
 hw:w.heap.size<hb
theorem Hs.next {w W W':World} {t:Tab} {hb n:Nat} {h:Nat->Int} {a:Option Addr} {c:Nat} {es:List Ed} (s:Hs w W t hb n h a c es) (g:Below W.heap.size W W'):Hs w W' t hb n h a c es:=
 ⟨s.t.below g s.t.lt,s.ir.up g,s.es.up g,s.ne,s.up.trans (g.mono s.up.size),s.hw⟩
theorem Hs.set {w W:World} {t:Tab} {hb n:Nat} {h:Nat->Int} {a:Option Addr} {c:Nat} {es:List Ed} (s:Hs w W t hb n h a c es) {k:Nat} (hk:k<n) (v:Int):Hs w (W.setCell ⟨hb,k,none⟩ (.int .i64 v)) t hb n (updI h k v) a c es:=by
 have hw:=s.hw;refine ⟨s.t.below ((Below.refl hb W).setCell (Nat.le_refl _) _) hw,s.ir.set hk v,row_fr s.es ((Fr.refl (One hb) W).setCell (.inr rfl) _ _) fun k hk e=>?_,s.ne,s.up.setCell (by show w.heap.size<=hb;omega) _,hw⟩;have e:k=hb:=e
 cases a with
 | none=>simp [Value.ownBlock] at hk
 | some x=>
  simp only [Value.ownBlock,Option.some.injEq] at hk;exact s.ne x rfl (by rw [hk];exact e)
theorem info3:(Tryz.prog.info? 3).map (fun i=>(i.zero,i.size,i.bytes))=some (some (.int .i64 0),1,8):=by kernel_rfl
theorem hs_start {w w1:World} {t:Tab} {a:Option Addr} {c n:Nat} {es:List Ed} (h1:Tc w w1 t) (h2:EOwn (w.heap.size+1) w1 a c es) (h3:w.heap.size<w1.heap.size):Hs w (w1.alloc (.cells (madeCells #[.int .i64 0] n) 3)) t w1.heap.size n (fun _=>0) a c es:=by
 have g:Below w1.heap.size w1 (w1.alloc (.cells (madeCells #[.int .i64 0] n) 3)):=(Below.refl _ _).alloc (Nat.le_refl _) _;refine ⟨h1.t.below g h1.t.lt,Ir.new w1 n 3,h2.up g,fun x e=>?_,h1.up.trans (g.mono h1.up.size),h3⟩;subst e;have h2':w1.ownsRow (w.heap.size+1) 122 5 (.slice (some x) es.length c) es.length (ecells es):=h2
 have:=(h2'.lt x.block rfl).2
 omega
def latTo (t:Tab) (xs:List O) (k:Nat):Nat->Int:=fun i=>if i<k then latN t xs i else 0
theorem latTo_next (t:Tab) {xs:List O} {k:Nat} (h:k<xs.length):updI (latTo t xs k) k (latV t xs[k].op)=latTo t xs (k+1):=by
 funext i
 unfold updI latTo
 by_cases e:i=k
 ·subst e;rw [if_pos rfl,if_pos (by omega),latN_at t h]
 ·rw [if_neg e]
  by_cases e2:i<k
  ·rw [if_pos e2,if_pos (by omega)]
  ·rw [if_neg e2,if_neg (by omega)]
theorem hts_same {n:Nat} {l m:Nat->Int} : ∀ (es:List Ed),EOk n es->(∀ i,i<n->l i=m i)->∀ i,i<n->hts l es i=hts m es i
 | [],_,h,i,hi=>h i hi
 | e::es,ho,h,i,hi=>by
  have ih:=hts_same es ho.tail h;have h1:=ho.ft e (List.mem_cons_self ..);have h2:=ho.tn e (List.mem_cons_self ..);have h3:=ho.f0 e (List.mem_cons_self ..);show raise (hts l es) e i=raise (hts m es) e i;unfold raise updI;rw [ih e.f.toNat (by omega),ih e.t.toNat (by omega),ih i hi]
def HtOut (w:World) (n:Nat) (H:Nat->Int) (e:Ending) (w':World):Prop:=∃ hb,e=.returned (.tuple #[.slice (some ⟨hb,0,none⟩) n n,.int .i64 0])/\Ir w' hb n H/\w.heap.size<=hb/\Below w.heap.size w w'
theorem hof_no (ao:Option Addr) (cap:Nat) (xs:List O) (t:Tab) (w:World) (h:OpsAt w ao xs) (hcap:xs.length<=cap) (hG:Bnds w) (he:¬ lisE t xs=0) :
  Calls Tryz.prog 152 #[.slice ao xs.length cap,t.val] w fun e w'=>e=.returned (.tuple #[.slice none 0 0,.int .i64 (lisE t xs)])/\Below w.heap.size w w':=by
 have HOf:Hid (∀ W,Below w.heap.size w W->Calls Tryz.prog 156 #[.slice ao xs.length cap,t.val] W (EdOut W (lisE t xs) (erE t xs (ofE t xs)))):=fun W hb=>of_any ao cap xs t W (h.below hb) hcap (hG.below hb hG.big);generalize erE t xs (ofE t xs)=es at *;generalize lisE t xs=er at *;clear h hcap hG;unfold Tab.val at *;go_enter Tryz.func152,Tryz.ntmps152;go_wp2_with (first
  | (go_at_call 156;refine Calls.mono (HOf.out _ (by go_grown)) ?_;rintro e w1 ⟨a1,c1,rfl,o1,b1⟩;have HT:Hid (Tc w w1 t):=Tc.start w t rfl b1;clear o1 b1 HOf))
 go_ret2
 exact ⟨rfl,HT.out.up⟩
theorem hof_ok (ao:Option Addr) (cap:Nat) (xs:List O) (t:Tab) (w:World) (h:OpsAt w ao xs) (hcap:xs.length<=cap) (hG:Bnds w) (he:lisE t xs=0) :
  Calls Tryz.prog 152 #[.slice ao xs.length cap,t.val] w (HtOut w xs.length (hts (latN t xs) (ofE t xs))):=by
 have HOf:Hid (∀ W,Below w.heap.size w W->Calls Tryz.prog 156 #[.slice ao xs.length cap,t.val] W (EdOut W 0 (ofE t xs))):=fun W hb=>by
  have:=of_any ao cap xs t W (h.below hb) hcap (hG.below hb hG.big)
  unfold erE at this;rw [if_pos he,he] at this;exact this
 obtain ⟨ht,hn,hok⟩:=lis_all he;have HEO:Hid (EOk xs.length (ofE t xs)):=ofE_ok t xs (pts_ok t xs (fun o ho=>⟨h.ok o ho,okL_okO (hok o ho)⟩) ht);have HLn:Hid ((ofE t xs).length<=100000000):=Nat.le_trans (withinE_len _ _ _ hn) (by omega);have HLt:Hid (∀ d W,Calls Tryz.prog 209 #[.int .i8 d,t.val] W fun e w'=>e=.returned (.int .i64 (latV t d))/\Below W.heap.size W w'):=fun d W=>latency_any d t W;have HLi:Hid (∀ i,i<xs.length->1<=latN t xs i/\latN t xs i<=8):=fun i hi=>by rw [latN_at t hi];exact latV_in ht _
 have HO:Hid (OpsAt w ao xs):=h;have hn':(xs.length:Int)<=1024:=by omega
 clear h hcap hG hok he ht;obtain ⟨es,hes⟩:∃ es,ofE t xs=es:=⟨_,rfl⟩;rw [hes] at HOf HEO HLn ⊢;clear hes;obtain ⟨N,hN⟩:∃ N,es.length=N:=⟨_,rfl⟩;have HNl:Hid (es.length=N):=hN;have hNb:(N:Int)<=100000000:=by have:=HLn.out;omega
 clear HLn hN;have HOf2:Hid (∀ W,Below w.heap.size w W->Calls Tryz.prog 156 #[.slice ao xs.length cap,t.val] W fun e w'=>∃ a c,e=.returned (.tuple #[.slice a N c,.int .i64 0])/\EOwn W.heap.size w' a c es/\Below W.heap.size W w'):=fun W hb=>by
  have:=HOf.out W hb
  rw [<- HNl.out];exact this
 clear HOf;obtain ⟨i0,hi,hi2⟩:=Option.map_eq_some_iff.1 info3;simp only [Prod.mk.injEq] at hi2;obtain ⟨hz0,hz1,hz2⟩:=hi2;have HI:Hid (Tryz.prog.info? 3=some i0/\i0.zero=some (.int .i64 0)/\i0.size=1/\i0.bytes=8):=⟨hi,hz0,hz1,hz2⟩;clear hi hz0 hz1 hz2;unfold Tab.val at *;go_enter Tryz.func152,Tryz.ntmps152;go_upto_region 5 with (first
  | (go_at_call 156;refine Calls.mono (HOf2.out _ (by go_grown)) ?_;rintro e w1 ⟨a1,c1,rfl,o1,b1⟩;have HT:Hid (Tc w w1 t/\EOwn (w.heap.size+1) w1 a1 c1 es/\w.heap.size<w1.heap.size):=⟨Tc.start w t rfl b1,(by have:=o1;simpa using this),(by have:=b1.size;simp at this;omega)⟩;clear o1 b1 HOf2)
  | (at_make;refine wpList_make_row _ rfl _ _ 48 rfl 3 i0 (.int .i64 0) Tryz.underlying48 HI.out.1 HI.out.2.1 HI.out.2.2.1 rfl .i64 .i64 xs.length rfl rfl (by rw [HI.out.2.2.2];omega) (by omega) ?_))
 have HS:Hid (Hs w (w1.alloc (.cells (madeCells #[.int .i64 0] xs.length) 3)) t w1.heap.size xs.length (fun _=>0) a1 c1 es):=hs_start HT.out.1 HT.out.2.1 HT.out.2.2;generalize w1.alloc (.cells (madeCells #[.int .i64 0] xs.length) 3)=W0 at *;generalize w1.heap.size=hb at *;clear HT;go_wp2_with fail
 go_loopw [27] (fun v wr=>∃ k:Nat,k<=xs.length/\v=.int .i64 k/\Hs w wr t hb xs.length (latTo t xs k) a1 c1 es) (fun v _=>xs.length-(intOf v).toNat)
 case atStart=>exact ⟨0,by omega,rfl,HS.out⟩
 case round=>
  rename World=>wr;obtain ⟨k,hk,rfl,hs⟩:=hrel;have HQ:Hid (Hs w wr t hb xs.length (latTo t xs k) a1 c1 es):=hs;clear hs HS
  by_cases hlt:k<xs.length
  ·have k0:(0:Int)<=(k:Int):=by omega
   have k1:(k:Int)<(xs.length:Int):=by omega
   obtain ⟨b,f,rfl,hz2,hx⟩:=(HO.out.below HQ.out.up).is (by omega);obtain ⟨q0,q1,q2,q3,q4⟩:=hx k hlt;have HNx:Hid (updI (latTo t xs k) k (latV t xs[k].op)=latTo t xs (k+1)):=latTo_next t hlt;have HQ2:Hid (Hs w (wr.alloc (.cells #[.int .i8 xs[k].op,.int .u8 xs[k].d,.int .u8 xs[k].a,.int .u8 xs[k].b,.int .i64 xs[k].im] 60)) t hb xs.length (latTo t xs k) a1 c1 es/\At (wr.alloc (.cells #[.int .i8 xs[k].op,.int .u8 xs[k].d,.int .u8 xs[k].a,.int .u8 xs[k].b,.int .i64 xs[k].im] 60)) wr.heap.size xs[k].cells/\hb<wr.heap.size):=⟨HQ.out.next ((Below.refl _ _).alloc (Nat.le_refl _) _),At.new _ _ _,HQ.out.ir.lt⟩;clear hx;generalize xs[k]=o at *;go_upto_region 8 with fail
   generalize (wr.alloc (.cells #[.int .i8 o.op,.int .u8 o.d,.int .u8 o.a,.int .u8 o.b,.int .i64 o.im] 60))=X at *;have hbn:¬ wr.heap.size=hb:=by have:=HQ2.out.2.2;omega
   generalize wr.heap.size=ob at *;clear HQ q0 q1 q2 q3 q4 hz2;have s2:=HQ2.out.2.1;have o0:=s2.c 0 _ rfl;have ol:=s2.lt;have k2:=HQ2.out.1.t;have tu0:=k2.cu 0 (by decide);have tu1:=k2.cu 1 (by decide);have tu2:=k2.cu 2 (by decide);have tu3:=k2.cu 3 (by decide);have tl0:=k2.cl 0 (by decide);have tl1:=k2.cl 1 (by decide);have tl2:=k2.cl 2 (by decide);have tl3:=k2.cl 3 (by decide);have tb0:=k2.cb 0 (by decide);have tb1:=k2.cb 1 (by decide);have tb2:=k2.cb 2 (by decide);have tb3:=k2.cb 3 (by decide);have td:=k2.cd;have tz:=k2.lt;clear k2 s2;have HL1:Hid (∀ W,Calls Tryz.prog 209 #[.int .i8 o.op,.agg #[.int .i64 (t.u 0),.int .i64 (t.u 1),.int .i64 (t.u 2),.int .i64 (t.u 3),.int .i64 (t.l 0),.int .i64 (t.l 1),.int .i64 (t.l 2),.int .i64 (t.l 3),.int .i64 (t.b 0),.int .i64 (t.b 1),.int .i64 (t.b 2),.int .i64 (t.b 3),.int .i64 t.d]] W fun e w'=>e=.returned (.int .i64 (latV t o.op))/\Below W.heap.size W w'):=fun W=>HLt.out _ W;generalize latV t o.op=lv at *;go_wp2_with (first
    | (go_at_call 209;refine Calls.mono (HL1.out _) ?_;rintro e w2 ⟨rfl,hb2⟩;have HQ3:Hid (Hs w w2 t hb xs.length (latTo t xs k) a1 c1 es):=HQ2.out.1.next hb2;clear hb2 HL1 HQ2 o0 ol tu0 tu1 tu2 tu3 tl0 tl1 tl2 tl3 tb0 tb1 tb2 tb3 td tz;have hc:=HQ3.out.ir.c k hlt;have hf:=HQ3.out.ir.f k;have hl:=HQ3.out.ir.lt))
   go_roundw
   case rel=>exact ⟨k+1,by omega,by go_num,by rw [<- HNx.out];exact HQ3.out.set hlt lv⟩
   case measure=>simp [intOf];omega
  ·obtain rfl:k=xs.length:=by omega
   have k1:¬ (xs.length:Int)<(xs.length:Int):=by omega
   have HLs:Hid (∀ i,i<xs.length->latTo t xs xs.length i=latN t xs i):=fun i hi=>by unfold latTo;rw [if_pos hi]
   go_upto_region 11 with fail
   go_loopw [11] (fun v wr=>∃ k:Nat,k<=N/\v=.int .i64 ((k:Int)-1)/\Hs w wr t hb xs.length (hts (latTo t xs xs.length) (es.drop k)) a1 c1 es) (fun v _=>((intOf v)+1).toNat)
   case atStart=>exact ⟨N,Nat.le_refl _,by first|rfl|go_num,by rw [List.drop_of_length_le (by rw [HNl.out];omega)];exact HQ.out⟩
   case round=>
    rename World=>wz;obtain ⟨k,hk,rfl,hs⟩:=hrel;have HZ:Hid (Hs w wz t hb xs.length (hts (latTo t xs xs.length) (es.drop k)) a1 c1 es):=hs;clear hs HQ
    by_cases hk0:k=0
    ·subst hk0;have k1:¬ (0:Int)<=((0:Nat):Int)-1:=by omega
     go_wp2_with fail
     go_ret2
     refine ⟨hb,rfl,HZ.out.ir.same fun i hi=>?_,Nat.le_of_lt HZ.out.hw,HZ.out.up⟩;rw [List.drop_zero];exact hts_same es HEO.out HLs.out i hi
    ·obtain ⟨j,rfl⟩:∃ j,k=j+1:=⟨k-1,by omega⟩;have ej:((j+1:Nat):Int)-1=(j:Int):=by omega
     rw [ej];have j0:(0:Int)<=(j:Int):=by omega
     have j1:(j:Int)<(N:Int):=by omega
     have hje:j<es.length:=by rw [HNl.out];omega
     obtain ⟨eb,rfl,l1,lb1,f0,f1,f2,f3,f4⟩:=eOwn_at HZ.out.es hje;have HNx:Hid (hts (latTo t xs xs.length) (es.drop j)=raise (hts (latTo t xs xs.length) (es.drop (j+1))) es[j]):=hts_drop _ _ _ hje;have hm:=List.getElem_mem hje;have g1:=HEO.out.f0 _ hm;have g2:=HEO.out.ft _ hm;have g3:=HEO.out.tn _ hm;obtain ⟨g4,g5⟩:=HEO.out.l0 _ hm;have HLe:Hid (∀ i,i<xs.length->1<=hts (latTo t xs xs.length) (es.drop (j+1)) i/\hts (latTo t xs xs.length) (es.drop (j+1)) i<=8*(xs.length-i:Nat)):=(hts_is (HEO.out.drop (j+1))).le (HEO.out.drop (j+1)) fun i hi=>by rw [HLs.out i hi];exact HLi.out i hi
     have HZ2:Hid (Hs w (wz.alloc (.cells #[.int .i64 es[j].f,.int .i64 es[j].t,.int .i64 es[j].l,.int .i64 es[j].d,.int .i8 es[j].y] 122)) t hb xs.length (hts (latTo t xs xs.length) (es.drop (j+1))) (some ⟨eb,0,none⟩) c1 es/\At (wz.alloc (.cells #[.int .i64 es[j].f,.int .i64 es[j].t,.int .i64 es[j].l,.int .i64 es[j].d,.int .i8 es[j].y] 122)) wz.heap.size #[.int .i64 es[j].f,.int .i64 es[j].t,.int .i64 es[j].l,.int .i64 es[j].d,.int .i8 es[j].y]/\hb<wz.heap.size):=⟨HZ.out.next ((Below.refl _ _).alloc (Nat.le_refl _) _),At.new _ _ _,HZ.out.ir.lt⟩;clear hm ej;generalize es[j]=x at *;obtain ⟨xf,xt,xl,xd,xy⟩:=x;obtain ⟨fi,rfl⟩:∃ fi:Nat,xf=fi:=⟨xf.toNat,by have g1:0<=xf:=g1;omega⟩;obtain ⟨ti,rfl⟩:∃ ti:Nat,xt=ti:=⟨xt.toNat,by have g1:0<=(fi:Int):=g1;have g2:(fi:Int)<xt:=g2;omega⟩;have g2:(fi:Int)<(ti:Int):=g2;have g3:(ti:Int)<(xs.length:Int):=g3;have g4:0<=xl:=g4;have g5:xl<=8:=g5;have g6:(0:Int)<=(fi:Int):=by omega
     have g7:(fi:Int)<(xs.length:Int):=by omega
     have g8:(0:Int)<=(ti:Int):=by omega
     obtain ⟨h1,h2⟩:=HLe.out fi (by omega);obtain ⟨h3,h4⟩:=HLe.out ti (by omega);clear HLe g1;have HNx2:Hid (raise (hts (latTo t xs xs.length) (es.drop (j+1))) ⟨(fi:Int),(ti:Int),xl,xd,xy⟩=updI (hts (latTo t xs xs.length) (es.drop (j+1))) fi (max (hts (latTo t xs xs.length) (es.drop (j+1)) fi) (xl+hts (latTo t xs xs.length) (es.drop (j+1)) ti))):=rfl;generalize hts (latTo t xs xs.length) (es.drop (j+1))=G at *;go_upto_region 14 with fail
     generalize (wz.alloc (.cells #[.int .i64 (fi:Int),.int .i64 (ti:Int),.int .i64 xl,.int .i64 xd,.int .i8 xy] 122))=X at *;have hbn:¬ wz.heap.size=hb:=by have:=HZ2.out.2.2;omega
     have hbn':¬ hb=wz.heap.size:=fun e=>hbn e.symm;generalize wz.heap.size=ob at *;clear HZ f0 f1 f2 f3 f4 l1 lb1;have s2:=HZ2.out.2.1;have o0:=s2.c 0 _ rfl;have o1:=s2.c 1 _ rfl;have o2:=s2.c 2 _ rfl;have ol:=s2.lt;have cf:=HZ2.out.1.ir.c fi (by omega);have ct:=HZ2.out.1.ir.c ti (by omega);have zf:=HZ2.out.1.ir.f fi;have hl:=HZ2.out.1.ir.lt;clear s2;have hG1:G fi<=8192:=by omega
     have hG2:G ti<=8192:=by omega
     have HSet:Hid (∀ v,Hs w (X.setCell ⟨hb,fi,none⟩ (.int .i64 v)).drew t hb xs.length (updI G fi v) (some ⟨eb,0,none⟩) c1 es):=fun v=>(HZ2.out.1.set (by omega) v).next ((Below.refl _ _).drew)
     by_cases hmx:G fi<xl+G ti
     ·have HV:Hid (max (G fi) (xl+G ti)=xl+G ti):=by show max (G fi) (xl+G ti)=xl+G ti;omega
      generalize hgf:G fi=gf at *;generalize hgt:G ti=gt at *
      go_region
      all_goals
       go_wp2_with fail
       go_roundw
       case rel=>exact ⟨j,by omega,by first|rfl|go_num,by rw [HNx.out,HNx2.out,HV.out];exact HSet.out _⟩
       case measure=>first|(simp [intOf];done)|(simp [intOf];omega)
     ·have HV:Hid (max (G fi) (xl+G ti)=G fi):=by show max (G fi) (xl+G ti)=G fi;omega
      generalize hgf:G fi=gf at *;generalize hgt:G ti=gt at *
      go_region
      all_goals
       go_wp2_with fail
       go_roundw
       case rel=>exact ⟨j,by omega,by first|rfl|go_num,by rw [HNx.out,HNx2.out,HV.out];exact HSet.out _⟩
       case measure=>first|(simp [intOf];done)|(simp [intOf];omega)
end Go.Proofs.YtpdaknbmcpmhjaaGreatDoor.Dp
