/- Parts Hm El. -/
import Derived.Test.YtcmlnemokckbdaaGreatDoorN12
set_option maxRecDepth 20000
namespace Go.Proofs.YtcmlnemokckbdaaGreatDoor.Dp
open Go.ChangeShapes Go.WideShapes Go.ChangeAt Go.RowKit
open YtcmlnemokckbdaaGreatDoor.Op YtcmlnemokckbdaaGreatDoor.So
open YtcmlnemokckbdaaGreatDoor.Tb (Tab TabAt Bnds)
def updI (L:Nat->Int) (k:Nat) (v:Int):Nat->Int:=fun j=>if j=k then v else L j
theorem updI_same (L:Nat->Int) (k:Nat) (v:Int):updI L k v k=v:=if_pos rfl
theorem updI_other (L:Nat->Int) {k j:Nat} (v:Int) (h:¬ j=k):updI L k v j=L j:=if_neg h
def raise (h:Nat->Int) (e:Ed):Nat->Int:=updI h e.f.toNat (max (h e.f.toNat) (e.l+h e.t.toNat))
def hts (lat : Nat->Int) (es:List Ed):Nat->Int:=es.foldr (fun e h=>raise h e) lat
theorem hts_drop (lat : Nat->Int) (es:List Ed) (k:Nat) (h:k<es.length):hts lat (es.drop k)=raise (hts lat (es.drop (k+1))) es[k]:=by
 rw [List.drop_eq_getElem_cons h];rfl
structure EOk (n:Nat) (es:List Ed):Prop where
 f0:∀ e∈es,0<=e.f
 ft:∀ e∈es,e.f<e.t
 tn:∀ e∈es,e.t<n
 l0:∀ e∈es,0<=e.l/\e.l<=8
 up:es.Pairwise fun a b=>a.t<=b.t
theorem EOk.tail {n:Nat} {e:Ed} {es:List Ed} (h:EOk n (e::es)):EOk n es:=
 ⟨fun x hx=>h.f0 x (List.mem_cons_of_mem _ hx),fun x hx=>h.ft x (List.mem_cons_of_mem _ hx),fun x hx=>h.tn x (List.mem_cons_of_mem _ hx),fun x hx=>h.l0 x (List.mem_cons_of_mem _ hx),(List.pairwise_cons.1 h.up).2⟩
theorem EOk.drop {n:Nat} {es:List Ed} (h:EOk n es) (k:Nat):EOk n (es.drop k):=
 ⟨fun x hx=>h.f0 x (List.mem_of_mem_drop hx),fun x hx=>h.ft x (List.mem_of_mem_drop hx),fun x hx=>h.tn x (List.mem_of_mem_drop hx),fun x hx=>h.l0 x (List.mem_of_mem_drop hx),h.up.sublist (List.drop_sublist k es)⟩
structure Hts (n:Nat) (lat : Nat->Int) (es:List Ed) (H:Nat->Int):Prop where
 lo:∀ i,i<n->lat i<=H i
 ed:∀ e∈es,e.l+H e.t.toNat<=H e.f.toNat
 ex:∀ i,i<n->H i=lat i\/∃ e∈es,e.f=(i:Int)/\H i=e.l+H e.t.toNat
theorem hts_is {n:Nat} {lat : Nat->Int} : ∀ {es:List Ed},EOk n es->Hts n lat es (hts lat es)
 | [],_=>⟨fun _ _=>Int.le_refl _,fun e he=>(by cases he),fun _ _=>.inl rfl⟩
 | e::es,h=>by
  have ih:=hts_is (lat:=lat) h.tail;have f0:=h.f0 e (List.mem_cons_self ..);have ft:=h.ft e (List.mem_cons_self ..);have hu:=(List.pairwise_cons.1 h.up).1;have et:hts lat (e::es)=raise (hts lat es) e:=rfl;rw [et];generalize hts lat es=H' at *;have key:∀ x∈e::es,raise H' e x.t.toNat = H' x.t.toNat:=fun x hx=>by
   refine updI_other _ _ ?_;have hx0:e.f<x.t:=by
    rcases List.mem_cons.1 hx with rfl|hx
    ·exact ft
    ·have:=hu x hx;omega
   omega
  have ge:∀ i,H' i<=raise H' e i:=fun i=>by
   unfold raise updI
   split
   ·rename_i hi;subst hi;omega
   ·omega
  refine ⟨fun i hi=>Int.le_trans (ih.lo i hi) (ge i),fun x hx=>?_,fun i hi=>?_⟩
  ·rw [key x hx];rcases List.mem_cons.1 hx with rfl|hx'
   ·unfold raise;rw [updI_same];omega
   ·exact Int.le_trans (ih.ed x hx') (ge _)
  ·by_cases hi2:i=e.f.toNat
   ·subst hi2;have e1:raise H' e e.f.toNat = max (H' e.f.toNat) (e.l+H' e.t.toNat):=updI_same _ _ _;rw [e1];rcases Int.le_total (H' e.f.toNat) (e.l+H' e.t.toNat) with hc|hc
    ·right
     refine ⟨e,List.mem_cons_self ..,by omega,?_⟩;rw [key e (List.mem_cons_self ..)];omega
    ·rw [Int.max_eq_left hc];rcases ih.ex _ hi with h1|⟨x,hx,h1,h2⟩
     ·exact .inl h1
     ·exact .inr ⟨x,List.mem_cons_of_mem _ hx,h1,by rw [key x (List.mem_cons_of_mem _ hx)];exact h2⟩
   ·have e1:raise H' e i=H' i:=updI_other _ _ hi2;rw [e1];rcases ih.ex _ hi with h1|⟨x,hx,h1,h2⟩
    ·exact .inl h1
    ·exact .inr ⟨x,List.mem_cons_of_mem _ hx,h1,by rw [key x (List.mem_cons_of_mem _ hx)];exact h2⟩
theorem Hts.le {n:Nat} {lat : Nat->Int} {es:List Ed} {H:Nat->Int} (h:Hts n lat es H) (ho:EOk n es) (hl:∀ i,i<n->1<=lat i/\lat i<=8):∀ i,i<n->1<=H i/\H i<=8*(n-i:Nat):=by
 have main:∀ d i,i<n->n-i<=d->H i<=8*(n-i:Nat):=by
  intro d
  induction d with
  | zero=>intro i hi hd;omega
  | succ d ih=>
   intro i hi hd;rcases h.ex i hi with h1|⟨e,he,hf,h2⟩
   ·have:=hl i hi;omega
   ·have h3:=ho.ft e he;have h4:=ho.tn e he;have h5:=ho.l0 e he;have h6:=ih e.t.toNat (by omega) (by omega);omega
 exact fun i hi=>⟨Int.le_trans (hl i hi).1 (h.lo i hi),main _ i hi (Nat.le_refl _)⟩
def Ahd (H:Nat->Int) (i j:Int):Prop:=H j.toNat<H i.toNat\/H i.toNat = H j.toNat/\i<j
theorem pw_uniq {R:Int->Int->Prop} (ha:∀ x y,R x y->¬ R y x):∀ (l m:List Int),l.Pairwise R->m.Pairwise R->(∀ x,x∈l↔x∈m)->l=m
 | [],[],_,_,_=>rfl
 | [],b::m,_,_,h=>by have:=(h b).2 (List.mem_cons_self ..);cases this
 | a::l,[],_,_,h=>by have:=(h a).1 (List.mem_cons_self ..);cases this
 | a::l,b::m,h1,h2,h=>by
  have p1:=List.pairwise_cons.1 h1;have p2:=List.pairwise_cons.1 h2;have e:a=b:=by
   rcases List.mem_cons.1 ((h a).1 (List.mem_cons_self ..)) with e|e
   ·exact e
   ·rcases List.mem_cons.1 ((h b).2 (List.mem_cons_self ..)) with e' | e'
    ·exact e'.symm
    ·exact absurd (p1.1 b e') (ha _ _ (p2.1 a e))
  subst e;rw [pw_uniq ha l m p1.2 p2.2 fun x=>?_];constructor
  ·intro hx;rcases List.mem_cons.1 ((h x).1 (List.mem_cons_of_mem _ hx)) with e|e
   ·subst e;exact absurd (p1.1 x hx) (ha _ _ (p1.1 x hx))
   ·exact e
  ·intro hx;rcases List.mem_cons.1 ((h x).2 (List.mem_cons_of_mem _ hx)) with e|e
   ·subst e;exact absurd (p2.1 x hx) (ha _ _ (p2.1 x hx))
   ·exact e
theorem ahd_asym (H:Nat->Int) (x y:Int) (h:Ahd H x y):¬ Ahd H y x:=by unfold Ahd at *;omega
def lev (H:Nat->Int) (x:Int):Nat->List Int
 | 0=>[]
 | k+1=>lev H x k++(if H k=x then [(k:Int)] else [])
theorem lev_mem (H:Nat->Int) (x:Int):∀ (n:Nat) (i:Int),i∈lev H x n↔∃ k:Nat,k<n/\i=k/\H k=x
 | 0,i=>by simp [lev]
 | n+1,i=>by
  unfold lev;rw [List.mem_append,lev_mem H x n i];constructor
  ·rintro (⟨k,h1,h2⟩|h)
   ·exact ⟨k,by omega,h2⟩
   ·split at h
    ·exact ⟨n,by omega,by simpa using h,by assumption⟩
    ·cases h
  ·rintro ⟨k,h1,h2,h3⟩
   by_cases e:k=n
   ·subst e;right;rw [if_pos h3];simpa using h2
   ·exact .inl ⟨k,by omega,h2,h3⟩
theorem lev_pw (H:Nat->Int) (x:Int):∀ n,(lev H x n).Pairwise (Ahd H)
 | 0=>List.Pairwise.nil
 | n+1=>by
  unfold lev;refine List.pairwise_append.2 ⟨lev_pw H x n,by split <;> simp,fun a ha b hb=>?_⟩;obtain ⟨k,h1,rfl,h2⟩:=(lev_mem H x n a).1 ha
  split at hb
  ·rename_i hx;obtain rfl:b=n:=by simpa using hb
   right
   refine ⟨?_,by omega⟩;show H (k:Int).toNat = H (n:Int).toNat;simp only [Int.toNat_natCast];omega
  ·cases hb
def dOrd (H:Nat->Int) (n:Nat) (most:Int):Nat->List Int
 | 0=>[]
 | k+1=>dOrd H n most k++lev H (most-k) n
theorem dOrd_mem (H:Nat->Int) (n:Nat) (most:Int):∀ (k:Nat) (i:Int),i∈dOrd H n most k↔∃ j:Nat,j<n/\i=j/\most-k<H j/\H j<=most
 | 0,i=>by
  constructor
  ·intro h;cases h
  ·rintro ⟨j,h1,h2,h3,h4⟩;omega
 | k+1,i=>by
  unfold dOrd;rw [List.mem_append,dOrd_mem H n most k i,lev_mem];constructor
  ·rintro (⟨j,h1,h2,h3,h4⟩|⟨j,h1,h2,h3⟩)
   ·exact ⟨j,h1,h2,by omega,h4⟩
   ·exact ⟨j,h1,h2,by omega,by omega⟩
  ·rintro ⟨j,h1,h2,h3,h4⟩
   by_cases e:H j=most-k
   ·exact .inr ⟨j,h1,h2,e⟩
   ·exact .inl ⟨j,h1,h2,by omega,h4⟩
theorem dOrd_pw (H:Nat->Int) (n:Nat) (most:Int):∀ k,(dOrd H n most k).Pairwise (Ahd H)
 | 0=>List.Pairwise.nil
 | k+1=>by
  unfold dOrd;refine List.pairwise_append.2 ⟨dOrd_pw H n most k,lev_pw H _ n,fun a ha b hb=>?_⟩;obtain ⟨i,-,rfl,h1,-⟩:=(dOrd_mem H n most k a).1 ha;obtain ⟨j,-,rfl,h2⟩:=(lev_mem H _ n b).1 hb
  left
  show H (j:Int).toNat<H (i:Int).toNat;simp only [Int.toNat_natCast];omega
theorem edL_mem {e x:Ed} {rs:List Rw} (h:x∈edL e rs):x.f=e.f/\x.t=e.t/\∃ r∈rs,x.l=r.l:=by
 unfold edL at h;obtain ⟨r,hr,hx⟩:=List.mem_flatMap.1 h
 split at hx
 ·rw [List.mem_singleton.1 hx];exact ⟨rfl,rfl,r,hr,rfl⟩
 ·cases hx
theorem rows_lat {a b:Pt} (ha:1<=a.l/\a.l<=8) (hb:1<=b.l/\b.l<=8) (lr i:Int) (m:Bool):∀ r∈rowsP a b lr i m,0<=r.l/\r.l<=8:=fun r hr=>by
 simp only [rowsP,List.mem_cons,List.not_mem_nil,or_false] at hr;rcases hr with rfl|rfl|rfl|rfl|rfl
 ·exact ⟨by show 0<=a.l;omega,ha.2⟩
 ·exact ⟨by show (0:Int)<=0;omega,by show (0:Int)<=8;omega⟩
 ·exact ⟨by show 0<=max 0 (a.l-b.l+1);omega,by show max 0 (a.l-b.l+1)<=8;omega⟩
 ·show 0<=memL a b/\memL a b<=8;unfold memL
  split
  ·omega
  ·split <;> omega
 ·exact ⟨by show (0:Int)<=1;omega,by show (1:Int)<=8;omega⟩
theorem pairE_mem {ps:List Pt} (hp:PtsOk ps) {L:Nat->Int} {d:Int} {m:Bool} {i j:Nat} (hi:i<ps.length) (hj:j<ps.length) {x:Ed} (h:x∈pairE ps L d m i j):x.f=(i:Int)/\x.t=(j:Int)/\0<=x.l/\x.l<=8:=by
 obtain ⟨h1,h2,r,hr,h3⟩:=edL_mem h;rw [pAt_at hi,pAt_at hj] at hr
 have:=rows_lat (hp _ (List.getElem_mem hi)).2 (hp _ (List.getElem_mem hj)).2 _ _ _ r hr
 exact ⟨h1,h2,by omega,by omega⟩
theorem cat_up {F:Nat->List Ed} : ∀ {n:Nat},(∀ k,k<n->∀ x∈F k,x.t=(k:Int))->(cat F n).Pairwise fun a b=>a.t<=b.t
 | 0,_=>List.Pairwise.nil
 | n+1,h=>by
  unfold cat;refine List.pairwise_append.2 ⟨cat_up fun k hk=>h k (by omega),?_,fun a ha b hb=>?_⟩
  ·have hn:=h n (by omega);exact List.Pairwise.imp_of_mem (fun {a b} ha hb _=>by rw [hn a ha,hn b hb];exact Int.le_refl _) (List.pairwise_of_forall (l:=F n) (R:=fun _ _=>True) fun _ _=>trivial)
  ·obtain ⟨k,hk,ha⟩:=cat_mem.1 ha;rw [h k (by omega) a ha,h n (by omega) b hb];omega
theorem row_t {xs:List O} {ps:List Pt} (hp:PtsOk ps) {j:Nat} (hj:j<ps.length) {n:Nat} (hn:n<=ps.length) {x:Ed} (h:x∈rowW xs ps j n):∃ i:Nat,i<n/\x.f=(i:Int)/\x.t=(j:Int)/\0<=x.l/\x.l<=8:=by
 obtain ⟨i,hi,hx⟩:=cat_mem.1 h;exact ⟨i,hi,pairE_mem hp (by omega) hj hx⟩
theorem ofE_ok (t:Tab) (xs:List O) (hp:PtsOk (ptsL t xs)):EOk xs.length (ofE t xs):=by
 have hl:=ptsL_len t xs;have key:∀ x∈ofE t xs,∃ i j:Nat,i<j/\j<xs.length/\x.f=(i:Int)/\x.t=(j:Int)/\0<=x.l/\x.l<=8:=fun x hx=>by
  obtain ⟨j,hj,hx⟩:=cat_mem.1 hx;obtain ⟨i,hi,h1⟩:=row_t hp (by rw [hl];exact hj) (by rw [hl];omega) hx;exact ⟨i,j,hi,hj,h1⟩
 refine ⟨fun x hx=>?_,fun x hx=>?_,fun x hx=>?_,fun x hx=>?_,?_⟩
 ·obtain ⟨i,j,h1,h2,h3,h4,h5⟩:=key x hx;omega
 ·obtain ⟨i,j,h1,h2,h3,h4,h5⟩:=key x hx;omega
 ·obtain ⟨i,j,h1,h2,h3,h4,h5⟩:=key x hx;omega
 ·obtain ⟨i,j,h1,h2,h3,h4,h5⟩:=key x hx;exact h5
 ·exact cat_up fun k hk x hx=>by
   obtain ⟨i,hi,h1,h2,h3⟩:=row_t hp (by rw [hl];exact hk) (by rw [hl];omega) hx;exact h2
def latV (t:Tab) (d:Int):Int:=t.l (if 15<=d then 2 else if 12<=d then 1 else 0)
def latN (t:Tab) (xs:List O) (i:Nat):Int:=match xs[i]? with|some o=>latV t o.op|none=>1
theorem latN_at (t:Tab) {xs:List O} {i:Nat} (h:i<xs.length):latN t xs i=latV t xs[i].op:=by unfold latN;rw [List.getElem?_eq_getElem h]
theorem latV_in {t:Tab} (ht:t.ok=true) (d:Int):1<=latV t d/\latV t d<=8:=by
 unfold latV;refine Tb.inB_iff ((Tb.ok_parts ht).2 _ ?_).2.1
 split
 ·omega
 ·split <;> omega
theorem cls_all17:∀ n:Nat,1<=n->n<=17->∀ k,kindL[n]?=some k->k.cls=(if 15<=n then 2 else if 12<=n then 1 else 0)
 | 1,_,_,k,h=>by cases h;rfl
 | 2,_,_,k,h=>by cases h;rfl
 | 3,_,_,k,h=>by cases h;rfl
 | 4,_,_,k,h=>by cases h;rfl
 | 5,_,_,k,h=>by cases h;rfl
 | 6,_,_,k,h=>by cases h;rfl
 | 7,_,_,k,h=>by cases h;rfl
 | 8,_,_,k,h=>by cases h;rfl
 | 9,_,_,k,h=>by cases h;rfl
 | 10,_,_,k,h=>by cases h;rfl
 | 11,_,_,k,h=>by cases h;rfl
 | 12,_,_,k,h=>by cases h;rfl
 | 13,_,_,k,h=>by cases h;rfl
 | 14,_,_,k,h=>by cases h;rfl
 | 15,_,_,k,h=>by cases h;rfl
 | 16,_,_,k,h=>by cases h;rfl
 | 17,_,_,k,h=>by cases h;rfl
 | 0,h,_,_,_=>by omega
 | _+18,_,h,_,_=>by omega
theorem eOwn_at {B c:Nat} {w:World} {a:Option Addr} {es:List Ed} (h:EOwn B w a c es) {k:Nat} (hk:k<es.length) :
  ∃ b,a=some ⟨b,0,none⟩/\b<w.heap.size/\B<=b/\w.cell? ⟨b,k*5,none⟩=some (.int .i64 es[k].f)/\w.cell? ⟨b,k*5+1,none⟩=some (.int .i64 es[k].t)/\w.cell? ⟨b,k*5+2,none⟩=some (.int .i64 es[k].l)/\w.cell? ⟨b,k*5+3,none⟩=some (.int .i64 es[k].d)/\w.cell? ⟨b,k*5+4,none⟩=some (.int .i8 es[k].y):=by
 have h0:w.ownsRow B 112 5 (.slice a es.length c) es.length (ecells es):=h;rcases h0.2 with ⟨-,e⟩|⟨b,cap,cur,e,g1,-⟩
 ·omega
 ·injection e with e1 e2 e3
  subst e1;have hb:=(h0.lt b rfl).2;have k5:∀ j,j<5->w.cell? ⟨b,k*5+j,none⟩=es[k].cells[j]?:=fun j hj=>by
   rw [h0.cellAt _ (by
    have:k*5+j<(k+1)*5:=by omega
    exact Nat.lt_of_lt_of_le this (Nat.mul_le_mul_right 5 hk)),ecells_at es k hk j hj]
  exact ⟨b,rfl,hb,g1,k5 0 (by omega),k5 1 (by omega),k5 2 (by omega),k5 3 (by omega),k5 4 (by omega)⟩
theorem EOwn.up {B c:Nat} {w w':World} {a:Option Addr} {es:List Ed} (h:EOwn B w a c es) (hb:Below w.heap.size w w'):EOwn B w' a c es:=row_up h hb
def wl:List O:=[⟨1,1,0,0,0⟩,⟨12,2,1,1,0⟩,⟨2,1,2,1,0⟩,⟨17,0,1,0,0⟩]
end Go.Proofs.YtcmlnemokckbdaaGreatDoor.Dp
