/- Parts Lp Lq Lr. -/
namespace Go.Proofs.YtpdaknbmcpmhjaaGreatDoor.ListWay
structure Eg where
 f:Nat
 t:Nat
 l:Int
def cnt (p:Nat->Bool):Nat->Nat
 | 0=>0
 | n+1=>cnt p n+(if p n=true then 1 else 0)
theorem cnt_le {p q:Nat->Bool} : ∀ {n:Nat},(∀ i,i<n->p i=true->q i=true)->cnt p n<=cnt q n
 | 0,_=>Nat.le_refl _
 | n+1,h=>by
  have ih:=cnt_le (n:=n) fun i hi=>h i (by omega);have hn:=h n (by omega);unfold cnt
  cases hp:p n
  ·simp;omega
  ·rw [hn hp];simp;omega
theorem cnt_same {p q:Nat->Bool} : ∀ {n:Nat},(∀ i,i<n->p i=q i)->cnt p n=cnt q n
 | 0,_=>rfl
 | n+1,h=>by unfold cnt;rw [cnt_same (n:=n) fun i hi=>h i (by omega),h n (by omega)]
theorem cnt_one {p q:Nat->Bool} {k:Nat} (hk:p k=false) (hq:q k=true) (ho:∀ i,i≠k->p i=q i):∀ {n:Nat},k<n->cnt q n=cnt p n+1
 | 0,h=>by omega
 | n+1,h=>by
  unfold cnt
  by_cases e:k=n
  ·subst e;rw [cnt_same (p:=q) (q:=p) fun i hi=>(ho i (by omega)).symm,hk,hq];simp
  ·rw [cnt_one hk hq ho (n:=n) (by omega),ho n (fun e2=>e e2.symm)];omega
theorem cnt_zero {p:Nat->Bool} : ∀ {n:Nat},(∀ i,i<n->p i=false)->cnt p n=0
 | 0,_=>rfl
 | n+1,h=>by unfold cnt;rw [cnt_zero (n:=n) fun i hi=>h i (by omega),h n (by omega)];simp
theorem cnt_pos {p:Nat->Bool} : ∀ {n:Nat},cnt p n<n->∃ i,i<n/\p i=false/\∀ j,j<i->p j=true
 | 0,h=>by omega
 | n+1,h=>by
  unfold cnt at h
  by_cases e:cnt p n<n
  ·obtain ⟨i,h1,h2,h3⟩:=cnt_pos e;exact ⟨i,by omega,h2,h3⟩
  ·cases hp:p n
   ·refine ⟨n,by omega,hp,fun j hj=>?_⟩
    cases hj2:p j
    ·have:cnt p n<n:=by
      clear h hp;have key:∀ m,j<m->cnt p m<m:=by
       intro m
       induction m with
       | zero=>intro h;omega
       | succ m ih=>
        intro hm;unfold cnt
        by_cases e2:j=m
        ·subst e2;rw [hj2]
         have:cnt p j<=j:=by
          have:=cnt_le (p:=p) (q:=fun _=>true) (n:=j) fun _ _ _=>rfl
          have t:∀ q,cnt (fun _=>true) q=q:=fun q=>by
           induction q with
           | zero=>rfl
           | succ q ih=>unfold cnt;rw [ih];simp
          rw [t] at this;exact this
         simp;omega
        ·have:=ih (by omega)
         split <;> omega
      exact key n hj
     exact absurd this e
    ·rfl
   ·rw [hp] at h;simp at h;omega
structure Sys where
 n:Nat
 cls:Nat->Nat
 u:Nat->Nat
 b:Nat->Nat
 es:List Eg
structure Sys.Ok (s:Sys):Prop where
 u1:∀ i,i<s.n->1<=s.u (s.cls i)
 b1:∀ c,1<=s.b c/\s.b c<=8
 ed:∀ e∈s.es,e.f<e.t/\e.t<s.n/\0<=e.l/\e.l<=8
def bsy (s:Sys) (c:Nat->Int) (k:Nat) (y:Int) (j:Nat):Bool:=decide (s.cls j=k)&&(decide (0<=c j)&&(decide (c j<=y)&&decide (y<c j+s.b k)))
def busy (s:Sys) (c:Nat->Int) (k:Nat) (y:Int):Nat:=cnt (bsy s c k y) s.n
def Ready (s:Sys) (c:Nat->Int) (i:Nat) (y:Int):Prop:=∀ e∈s.es,e.t=i->0<=c e.f/\c e.f+e.l<=y
def Free (s:Sys) (c:Nat->Int) (i:Nat) (y:Int):Prop:=∀ k,k<s.b (s.cls i)->busy s c (s.cls i) (y+k)<s.u (s.cls i)
def upd (c:Nat->Int) (i:Nat) (y:Int):Nat->Int:=fun j=>if j=i then y else c j
def placed (s:Sys) (c:Nat->Int):Nat:=cnt (fun i=>decide (0<=c i)) s.n
def Why (s:Sys) (c:Nat->Int) (i:Nat) (e:Int):Prop:=(∃ x∈s.es,x.t=i/\(c x.f<0\/e<c x.f+x.l))\/s.u (s.cls i)<=busy s c (s.cls i) e
structure Inv (s:Sys) (c:Nat->Int) (y:Int):Prop where
 y0:0<=y
 le:∀ i,i<s.n->c i<=y
 lo:∀ i,i<s.n→-1<=c i
 ed:∀ e∈s.es,0<=c e.t->0<=c e.f/\c e.f+e.l<=c e.t
 un:∀ i,i<s.n->∀ z,busy s c (s.cls i) z<=s.u (s.cls i)
 why:∀ i,i<s.n->∀ e,0<=e->e<y->(c i<0\/e<c i)->Why s c i e
 mx:∀ i,i<s.n->0<=c i->c i+8<=8*placed s c
 yp:y<=8*placed s c
theorem inv_start (s:Sys):Inv s (fun _=>-1) 0 where
 y0:=Int.le_refl _
 le _ _:=by omega
 lo _ _:=by omega
 ed _ _ h:=by omega
 un i hi z:=by
  have:busy s (fun _=>-1) (s.cls i) z=0:=cnt_zero fun j _=>by simp [bsy]
  omega
 why _ _ _ _ h:=by omega
 mx _ _ h:=by omega
 yp:=by omega
theorem bsy_upd {s:Sys} {c:Nat->Int} {i:Nat} (hc:c i<0) {y:Int} (k:Nat) (z:Int) {j:Nat} (h:bsy s c k z j=true):bsy s (upd c i y) k z j=true:=by
 unfold bsy at *;simp only [Bool.and_eq_true,decide_eq_true_eq] at h ⊢;unfold upd
 by_cases e:j=i
 ·subst e;omega
 ·rw [if_neg e];exact h
theorem busy_up {s:Sys} {c:Nat->Int} {i:Nat} (hc:c i<0) (y:Int) (k:Nat) (z:Int):busy s c k z<=busy s (upd c i y) k z:=cnt_le fun _ _ h=>bsy_upd hc k z h
theorem inv_place {s:Sys} (ok:s.Ok) {c:Nat->Int} {y:Int} (h:Inv s c y) {i:Nat} (hi:i<s.n) (hc:c i<0) (hr:Ready s c i y) (hf:Free s c i y):Inv s (upd c i y) y:=by
 have up1:upd c i y i=y:=if_pos rfl;have up2:∀ j,j≠i->upd c i y j=c j:=fun j e=>if_neg e;have hy:=h.y0;have hpl:placed s (upd c i y)=placed s c+1:=by
  refine cnt_one (k:=i) (by simp;omega) (by rw [up1];simpa using hy) (fun j e=>by rw [up2 j e]) hi
 refine ⟨hy,fun j hj=>?_,fun j hj=>?_,fun e he ht=>?_,fun j hj z=>?_,fun j hj e h0 h1 h2=>?_,fun j hj h0=>?_,by rw [hpl];have:=h.yp;omega⟩
 ·by_cases e:j=i
  ·subst e;rw [up1];exact Int.le_refl _
  ·rw [up2 j e];exact h.le j hj
 ·by_cases e:j=i
  ·subst e;rw [up1];omega
  ·rw [up2 j e];exact h.lo j hj
 ·obtain ⟨e1,e2,e3,e4⟩:=ok.ed e he
  by_cases et:e.t=i
  ·rw [et,up1];obtain ⟨r1,r2⟩:=hr e he et
   have:e.f≠i:=by omega
   rw [up2 _ this];exact ⟨r1,r2⟩
  ·rw [up2 _ et] at ht ⊢;obtain ⟨r1,r2⟩:=h.ed e he ht
   have:e.f≠i:=fun e5=>by rw [e5] at r1;omega
   rw [up2 _ this];exact ⟨r1,r2⟩
 ·
  by_cases hq:bsy s (upd c i y) (s.cls j) z i=true
  ·have hone:busy s (upd c i y) (s.cls j) z=busy s c (s.cls j) z+1:=by
    refine cnt_one (k:=i) ?_ hq (fun m e=>?_) hi
    ·unfold bsy;simp;intro _ h5;omega
    ·unfold bsy;rw [up2 m e]
   unfold bsy at hq;simp only [Bool.and_eq_true,decide_eq_true_eq,up1] at hq;obtain ⟨q1,q2,q3,q4⟩:=hq;have hb:=hf (z-y).toNat (by rw [q1];omega);rw [show y+((z-y).toNat : Int)=z by omega,q1] at hb;omega
  ·have hsame:busy s (upd c i y) (s.cls j) z=busy s c (s.cls j) z:=by
    refine cnt_same fun m hm=>?_
    by_cases e:m=i
    ·subst e
     have:bsy s c (s.cls j) z m=false:=by unfold bsy;simp;intro _ h5;omega
     rw [this];simpa using hq
    ·unfold bsy;rw [up2 m e]
   rw [hsame];exact h.un j hj z
 ·
  have hw:Why s c j e:=by
   by_cases ej:j=i
   ·subst ej;exact h.why j hj e h0 h1 (.inl hc)
   ·rw [up2 j ej] at h2;exact h.why j hj e h0 h1 h2
  rcases hw with ⟨x,hx,x1,x2⟩|hw
  ·refine .inl ⟨x,hx,x1,?_⟩;obtain ⟨e1,e2,e3,e4⟩:=ok.ed x hx
   by_cases ef:x.f=i
   ·rw [ef,up1];right;omega
   ·rw [up2 _ ef];exact x2
  ·exact .inr (Nat.le_trans hw (busy_up hc y _ _))
 ·rw [hpl]
  by_cases e:j=i
  ·subst e;rw [up1];have:=h.yp;omega
  ·rw [up2 j e] at h0 ⊢;have:=h.mx j hj h0;omega
theorem inv_next {s:Sys} (ok:s.Ok) {c:Nat->Int} {y:Int} (h:Inv s c y) (hl:placed s c<s.n) (hno:∀ i,i<s.n->c i<0->¬ (Ready s c i y/\Free s c i y)):Inv s c (y+1):=by
 have hy:=h.y0;have hfull:∀ i,i<s.n->∀ k:Nat,s.u (s.cls i)<=busy s c (s.cls i) (y+k)->s.u (s.cls i)<=busy s c (s.cls i) y:=fun i hi k hk=>by
  refine Nat.le_trans hk (cnt_le fun j hj hb=>?_);unfold bsy at *;simp only [Bool.and_eq_true,decide_eq_true_eq] at hb ⊢
  have:=h.le j hj
  omega
 have hprog:y+1<=8*placed s c:=by
  rcases Int.lt_or_le (y+1) (8*placed s c+1) with h1|h1
  ·omega
  ·exfalso
   have hyp:=h.yp;have ey:y=8*placed s c:=by omega
   obtain ⟨i,hi,hi2,hi3⟩:=cnt_pos hl;have hci:c i<0:=by simpa using hi2
   have hall:∀ j,j<i->0<=c j:=fun j hj=>by simpa using hi3 j hj
   refine hno i hi hci ⟨fun e he et=>?_,fun k hk=>?_⟩
   ·obtain ⟨e1,e2,e3,e4⟩:=ok.ed e he;have h2:=hall e.f (by omega);have h3:=h.mx e.f (by omega) h2;exact ⟨h2,by omega⟩
   ·have:busy s c (s.cls i) (y+k)=0:=cnt_zero fun j hj=>by
     unfold bsy;have h4:=ok.b1 (s.cls i);have h5:=h.mx j hj;simp
     intro _ h6 _
     have:=h5 h6
     omega
    have:=ok.u1 i hi
    omega
 refine ⟨by omega,fun i hi=>by have:=h.le i hi;omega,h.lo,h.ed,h.un,fun i hi e h0 h1 h2=>?_,h.mx,hprog⟩
 by_cases e1:e<y
 ·exact h.why i hi e h0 e1 h2
 ·obtain rfl:e=y:=by omega
  have hci:c i<0:=by
   rcases h2 with h2|h2
   ·exact h2
   ·have:=h.le i hi;omega
  rcases Classical.em (Ready s c i e) with hr|hr
  ·have hf:¬ Free s c i e:=fun hf=>hno i hi hci ⟨hr,hf⟩;unfold Free at hf;rw [Classical.not_forall] at hf;obtain ⟨k,hk⟩:=hf;rw [Classical.not_imp] at hk;exact .inr (hfull i hi k (by omega))
  ·unfold Ready at hr;rw [Classical.not_forall] at hr;obtain ⟨x,hx⟩:=hr;rw [Classical.not_imp] at hx;obtain ⟨hx1,hx2⟩:=hx;rw [Classical.not_imp] at hx2;obtain ⟨hx2,hx3⟩:=hx2;refine .inl ⟨x,hx1,hx2,?_⟩;rcases Int.lt_or_le (c x.f) 0 with h5|h5
   ·exact .inl h5
   ·right
    rcases Int.lt_or_le e (c x.f+x.l) with h6|h6
    ·exact h6
    ·exact absurd ⟨h5,h6⟩ hx3
theorem inv_end {s:Sys} {c:Nat->Int} {y:Int} (h:Inv s c y) (hl:placed s c=s.n):(∀ i,i<s.n->0<=c i/\c i+8<=8*s.n)/\(∀ e∈s.es,e.f<s.n->e.t<s.n->c e.f+e.l<=c e.t)/\(∀ i,i<s.n->∀ z,busy s c (s.cls i) z<=s.u (s.cls i))/\∀ i,i<s.n->∀ e,0<=e->e<c i->Why s c i e:=by
 have hall:∀ i,i<s.n->0<=c i:=fun i hi=>by
  rcases Int.lt_or_le (c i) 0 with h1|h1
  ·exfalso
   have:placed s c<s.n:=by
    have t:∀ q,cnt (fun _=>true) q=q:=fun q=>by
     induction q with
     | zero=>rfl
     | succ q ih=>unfold cnt;rw [ih];simp
    have h2:=cnt_one (p:=fun j=>decide (0<=c j)&&decide (j≠i)) (q:=fun j=>decide (0<=c j) || decide (j=i)) (k:=i) (by simp) (by simp) (fun j hj=>by simp [hj]) hi;have h3:=cnt_le (p:=fun j=>decide (0<=c j)) (q:=fun j=>decide (0<=c j)&&decide (j≠i)) (n:=s.n) fun j _ hj=>by
     have hj:0<=c j:=by simpa using hj
     have:j≠i:=fun e=>by subst e;omega
     simp [hj,this]
    have h4:=cnt_le (p:=fun j=>decide (0<=c j) || decide (j=i)) (q:=fun _=>true) (n:=s.n) fun _ _ _=>rfl;rw [t] at h4;show cnt (fun j=>decide (0<=c j)) s.n<s.n;omega
   omega
  ·exact h1
 exact ⟨fun i hi=>⟨hall i hi,by have:=h.mx i hi (hall i hi);rw [hl] at this;exact this⟩,fun e he _ h2=>(h.ed e he (hall _ h2)).2,h.un,fun i hi e h0 h1=>h.why i hi e h0 (by have:=h.le i hi;omega) (.inr h1)⟩
def okB (s:Sys) (c:Nat->Int) (y:Int) (i:Nat):Bool:=decide (c i<0)&&((s.es.all fun e=>!decide (e.t=i) || (decide (0<=c e.f)&&decide (c e.f+e.l<=y)))&&(List.range (s.b (s.cls i))).all fun k=>decide (busy s c (s.cls i) (y+k)<s.u (s.cls i)))
theorem okB_iff (s:Sys) (c:Nat->Int) (y:Int) (i:Nat):okB s c y i=true↔c i<0/\Ready s c i y/\Free s c i y:=by
 unfold okB Ready Free;simp only [Bool.and_eq_true,decide_eq_true_eq,List.all_eq_true,Bool.or_eq_true,Bool.not_eq_true',decide_eq_false_iff_not,List.mem_range];constructor
 ·rintro ⟨h1,h2,h3⟩;refine ⟨h1,fun e he et=>?_,h3⟩;rcases h2 e he with h|h
  ·exact absurd et h
  ·exact h
 ·rintro ⟨h1,h2,h3⟩;refine ⟨h1,fun e he=>?_,h3⟩
  by_cases et:e.t=i
  ·exact .inr (h2 e he et)
  ·exact .inl et
def stp (s:Sys) (ord:List Nat) (x:(Nat->Int)×Int):(Nat->Int)×Int:=
 if placed s x.1<s.n then
  match ord.find? (okB s x.1 x.2) with
  | some i=>(upd x.1 i x.2,x.2)
  | none=>(x.1,x.2+1)
 else x
def way (s:Sys) (ord:List Nat):Nat->(Nat->Int)×Int
 | 0=>(fun _=>-1,0)
 | k+1=>stp s ord (way s ord k)
theorem placed_le (s:Sys) (c:Nat->Int):placed s c<=s.n:=by
 have t:∀ q,cnt (fun _=>true) q=q:=fun q=>by
  induction q with
  | zero=>rfl
  | succ q ih=>unfold cnt;rw [ih];simp
 have h:=cnt_le (p:=fun j=>decide (0<=c j)) (q:=fun _=>true) (n:=s.n) fun _ _ _=>rfl;rw [t] at h;exact h
theorem way_inv {s:Sys} (ok:s.Ok) {ord:List Nat} (ho:∀ i,i∈ord↔i<s.n):∀ k,Inv s (way s ord k).1 (way s ord k).2/\(placed s (way s ord k).1=s.n\/(k:Int)=placed s (way s ord k).1+(way s ord k).2)
 | 0=>by
  refine ⟨inv_start s,.inr ?_⟩
  have:placed s (way s ord 0).1=0:=cnt_zero fun i _=>by simp [way]
  rw [this];rfl
 | k+1=>by
  obtain ⟨h1,h2⟩:=way_inv ok ho k;show Inv s (stp s ord (way s ord k)).1 (stp s ord (way s ord k)).2/\_;have hw:way s ord (k+1)=stp s ord (way s ord k):=rfl;rw [hw];generalize way s ord k=x at *;obtain ⟨c,y⟩:=x;unfold stp
  by_cases hl:placed s c<s.n
  ·have h2:(k:Int)=placed s c+y:=by
    rcases h2 with h2|h2
    ·have h2:placed s c=s.n:=h2;omega
    ·exact h2
   simp only [hl,if_true]
   cases hp:ord.find? (okB s c y) with
   | none=>
    have hno:∀ i,i<s.n->c i<0->¬ (Ready s c i y/\Free s c i y):=fun i hi hc hrf=>by
     have:=List.find?_eq_none.1 hp i ((ho i).2 hi)
     exact this ((okB_iff s c y i).2 ⟨hc,hrf⟩)
    exact ⟨inv_next ok h1 hl hno,.inr (by show ((k+1:Nat):Int)=placed s c+(y+1);omega)⟩
   | some i=>
    have hi:=(ho i).1 (List.mem_of_find?_eq_some hp);obtain ⟨hc,hr,hf⟩:=(okB_iff s c y i).1 (List.find?_some hp);refine ⟨inv_place ok h1 hi hc hr hf,.inr ?_⟩;have hpl:placed s (upd c i y)=placed s c+1:=by
     have hy:0<=y:=h1.y0;refine cnt_one (k:=i) (by simp;omega) (by simp [upd,hy]) (fun j e=>by simp [upd,e]) hi
    show ((k+1:Nat):Int)=placed s (upd c i y)+y;rw [hpl];omega
  ·have he:placed s c=s.n:=by have:=placed_le s c;omega
   simp only [hl,if_false];exact ⟨h1,.inl he⟩
theorem way_ends {s:Sys} (ok:s.Ok) {ord:List Nat} (ho:∀ i,i∈ord↔i<s.n) {k:Nat} (hk:9*s.n<=k):placed s (way s ord k).1=s.n:=by
 obtain ⟨h1,h2⟩:=way_inv ok ho k;rcases h2 with h2|h2
 ·exact h2
 ·have h3:=h1.yp;have h4:=placed_le s (way s ord k).1;omega
theorem stp_done {s:Sys} {ord:List Nat} {x:(Nat->Int)×Int} (h:placed s x.1=s.n):stp s ord x=x:=by
 unfold stp;rw [if_neg (by omega)]
theorem way_stays {s:Sys} {ord:List Nat} {k:Nat} (h:placed s (way s ord k).1=s.n):∀ m,way s ord (k+m)=way s ord k
 | 0=>rfl
 | m+1=>by
  show stp s ord (way s ord (k+m))=_;rw [way_stays h m,stp_done h]
def sch (s:Sys) (ord:List Nat):Nat->Int:=(way s ord (9*s.n)).1
theorem sch_is {s:Sys} {ord:List Nat} (ok:s.Ok) (ho:∀ i,i∈ord↔i<s.n) {k:Nat} (h:placed s (way s ord k).1=s.n):(way s ord k).1=sch s ord:=by
 unfold sch;rcases Nat.le_total k (9*s.n) with h1|h1
 ·have e:way s ord (9*s.n)=way s ord k:=by
   have:∃ m,9*s.n=k+m:=⟨9*s.n-k,by omega⟩
   obtain ⟨m,hm⟩:=this;rw [hm];exact way_stays h m
  rw [e]
 ·obtain ⟨m,rfl⟩:∃ m,k=9*s.n+m:=⟨k-9*s.n,by omega⟩;rw [way_stays (way_ends ok ho (Nat.le_refl _)) m]
theorem busy_place {s:Sys} {c:Nat->Int} {i:Nat} (hi:i<s.n) (hc:c i<0) {y:Int} (hy:0<=y) (k:Nat) (z:Int):busy s (upd c i y) k z=busy s c k z+(if s.cls i=k/\y<=z/\z<y+s.b k then 1 else 0):=by
 have up1:upd c i y i=y:=if_pos rfl;have up2:∀ j,j≠i->upd c i y j=c j:=fun j e=>if_neg e;have hno:bsy s c k z i=false:=by unfold bsy;simp;intro _ h;omega
 by_cases h:s.cls i=k/\y<=z/\z<y+s.b k
 ·rw [if_pos h];refine cnt_one (k:=i) hno ?_ (fun j e=>by unfold bsy;rw [up2 j e]) hi;unfold bsy;rw [up1];simp only [Bool.and_eq_true,decide_eq_true_eq];exact ⟨h.1,hy,h.2⟩
 ·rw [if_neg h,Nat.add_zero];refine cnt_same fun j _=>?_
  by_cases e:j=i
  ·subst e;rw [hno]
   cases hb:bsy s (upd c j y) k z j
   ·rfl
   ·unfold bsy at hb;rw [up1] at hb;simp only [Bool.and_eq_true,decide_eq_true_eq] at hb;exact absurd ⟨hb.1,hb.2.2⟩ h
  ·unfold bsy;rw [up2 j e]
def hits (first cyc:Int):Nat->Int
 | 0=>0
 | k+1=>hits first cyc k+(if first+k=cyc then 1 else 0)
theorem hits_is (first cyc:Int):∀ k:Nat,hits first cyc k=if first<=cyc/\cyc<first+k then 1 else 0
 | 0=>by
  show (0:Int)=_;rw [if_neg (by omega)]
 | k+1=>by
  show hits first cyc k+_=_
  rw [hits_is first cyc k]
  by_cases h1:first+k=cyc
  ·rw [if_pos h1,if_neg (by omega),if_pos (by omega)];rfl
  ·rw [if_neg h1]
   by_cases h2:first<=cyc/\cyc<first+k
   ·rw [if_pos h2,if_pos (by omega)];rfl
   ·rw [if_neg h2,if_neg (by omega)];rfl
theorem free_is (s:Sys) (c:Nat->Int) (i:Nat) (y:Int):Free s c i y↔∀ k:Nat,k<s.b (s.cls i)->(busy s c (s.cls i) (y+k):Int)+hits y (y+k) (s.b (s.cls i))<=s.u (s.cls i):=by
 unfold Free;constructor
 ·intro h k hk
  have:=h k hk
  rw [hits_is,if_pos (by omega)];omega
 ·intro h k hk
  have:=h k hk
  rw [hits_is,if_pos (by omega)] at this;omega
def WOk (s:Sys) (c W:Nat->Int):Prop:=∀ i,W i=((s.es.countP fun e=>decide (e.t=i)&&decide (c e.f<0):Nat):Int)
def FOk (s:Sys) (c F:Nat->Int):Prop:=∀ i y,F i<=y↔0<=y/\∀ e∈s.es,e.t=i->0<=c e.f->c e.f+e.l<=y
theorem ready_is {s:Sys} {c W F:Nat->Int} (hW:WOk s c W) (hF:FOk s c F) {i:Nat} {y:Int} (hy:0<=y):(W i=0/\F i<=y)↔Ready s c i y:=by
 unfold Ready;rw [hW i,hF i y];constructor
 ·rintro ⟨h1,-,h2⟩ e he et;have h3:s.es.countP (fun e=>decide (e.t=i)&&decide (c e.f<0))=0:=by omega
  have h4:=List.countP_eq_zero.1 h3 e he;have h5:0<=c e.f:=by
   simp only [Bool.and_eq_true,decide_eq_true_eq,not_and] at h4
   have:=h4 et
   omega
  exact ⟨h5,h2 e he et h5⟩
 ·intro h;refine ⟨?_,hy,fun e he et _=>(h e he et).2⟩
  have:s.es.countP (fun e=>decide (e.t=i)&&decide (c e.f<0))=0:=List.countP_eq_zero.2 fun e he h2=>by
   simp only [Bool.and_eq_true,decide_eq_true_eq] at h2
   have:=(h e he h2.1).1
   omega
  rw [this];rfl
theorem WOk.start (s:Sys):WOk s (fun _=>-1) (fun i=>((s.es.countP fun e=>decide (e.t=i):Nat):Int)):=fun i=>by
 show _=((s.es.countP fun e=>decide (e.t=i)&&decide ((-1:Int)<0):Nat):Int);simp
theorem FOk.start (s:Sys):FOk s (fun _=>-1) (fun _=>0):=fun i y=>by
 show (0:Int)<=y↔_;constructor
 ·intro h;exact ⟨h,fun e _ _ h2=>by have h2:(0:Int)≤-1:=h2;omega⟩
 ·exact fun h=>h.1
def plW (A:List Eg) (W:Nat->Int):Nat->Int:=A.foldl (fun W e=>upd W e.t (W e.t-1)) W
def plF (y:Int) (A:List Eg) (F:Nat->Int):Nat->Int:=A.foldl (fun F e=>upd F e.t (max (F e.t) (y+e.l))) F
theorem plW_take (A:List Eg) (W:Nat->Int) (k:Nat) (h:k<A.length):plW (A.take (k+1)) W=upd (plW (A.take k) W) A[k].t (plW (A.take k) W A[k].t-1):=by
 unfold plW;rw [List.take_succ_eq_append_getElem h,List.foldl_append];rfl
theorem plF_take (y:Int) (A:List Eg) (F:Nat->Int) (k:Nat) (h:k<A.length):plF y (A.take (k+1)) F=upd (plF y (A.take k) F) A[k].t (max (plF y (A.take k) F A[k].t) (y+A[k].l)):=by
 unfold plF;rw [List.take_succ_eq_append_getElem h,List.foldl_append];rfl
theorem plW_is (i:Nat):∀ (A:List Eg) (W:Nat->Int),plW A W i=W i-((A.countP fun e=>decide (e.t=i):Nat):Int)
 | [],W=>by simp [plW]
 | e::A,W=>by
  show plW A (upd W e.t (W e.t-1)) i=_;rw [plW_is i A,List.countP_cons];unfold upd
  by_cases h:e.t=i
  ·subst h;simp
   omega
  ·rw [if_neg (fun e2=>h e2.symm)];simp [h]
theorem plF_is (y:Int) (i:Nat) (z:Int):∀ (A:List Eg) (F:Nat->Int),plF y A F i<=z↔F i<=z/\∀ e∈A,e.t=i->y+e.l<=z
 | [],F=>by simp [plF]
 | e::A,F=>by
  show plF y A (upd F e.t (max (F e.t) (y+e.l))) i<=z↔_;rw [plF_is y i z A];unfold upd
  by_cases h:i=e.t
  ·subst h;rw [if_pos rfl];constructor
   ·rintro ⟨h1,h2⟩;refine ⟨by omega,fun x hx ht=>?_⟩;rcases List.mem_cons.1 hx with rfl|hx
    ·omega
    ·exact h2 x hx ht
   ·rintro ⟨h1,h2⟩
    have:=h2 e (List.mem_cons_self ..) rfl
    exact ⟨by omega,fun x hx ht=>h2 x (List.mem_cons_of_mem _ hx) ht⟩
  ·rw [if_neg h];constructor
   ·rintro ⟨h1,h2⟩;refine ⟨h1,fun x hx ht=>?_⟩;rcases List.mem_cons.1 hx with rfl|hx
    ·exact absurd ht.symm h
    ·exact h2 x hx ht
   ·rintro ⟨h1,h2⟩;exact ⟨h1,fun x hx ht=>h2 x (List.mem_cons_of_mem _ hx) ht⟩
theorem cp_split (c:Nat->Int) (n i:Nat) (y:Int) (hc:c n<0) (hy:0<=y):∀ es:List Eg,(es.countP fun e=>decide (e.t=i)&&decide (c e.f<0))=(es.countP fun e=>decide (e.t=i)&&decide (upd c n y e.f<0))+((es.filter fun e=>decide (e.f=n)).countP fun e=>decide (e.t=i))
 | []=>rfl
 | e::es=>by
  have ih:=cp_split c n i y hc hy es;rw [List.countP_cons,List.countP_cons,List.filter_cons,ih];have e1:upd c n y n=y:=if_pos rfl;have hy':¬ y<0:=by omega
  by_cases h1:e.f=n
  ·simp only [h1,decide_true,if_true,List.countP_cons,hc,e1,hy']
   by_cases h2:e.t=i
   ·simp [h2];omega
   ·simp [h2]
  ·have e2:upd c n y e.f=c e.f:=if_neg h1;simp only [h1,decide_false,e2]
   by_cases h2:e.t=i
   ·by_cases h3:c e.f<0
    ·simp [h2,h3];omega
    ·simp [h2,h3]
   ·simp [h2]
theorem WOk.place {s:Sys} {c W:Nat->Int} (h:WOk s c W) {n:Nat} {y:Int} (hc:c n<0) (hy:0<=y):WOk s (upd c n y) (plW (s.es.filter fun e=>decide (e.f=n)) W):=fun i=>by
 rw [plW_is,h i,cp_split c n i y hc hy];omega
theorem FOk.place {s:Sys} {c F:Nat->Int} (h:FOk s c F) {n:Nat} {y:Int} (hc:c n<0) (hy:0<=y):FOk s (upd c n y) (plF y (s.es.filter fun e=>decide (e.f=n)) F):=fun i z=>by
 rw [plF_is,h i z];unfold upd;constructor
 ·rintro ⟨⟨h1,h2⟩,h3⟩;refine ⟨h1,fun e he et h4=>?_⟩
  by_cases hn:e.f=n
  ·rw [if_pos hn];exact h3 e (List.mem_filter.2 ⟨he,by simpa using hn⟩) et
  ·rw [if_neg hn] at h4 ⊢;exact h2 e he et h4
 ·rintro ⟨h1,h2⟩;refine ⟨⟨h1,fun e he et h4=>?_⟩,fun e he et=>?_⟩
  ·have hn:e.f≠n:=fun e2=>by rw [e2] at h4;omega
   have:=h2 e he et (by rw [if_neg hn];exact h4)
   rw [if_neg hn] at this;exact this
  ·obtain ⟨h5,h6⟩:=List.mem_filter.1 he;have hn:e.f=n:=by simpa using h6
   have:=h2 e h5 et (by rw [if_pos hn];exact hy)
   rw [if_pos hn] at this;exact this
theorem WOk.in {s:Sys} {c W:Nat->Int} (h:WOk s c W) (i:Nat):0<=W i/\W i<=s.es.length:=by
 rw [h i]
 have:=List.countP_le_length (p:=fun e:Eg=>decide (e.t=i)&&decide (c e.f<0)) (l:=s.es)
 omega
def OnWay (s:Sys) (ord:List Nat) (c:Nat->Int) (y:Int):Prop:=∃ k,way s ord k=(c,y)
theorem OnWay.start (s:Sys) (ord:List Nat):OnWay s ord (fun _=>-1) 0:=⟨0,rfl⟩
theorem OnWay.inv {s:Sys} {ord:List Nat} {c:Nat->Int} {y:Int} (h:OnWay s ord c y) (ok:s.Ok) (ho:∀ i,i∈ord↔i<s.n):Inv s c y:=by
 obtain ⟨k,hk⟩:=h
 have:=(way_inv ok ho k).1
 rw [hk] at this;exact this
theorem cnt_lt {p:Nat->Bool} {i:Nat} (hp:p i=false):∀ {n:Nat},i<n->cnt p n<n
 | 0,h=>by omega
 | n+1,h=>by
  unfold cnt
  by_cases e:i=n
  ·subst e;rw [hp];have t:∀ q,cnt p q<=q:=fun q=>by
    induction q with
    | zero=>exact Nat.le_refl _
    | succ q ih=>unfold cnt;split <;> omega
   have:=t i
   simp
   omega
  ·have:=cnt_lt (n:=n) hp (by omega)
   split <;> omega
theorem placed_lt {s:Sys} {c:Nat->Int} {i:Nat} (hi:i<s.n) (hc:c i<0):placed s c<s.n:=cnt_lt (i:=i) (by simp;omega) hi
theorem placed_all {s:Sys} {c:Nat->Int} (h:∀ i,i<s.n->0<=c i):placed s c=s.n:=by
 have h1:=placed_le s c;rcases Nat.lt_or_ge (placed s c) s.n with h2|h2
 ·obtain ⟨i,hi,hp,-⟩:=cnt_pos h2
  have:=h i hi
  simp at hp
  omega
 ·omega
theorem placed_upd {s:Sys} {c:Nat->Int} {i:Nat} {y:Int} (hi:i<s.n) (hc:c i<0) (hy:0<=y):placed s (upd c i y)=placed s c+1:=
 cnt_one (k:=i) (by simp;omega) (by simp [upd,hy]) (fun j e=>by simp [upd,e]) hi
theorem OnWay.place {s:Sys} {ord:List Nat} {c:Nat->Int} {y:Int} (h:OnWay s ord c y) (ho:∀ i,i∈ord↔i<s.n) {i:Nat} (hf:ord.find? (okB s c y)=some i):OnWay s ord (upd c i y) y:=by
 obtain ⟨k,hk⟩:=h;refine ⟨k+1,?_⟩;show stp s ord (way s ord k)=_;rw [hk];unfold stp;have hl:placed s c<s.n:=placed_lt ((ho i).1 (List.mem_of_find?_eq_some hf)) ((okB_iff s c y i).1 (List.find?_some hf)).1;simp only [hl,if_true,hf]
theorem OnWay.next {s:Sys} {ord:List Nat} {c:Nat->Int} {y:Int} (h:OnWay s ord c y) (hl:placed s c<s.n) (hf:ord.find? (okB s c y)=none):OnWay s ord c (y+1):=by
 obtain ⟨k,hk⟩:=h;refine ⟨k+1,?_⟩;show stp s ord (way s ord k)=_;rw [hk];unfold stp;simp only [hl,if_true,hf]
theorem OnWay.done {s:Sys} {ord:List Nat} {c:Nat->Int} {y:Int} (h:OnWay s ord c y) (ok:s.Ok) (ho:∀ i,i∈ord↔i<s.n) (hl:placed s c=s.n):c=sch s ord:=by
 obtain ⟨k,hk⟩:=h;have h1:(way s ord k).1=c:=by rw [hk]
 rw [<- h1] at hl ⊢;exact sch_is ok ho hl
def lft (ord:List Nat) (c:Nat->Int):List Nat:=ord.filter fun i=>decide (c i<0)
theorem lft_start (ord:List Nat):lft ord (fun _=>-1)=ord:=by
 unfold lft;rw [List.filter_eq_self];intro i _;rfl
theorem lft_all {s:Sys} {ord:List Nat} {c:Nat->Int} (ho:∀ i,i∈ord↔i<s.n) (h:lft ord c=[]):placed s c=s.n:=placed_all fun i hi=>by
 have:=List.filter_eq_nil_iff.1 h i ((ho i).2 hi)
 simp at this
 exact this
theorem lft_lt {s:Sys} {ord:List Nat} {c:Nat->Int} (ho:∀ i,i∈ord↔i<s.n) (h:lft ord c≠[]):placed s c<s.n:=by
 obtain ⟨i,hi⟩:=List.exists_mem_of_ne_nil _ h;obtain ⟨h1,h2⟩:=List.mem_filter.1 hi;exact placed_lt ((ho i).1 h1) (by simpa using h2)
def rfB (s:Sys) (c:Nat->Int) (y:Int) (i:Nat):Bool:=(s.es.all fun e=>!decide (e.t=i) || (decide (0<=c e.f)&&decide (c e.f+e.l<=y)))&&(List.range (s.b (s.cls i))).all fun k=>decide (busy s c (s.cls i) (y+k)<s.u (s.cls i))
theorem rfB_iff (s:Sys) (c:Nat->Int) (y:Int) (i:Nat):rfB s c y i=true↔Ready s c i y/\Free s c i y:=by
 unfold rfB Ready Free;simp only [Bool.and_eq_true,decide_eq_true_eq,List.all_eq_true,Bool.or_eq_true,Bool.not_eq_true',decide_eq_false_iff_not,List.mem_range];constructor
 ·rintro ⟨h2,h3⟩;refine ⟨fun e he et=>?_,h3⟩;rcases h2 e he with h|h
  ·exact absurd et h
  ·exact h
 ·rintro ⟨h2,h3⟩;refine ⟨fun e he=>?_,h3⟩
  by_cases et:e.t=i
  ·exact .inr (h2 e he et)
  ·exact .inl et
theorem find_lft (s:Sys) (ord:List Nat) (c:Nat->Int) (y:Int):ord.find? (okB s c y)=(lft ord c).find? (rfB s c y):=by
 unfold lft;rw [List.find?_filter]
 congr 1
 funext a
 unfold okB rfB;rw [Bool.eq_iff_iff];simp only [Bool.and_eq_true,decide_eq_true_eq]
theorem find_first {p:Nat->Bool} : ∀ {L:List Nat} {k:Nat} (h:k<L.length),p L[k]=true->(∀ j (hj:j<k),p (L[j]'(by omega))=false)->L.find? p=some L[k]
 | [],k,h,_,_=>by simp at h
 | x::L,0,_,hp,_=>by
  have hp:p x=true:=hp;show (x::L).find? p=some x;rw [List.find?_cons,hp]
 | x::L,k+1,h,hp,hn=>by
  have h0:p x=false:=hn 0 (by omega);rw [List.find?_cons,h0];exact find_first (L:=L) (by simpa using h) hp fun j hj=>hn (j+1) (by omega)
theorem find_not {p:Nat->Bool} {L:List Nat} (h:∀ j (hj:j<L.length),p L[j]=false):L.find? p=none:=List.find?_eq_none.2 fun x hx=>by
 obtain ⟨j,hj,rfl⟩:=List.getElem_of_mem hx;rw [h j hj];exact Bool.false_ne_true
theorem lft_nodup {ord:List Nat} (hd:ord.Nodup) (c:Nat->Int):(lft ord c).Nodup:=List.filter_sublist.nodup hd
theorem filter_ne_idx {i:Nat} : ∀ {L:List Nat} {k:Nat} (h:k<L.length),L.Nodup->L[k]=i->L.filter (fun j=>decide (j≠i))=L.eraseIdx k
 | [],k,h,_,_=>by simp at h
 | x::L,0,_,hd,he=>by
  have he:x=i:=he;subst he;rw [List.filter_cons,List.eraseIdx_cons_zero];simp only [ne_eq,not_true_eq_false,decide_false];rw [if_neg (by decide),List.filter_eq_self];intro j hj
  have:=(List.nodup_cons.1 hd).1
  simp
  intro e;exact this (e ▸ hj)
 | x::L,k+1,h,hd,he=>by
  have he:L[k]'(by simpa using h)=i:=he;obtain ⟨h1,h2⟩:=List.nodup_cons.1 hd;have hx:x≠i:=fun e=>h1 (by rw [e,<- he];exact List.getElem_mem _);rw [List.filter_cons,List.eraseIdx_cons_succ,if_pos (by simpa using hx),filter_ne_idx (by simpa using h) h2 he]
theorem lft_place {ord:List Nat} (hd:ord.Nodup) {c:Nat->Int} {k:Nat} (h:k<(lft ord c).length) {y:Int} (hy:0<=y):lft ord (upd c (lft ord c)[k] y)=(lft ord c).eraseIdx k:=by
 rw [<- filter_ne_idx h (lft_nodup hd c) rfl];obtain ⟨i,hi⟩:∃ i,(lft ord c)[k]=i:=⟨_,rfl⟩;rw [hi];unfold lft;rw [List.filter_filter];refine List.filter_congr fun j _=>?_;unfold upd
 by_cases e:j=i
 ·subst e;simp;omega
 ·simp [e]
theorem lft_mem {ord:List Nat} {c:Nat->Int} {k:Nat} (h:k<(lft ord c).length):(lft ord c)[k]∈ord/\c (lft ord c)[k]<0:=by
 obtain ⟨h1,h2⟩:=List.mem_filter.1 (List.getElem_mem h);exact ⟨h1,by simpa using h2⟩
def cntF (s:Sys) (c:Nat->Int):Int->Int->Int:=fun a b=>if 0<=a then (busy s c a.toNat b:Int) else 0
theorem busy_none (s:Sys) {c:Nat->Int} (h:∀ i,i<s.n->c i<0) (k:Nat) (z:Int):busy s c k z=0:=cnt_zero fun j hj=>by
 have:=h j hj
 unfold bsy;simp
 intro _ h2;omega
theorem cntF_start (s:Sys):cntF s (fun _=>-1)=fun _ _=>0:=by
 funext a b
 unfold cntF;rw [busy_none s (fun _ _=>by decide)]
 split <;> rfl
theorem cntF_at (s:Sys) (c:Nat->Int) (k:Nat) (z:Int):cntF s c (k:Int) z=(busy s c k z:Int):=by
 unfold cntF;rw [if_pos (by omega)];rfl
theorem cntF_place {s:Sys} {c:Nat->Int} {i:Nat} (hi:i<s.n) (hc:c i<0) {y:Int} (hy:0<=y):(fun a b=>if a=(s.cls i:Int) then cntF s c a b+hits y b (s.b (s.cls i)) else cntF s c a b)=cntF s (upd c i y):=by
 funext a b
 by_cases h:a=(s.cls i:Int)
 ·subst h;rw [if_pos rfl,cntF_at,cntF_at,busy_place hi hc hy,hits_is]
  by_cases h2:y<=b/\b<y+(s.b (s.cls i):Int)
  ·rw [if_pos h2,if_pos ⟨rfl,h2⟩];omega
  ·rw [if_neg h2,if_neg (fun h3=>h2 h3.2)];omega
 ·rw [if_neg h];unfold cntF
  by_cases h0:0<=a
  ·rw [if_pos h0,if_pos h0,busy_place hi hc hy,if_neg (fun h3=>h (by omega))];rfl
  ·rw [if_neg h0,if_neg h0]
theorem free_all (s:Sys) (c:Nat->Int) (i:Nat) (y:Int):((List.range (s.b (s.cls i))).all fun k=>decide (cntF s c (s.cls i:Int) (y+(k:Nat))+hits y (y+(k:Nat)) (s.b (s.cls i))<=(s.u (s.cls i):Int)))=true↔Free s c i y:=by
 rw [free_is,List.all_eq_true];constructor
 ·intro h k hk
  have:=h k (List.mem_range.2 hk)
  rw [cntF_at] at this;simpa using this
 ·intro h k hk
  have:=h k (List.mem_range.1 hk)
  rw [cntF_at];simpa using this
def cut (c:Nat->Int) (m:Nat):Nat->Int:=fun i=>if i<m then c i else -1
theorem cut_0 (c:Nat->Int):cut c 0=fun _=>-1:=by
 funext i
 unfold cut;rw [if_neg (by omega)]
theorem cut_next (c:Nat->Int) (m:Nat):cut c (m+1)=upd (cut c m) m (c m):=by
 funext i
 unfold cut upd
 by_cases e:i=m
 ·subst e;rw [if_pos (by omega),if_pos rfl]
 ·rw [if_neg e]
  by_cases e2:i<m
  ·rw [if_pos (by omega)];exact (if_pos e2).symm
  ·rw [if_neg (by omega)];exact (if_neg e2).symm
theorem cut_neg (c:Nat->Int) (m:Nat):cut c m m<0:=by unfold cut;rw [if_neg (by omega)];decide
end Go.Proofs.YtpdaknbmcpmhjaaGreatDoor.ListWay
