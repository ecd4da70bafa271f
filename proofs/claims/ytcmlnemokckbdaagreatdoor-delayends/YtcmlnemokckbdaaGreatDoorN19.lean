/- Parts Lp. -/
namespace Go.Proofs.YtcmlnemokckbdaaGreatDoor.ListWay
structure Eg where
 f:Nat
 t:Nat
 l:Int
def cnt (p:Nat->Bool):Nat->Nat
 | 0=>0
 | n+1=>cnt p n+(if p n=true then 1 else 0)
theorem cnt_le {p q:Nat->Bool} : ∀ {n:Nat},(∀ i,i<n->p i=true->q i=true)->cnt p n<=cnt q n
 | 0,_=>Nat.le_refl _
 | n+1,h=>by
  have ih:=cnt_le (n:=n) fun i hi=>h i (by omega);have hn:=h n (by omega);unfold cnt
  cases hp:p n
  ·simp;omega
  ·rw [hn hp];simp;omega
theorem cnt_same {p q:Nat->Bool} : ∀ {n:Nat},(∀ i,i<n->p i=q i)->cnt p n=cnt q n
 | 0,_=>rfl
 | n+1,h=>by unfold cnt;rw [cnt_same (n:=n) fun i hi=>h i (by omega),h n (by omega)]
theorem cnt_one {p q:Nat->Bool} {k:Nat} (hk:p k=false) (hq:q k=true) (ho:∀ i,i≠k->p i=q i):∀ {n:Nat},k<n->cnt q n=cnt p n+1
 | 0,h=>by omega
 | n+1,h=>by
  unfold cnt
  by_cases e:k=n
  ·subst e;rw [cnt_same (p:=q) (q:=p) fun i hi=>(ho i (by omega)).symm,hk,hq];simp
  ·rw [cnt_one hk hq ho (n:=n) (by omega),ho n (fun e2=>e e2.symm)];omega
theorem cnt_zero {p:Nat->Bool} : ∀ {n:Nat},(∀ i,i<n->p i=false)->cnt p n=0
 | 0,_=>rfl
 | n+1,h=>by unfold cnt;rw [cnt_zero (n:=n) fun i hi=>h i (by omega),h n (by omega)];simp
theorem cnt_pos {p:Nat->Bool} : ∀ {n:Nat},cnt p n<n->∃ i,i<n/\p i=false/\∀ j,j<i->p j=true
 | 0,h=>by omega
 | n+1,h=>by
  unfold cnt at h
  by_cases e:cnt p n<n
  ·obtain ⟨i,h1,h2,h3⟩:=cnt_pos e;exact ⟨i,by omega,h2,h3⟩
  ·cases hp:p n
   ·refine ⟨n,by omega,hp,fun j hj=>?_⟩
    cases hj2:p j
    ·have:cnt p n<n:=by
      clear h hp;have key:∀ m,j<m->cnt p m<m:=by
       intro m
       induction m with
       | zero=>intro h;omega
       | succ m ih=>
        intro hm;unfold cnt
        by_cases e2:j=m
        ·subst e2;rw [hj2]
         have:cnt p j<=j:=by
          have:=cnt_le (p:=p) (q:=fun _=>true) (n:=j) fun _ _ _=>rfl
          have t:∀ q,cnt (fun _=>true) q=q:=fun q=>by
           induction q with
           | zero=>rfl
           | succ q ih=>unfold cnt;rw [ih];simp
          rw [t] at this;exact this
         simp;omega
        ·have:=ih (by omega)
         split <;> omega
      exact key n hj
     exact absurd this e
    ·rfl
   ·rw [hp] at h;simp at h;omega
structure Sys where
 n:Nat
 cls:Nat->Nat
 u:Nat->Nat
 b:Nat->Nat
 es:List Eg
structure Sys.Ok (s:Sys):Prop where
 u1:∀ i,i<s.n->1<=s.u (s.cls i)
 b1:∀ c,1<=s.b c/\s.b c<=8
 ed:∀ e∈s.es,e.f<e.t/\e.t<s.n/\0<=e.l/\e.l<=8
def bsy (s:Sys) (c:Nat->Int) (k:Nat) (y:Int) (j:Nat):Bool:=decide (s.cls j=k)&&(decide (0<=c j)&&(decide (c j<=y)&&decide (y<c j+s.b k)))
def busy (s:Sys) (c:Nat->Int) (k:Nat) (y:Int):Nat:=cnt (bsy s c k y) s.n
def Ready (s:Sys) (c:Nat->Int) (i:Nat) (y:Int):Prop:=∀ e∈s.es,e.t=i->0<=c e.f/\c e.f+e.l<=y
def Free (s:Sys) (c:Nat->Int) (i:Nat) (y:Int):Prop:=∀ k,k<s.b (s.cls i)->busy s c (s.cls i) (y+k)<s.u (s.cls i)
def upd (c:Nat->Int) (i:Nat) (y:Int):Nat->Int:=fun j=>if j=i then y else c j
def placed (s:Sys) (c:Nat->Int):Nat:=cnt (fun i=>decide (0<=c i)) s.n
def Why (s:Sys) (c:Nat->Int) (i:Nat) (e:Int):Prop:=(∃ x∈s.es,x.t=i/\(c x.f<0\/e<c x.f+x.l))\/s.u (s.cls i)<=busy s c (s.cls i) e
structure Inv (s:Sys) (c:Nat->Int) (y:Int):Prop where
 y0:0<=y
 le:∀ i,i<s.n->c i<=y
 lo:∀ i,i<s.n→-1<=c i
 ed:∀ e∈s.es,0<=c e.t->0<=c e.f/\c e.f+e.l<=c e.t
 un:∀ i,i<s.n->∀ z,busy s c (s.cls i) z<=s.u (s.cls i)
 why:∀ i,i<s.n->∀ e,0<=e->e<y->(c i<0\/e<c i)->Why s c i e
 mx:∀ i,i<s.n->0<=c i->c i+8<=8*placed s c
 yp:y<=8*placed s c
theorem inv_start (s:Sys):Inv s (fun _=>-1) 0 where
 y0:=Int.le_refl _
 le _ _:=by omega
 lo _ _:=by omega
 ed _ _ h:=by omega
 un i hi z:=by
  have:busy s (fun _=>-1) (s.cls i) z=0:=cnt_zero fun j _=>by simp [bsy]
  omega
 why _ _ _ _ h:=by omega
 mx _ _ h:=by omega
 yp:=by omega
theorem bsy_upd {s:Sys} {c:Nat->Int} {i:Nat} (hc:c i<0) {y:Int} (k:Nat) (z:Int) {j:Nat} (h:bsy s c k z j=true):bsy s (upd c i y) k z j=true:=by
 unfold bsy at *;simp only [Bool.and_eq_true,decide_eq_true_eq] at h ⊢;unfold upd
 by_cases e:j=i
 ·subst e;omega
 ·rw [if_neg e];exact h
theorem busy_up {s:Sys} {c:Nat->Int} {i:Nat} (hc:c i<0) (y:Int) (k:Nat) (z:Int):busy s c k z<=busy s (upd c i y) k z:=cnt_le fun _ _ h=>bsy_upd hc k z h
theorem inv_place {s:Sys} (ok:s.Ok) {c:Nat->Int} {y:Int} (h:Inv s c y) {i:Nat} (hi:i<s.n) (hc:c i<0) (hr:Ready s c i y) (hf:Free s c i y):Inv s (upd c i y) y:=by
 have up1:upd c i y i=y:=if_pos rfl;have up2:∀ j,j≠i->upd c i y j=c j:=fun j e=>if_neg e;have hy:=h.y0;have hpl:placed s (upd c i y)=placed s c+1:=by
  refine cnt_one (k:=i) (by simp;omega) (by rw [up1];simpa using hy) (fun j e=>by rw [up2 j e]) hi
 refine ⟨hy,fun j hj=>?_,fun j hj=>?_,fun e he ht=>?_,fun j hj z=>?_,fun j hj e h0 h1 h2=>?_,fun j hj h0=>?_,by rw [hpl];have:=h.yp;omega⟩
 ·by_cases e:j=i
  ·subst e;rw [up1];exact Int.le_refl _
  ·rw [up2 j e];exact h.le j hj
 ·by_cases e:j=i
  ·subst e;rw [up1];omega
  ·rw [up2 j e];exact h.lo j hj
 ·obtain ⟨e1,e2,e3,e4⟩:=ok.ed e he
  by_cases et:e.t=i
  ·rw [et,up1];obtain ⟨r1,r2⟩:=hr e he et
   have:e.f≠i:=by omega
   rw [up2 _ this];exact ⟨r1,r2⟩
  ·rw [up2 _ et] at ht ⊢;obtain ⟨r1,r2⟩:=h.ed e he ht
   have:e.f≠i:=fun e5=>by rw [e5] at r1;omega
   rw [up2 _ this];exact ⟨r1,r2⟩
 ·
  by_cases hq:bsy s (upd c i y) (s.cls j) z i=true
  ·have hone:busy s (upd c i y) (s.cls j) z=busy s c (s.cls j) z+1:=by
    refine cnt_one (k:=i) ?_ hq (fun m e=>?_) hi
    ·unfold bsy;simp;intro _ h5;omega
    ·unfold bsy;rw [up2 m e]
   unfold bsy at hq;simp only [Bool.and_eq_true,decide_eq_true_eq,up1] at hq;obtain ⟨q1,q2,q3,q4⟩:=hq;have hb:=hf (z-y).toNat (by rw [q1];omega);rw [show y+((z-y).toNat : Int)=z by omega,q1] at hb;omega
  ·have hsame:busy s (upd c i y) (s.cls j) z=busy s c (s.cls j) z:=by
    refine cnt_same fun m hm=>?_
    by_cases e:m=i
    ·subst e
     have:bsy s c (s.cls j) z m=false:=by unfold bsy;simp;intro _ h5;omega
     rw [this];simpa using hq
    ·unfold bsy;rw [up2 m e]
   rw [hsame];exact h.un j hj z
 ·
  have hw:Why s c j e:=by
   by_cases ej:j=i
   ·subst ej;exact h.why j hj e h0 h1 (.inl hc)
   ·rw [up2 j ej] at h2;exact h.why j hj e h0 h1 h2
  rcases hw with ⟨x,hx,x1,x2⟩|hw
  ·refine .inl ⟨x,hx,x1,?_⟩;obtain ⟨e1,e2,e3,e4⟩:=ok.ed x hx
   by_cases ef:x.f=i
   ·rw [ef,up1];right;omega
   ·rw [up2 _ ef];exact x2
  ·exact .inr (Nat.le_trans hw (busy_up hc y _ _))
 ·rw [hpl]
  by_cases e:j=i
  ·subst e;rw [up1];have:=h.yp;omega
  ·rw [up2 j e] at h0 ⊢;have:=h.mx j hj h0;omega
theorem inv_next {s:Sys} (ok:s.Ok) {c:Nat->Int} {y:Int} (h:Inv s c y) (hl:placed s c<s.n) (hno:∀ i,i<s.n->c i<0->¬ (Ready s c i y/\Free s c i y)):Inv s c (y+1):=by
 have hy:=h.y0;have hfull:∀ i,i<s.n->∀ k:Nat,s.u (s.cls i)<=busy s c (s.cls i) (y+k)->s.u (s.cls i)<=busy s c (s.cls i) y:=fun i hi k hk=>by
  refine Nat.le_trans hk (cnt_le fun j hj hb=>?_);unfold bsy at *;simp only [Bool.and_eq_true,decide_eq_true_eq] at hb ⊢
  have:=h.le j hj
  omega
 have hprog:y+1<=8*placed s c:=by
  rcases Int.lt_or_le (y+1) (8*placed s c+1) with h1|h1
  ·omega
  ·exfalso
   have hyp:=h.yp;have ey:y=8*placed s c:=by omega
   obtain ⟨i,hi,hi2,hi3⟩:=cnt_pos hl;have hci:c i<0:=by simpa using hi2
   have hall:∀ j,j<i->0<=c j:=fun j hj=>by simpa using hi3 j hj
   refine hno i hi hci ⟨fun e he et=>?_,fun k hk=>?_⟩
   ·obtain ⟨e1,e2,e3,e4⟩:=ok.ed e he;have h2:=hall e.f (by omega);have h3:=h.mx e.f (by omega) h2;exact ⟨h2,by omega⟩
   ·have:busy s c (s.cls i) (y+k)=0:=cnt_zero fun j hj=>by
     unfold bsy;have h4:=ok.b1 (s.cls i);have h5:=h.mx j hj;simp
     intro _ h6 _
     have:=h5 h6
     omega
    have:=ok.u1 i hi
    omega
 refine ⟨by omega,fun i hi=>by have:=h.le i hi;omega,h.lo,h.ed,h.un,fun i hi e h0 h1 h2=>?_,h.mx,hprog⟩
 by_cases e1:e<y
 ·exact h.why i hi e h0 e1 h2
 ·obtain rfl:e=y:=by omega
  have hci:c i<0:=by
   rcases h2 with h2|h2
   ·exact h2
   ·have:=h.le i hi;omega
  rcases Classical.em (Ready s c i e) with hr|hr
  ·have hf:¬ Free s c i e:=fun hf=>hno i hi hci ⟨hr,hf⟩;unfold Free at hf;rw [Classical.not_forall] at hf;obtain ⟨k,hk⟩:=hf;rw [Classical.not_imp] at hk;exact .inr (hfull i hi k (by omega))
  ·unfold Ready at hr;rw [Classical.not_forall] at hr;obtain ⟨x,hx⟩:=hr;rw [Classical.not_imp] at hx;obtain ⟨hx1,hx2⟩:=hx;rw [Classical.not_imp] at hx2;obtain ⟨hx2,hx3⟩:=hx2;refine .inl ⟨x,hx1,hx2,?_⟩;rcases Int.lt_or_le (c x.f) 0 with h5|h5
   ·exact .inl h5
   ·right
    rcases Int.lt_or_le e (c x.f+x.l) with h6|h6
    ·exact h6
    ·exact absurd ⟨h5,h6⟩ hx3
theorem inv_end {s:Sys} {c:Nat->Int} {y:Int} (h:Inv s c y) (hl:placed s c=s.n):(∀ i,i<s.n->0<=c i/\c i+8<=8*s.n)/\(∀ e∈s.es,e.f<s.n->e.t<s.n->c e.f+e.l<=c e.t)/\(∀ i,i<s.n->∀ z,busy s c (s.cls i) z<=s.u (s.cls i))/\∀ i,i<s.n->∀ e,0<=e->e<c i->Why s c i e:=by
 have hall:∀ i,i<s.n->0<=c i:=fun i hi=>by
  rcases Int.lt_or_le (c i) 0 with h1|h1
  ·exfalso
   have:placed s c<s.n:=by
    have t:∀ q,cnt (fun _=>true) q=q:=fun q=>by
     induction q with
     | zero=>rfl
     | succ q ih=>unfold cnt;rw [ih];simp
    have h2:=cnt_one (p:=fun j=>decide (0<=c j)&&decide (j≠i)) (q:=fun j=>decide (0<=c j) || decide (j=i)) (k:=i) (by simp) (by simp) (fun j hj=>by simp [hj]) hi;have h3:=cnt_le (p:=fun j=>decide (0<=c j)) (q:=fun j=>decide (0<=c j)&&decide (j≠i)) (n:=s.n) fun j _ hj=>by
     have hj:0<=c j:=by simpa using hj
     have:j≠i:=fun e=>by subst e;omega
     simp [hj,this]
    have h4:=cnt_le (p:=fun j=>decide (0<=c j) || decide (j=i)) (q:=fun _=>true) (n:=s.n) fun _ _ _=>rfl;rw [t] at h4;show cnt (fun j=>decide (0<=c j)) s.n<s.n;omega
   omega
  ·exact h1
 exact ⟨fun i hi=>⟨hall i hi,by have:=h.mx i hi (hall i hi);rw [hl] at this;exact this⟩,fun e he _ h2=>(h.ed e he (hall _ h2)).2,h.un,fun i hi e h0 h1=>h.why i hi e h0 (by have:=h.le i hi;omega) (.inr h1)⟩
def okB (s:Sys) (c:Nat->Int) (y:Int) (i:Nat):Bool:=decide (c i<0)&&((s.es.all fun e=>!decide (e.t=i) || (decide (0<=c e.f)&&decide (c e.f+e.l<=y)))&&(List.range (s.b (s.cls i))).all fun k=>decide (busy s c (s.cls i) (y+k)<s.u (s.cls i)))
theorem okB_iff (s:Sys) (c:Nat->Int) (y:Int) (i:Nat):okB s c y i=true↔c i<0/\Ready s c i y/\Free s c i y:=by
 unfold okB Ready Free;simp only [Bool.and_eq_true,decide_eq_true_eq,List.all_eq_true,Bool.or_eq_true,Bool.not_eq_true',decide_eq_false_iff_not,List.mem_range];constructor
 ·rintro ⟨h1,h2,h3⟩;refine ⟨h1,fun e he et=>?_,h3⟩;rcases h2 e he with h|h
  ·exact absurd et h
  ·exact h
 ·rintro ⟨h1,h2,h3⟩;refine ⟨h1,fun e he=>?_,h3⟩
  by_cases et:e.t=i
  ·exact .inr (h2 e he et)
  ·exact .inl et
def stp (s:Sys) (ord:List Nat) (x:(Nat->Int)×Int):(Nat->Int)×Int:=
 if placed s x.1<s.n then
  match ord.find? (okB s x.1 x.2) with
  | some i=>(upd x.1 i x.2,x.2)
  | none=>(x.1,x.2+1)
 else x
def way (s:Sys) (ord:List Nat):Nat->(Nat->Int)×Int
 | 0=>(fun _=>-1,0)
 | k+1=>stp s ord (way s ord k)
theorem placed_le (s:Sys) (c:Nat->Int):placed s c<=s.n:=by
 have t:∀ q,cnt (fun _=>true) q=q:=fun q=>by
  induction q with
  | zero=>rfl
  | succ q ih=>unfold cnt;rw [ih];simp
 have h:=cnt_le (p:=fun j=>decide (0<=c j)) (q:=fun _=>true) (n:=s.n) fun _ _ _=>rfl;rw [t] at h;exact h
theorem way_inv {s:Sys} (ok:s.Ok) {ord:List Nat} (ho:∀ i,i∈ord↔i<s.n):∀ k,Inv s (way s ord k).1 (way s ord k).2/\(placed s (way s ord k).1=s.n\/(k:Int)=placed s (way s ord k).1+(way s ord k).2)
 | 0=>by
  refine ⟨inv_start s,.inr ?_⟩
  have:placed s (way s ord 0).1=0:=cnt_zero fun i _=>by simp [way]
  rw [this];rfl
 | k+1=>by
  obtain ⟨h1,h2⟩:=way_inv ok ho k;show Inv s (stp s ord (way s ord k)).1 (stp s ord (way s ord k)).2/\_;have hw:way s ord (k+1)=stp s ord (way s ord k):=rfl;rw [hw];generalize way s ord k=x at *;obtain ⟨c,y⟩:=x;unfold stp
  by_cases hl:placed s c<s.n
  ·have h2:(k:Int)=placed s c+y:=by
    rcases h2 with h2|h2
    ·have h2:placed s c=s.n:=h2;omega
    ·exact h2
   simp only [hl,if_true]
   cases hp:ord.find? (okB s c y) with
   | none=>
    have hno:∀ i,i<s.n->c i<0->¬ (Ready s c i y/\Free s c i y):=fun i hi hc hrf=>by
     have:=List.find?_eq_none.1 hp i ((ho i).2 hi)
     exact this ((okB_iff s c y i).2 ⟨hc,hrf⟩)
    exact ⟨inv_next ok h1 hl hno,.inr (by show ((k+1:Nat):Int)=placed s c+(y+1);omega)⟩
   | some i=>
    have hi:=(ho i).1 (List.mem_of_find?_eq_some hp);obtain ⟨hc,hr,hf⟩:=(okB_iff s c y i).1 (List.find?_some hp);refine ⟨inv_place ok h1 hi hc hr hf,.inr ?_⟩;have hpl:placed s (upd c i y)=placed s c+1:=by
     have hy:0<=y:=h1.y0;refine cnt_one (k:=i) (by simp;omega) (by simp [upd,hy]) (fun j e=>by simp [upd,e]) hi
    show ((k+1:Nat):Int)=placed s (upd c i y)+y;rw [hpl];omega
  ·have he:placed s c=s.n:=by have:=placed_le s c;omega
   simp only [hl,if_false];exact ⟨h1,.inl he⟩
theorem way_ends {s:Sys} (ok:s.Ok) {ord:List Nat} (ho:∀ i,i∈ord↔i<s.n) {k:Nat} (hk:9*s.n<=k):placed s (way s ord k).1=s.n:=by
 obtain ⟨h1,h2⟩:=way_inv ok ho k;rcases h2 with h2|h2
 ·exact h2
 ·have h3:=h1.yp;have h4:=placed_le s (way s ord k).1;omega
theorem stp_done {s:Sys} {ord:List Nat} {x:(Nat->Int)×Int} (h:placed s x.1=s.n):stp s ord x=x:=by
 unfold stp;rw [if_neg (by omega)]
theorem way_stays {s:Sys} {ord:List Nat} {k:Nat} (h:placed s (way s ord k).1=s.n):∀ m,way s ord (k+m)=way s ord k
 | 0=>rfl
 | m+1=>by
  show stp s ord (way s ord (k+m))=_;rw [way_stays h m,stp_done h]
def sch (s:Sys) (ord:List Nat):Nat->Int:=(way s ord (9*s.n)).1
theorem sch_is {s:Sys} {ord:List Nat} (ok:s.Ok) (ho:∀ i,i∈ord↔i<s.n) {k:Nat} (h:placed s (way s ord k).1=s.n):(way s ord k).1=sch s ord:=by
 unfold sch;rcases Nat.le_total k (9*s.n) with h1|h1
 ·have e:way s ord (9*s.n)=way s ord k:=by
   have:∃ m,9*s.n=k+m:=⟨9*s.n-k,by omega⟩
   obtain ⟨m,hm⟩:=this;rw [hm];exact way_stays h m
  rw [e]
 ·obtain ⟨m,rfl⟩:∃ m,k=9*s.n+m:=⟨k-9*s.n,by omega⟩;rw [way_stays (way_ends ok ho (Nat.le_refl _)) m]
theorem busy_place {s:Sys} {c:Nat->Int} {i:Nat} (hi:i<s.n) (hc:c i<0) {y:Int} (hy:0<=y) (k:Nat) (z:Int):busy s (upd c i y) k z=busy s c k z+(if s.cls i=k/\y<=z/\z<y+s.b k then 1 else 0):=by
 have up1:upd c i y i=y:=if_pos rfl;have up2:∀ j,j≠i->upd c i y j=c j:=fun j e=>if_neg e;have hno:bsy s c k z i=false:=by unfold bsy;simp;intro _ h;omega
 by_cases h:s.cls i=k/\y<=z/\z<y+s.b k
 ·rw [if_pos h];refine cnt_one (k:=i) hno ?_ (fun j e=>by unfold bsy;rw [up2 j e]) hi;unfold bsy;rw [up1];simp only [Bool.and_eq_true,decide_eq_true_eq];exact ⟨h.1,hy,h.2⟩
 ·rw [if_neg h,Nat.add_zero];refine cnt_same fun j _=>?_
  by_cases e:j=i
  ·subst e;rw [hno]
   cases hb:bsy s (upd c j y) k z j
   ·rfl
   ·unfold bsy at hb;rw [up1] at hb;simp only [Bool.and_eq_true,decide_eq_true_eq] at hb;exact absurd ⟨hb.1,hb.2.2⟩ h
  ·unfold bsy;rw [up2 j e]
def hits (first cyc:Int):Nat->Int
 | 0=>0
 | k+1=>hits first cyc k+(if first+k=cyc then 1 else 0)
theorem hits_is (first cyc:Int):∀ k:Nat,hits first cyc k=if first<=cyc/\cyc<first+k then 1 else 0
 | 0=>by
  show (0:Int)=_;rw [if_neg (by omega)]
 | k+1=>by
  show hits first cyc k+_=_
  rw [hits_is first cyc k]
  by_cases h1:first+k=cyc
  ·rw [if_pos h1,if_neg (by omega),if_pos (by omega)];rfl
  ·rw [if_neg h1]
   by_cases h2:first<=cyc/\cyc<first+k
   ·rw [if_pos h2,if_pos (by omega)];rfl
   ·rw [if_neg h2,if_neg (by omega)];rfl
theorem free_is (s:Sys) (c:Nat->Int) (i:Nat) (y:Int):Free s c i y↔∀ k:Nat,k<s.b (s.cls i)->(busy s c (s.cls i) (y+k):Int)+hits y (y+k) (s.b (s.cls i))<=s.u (s.cls i):=by
 unfold Free;constructor
 ·intro h k hk
  have:=h k hk
  rw [hits_is,if_pos (by omega)];omega
 ·intro h k hk
  have:=h k hk
  rw [hits_is,if_pos (by omega)] at this;omega
theorem units_all {s:Sys} {c:Nat->Int} (h:∀ i,i<s.n->∀ k:Nat,k<s.b (s.cls i)->busy s c (s.cls i) (c i+k)<=s.u (s.cls i)):∀ i,i<s.n->∀ z,busy s c (s.cls i) z<=s.u (s.cls i):=fun i hi z=>by
 rcases Nat.eq_zero_or_pos (busy s c (s.cls i) z) with e|e
 ·omega
 ·obtain ⟨j,hj,hb⟩:∃ j,j<s.n/\bsy s c (s.cls i) z j=true:=by
   rcases Classical.em (∃ j,j<s.n/\bsy s c (s.cls i) z j=true) with h1|h1
   ·exact h1
   ·exfalso
    have:busy s c (s.cls i) z=0:=cnt_zero fun j hj=>by
     cases hb:bsy s c (s.cls i) z j
     ·rfl
     ·exact absurd ⟨j,hj,hb⟩ h1
    omega
  unfold bsy at hb;simp only [Bool.and_eq_true,decide_eq_true_eq] at hb;obtain ⟨b1,b2,b3,b4⟩:=hb
  have:=h j hj (z-c j).toNat (by rw [b1];omega)
  rw [b1,show c j+((z-c j).toNat : Int)=z by omega] at this;exact this
end Go.Proofs.YtcmlnemokckbdaaGreatDoor.ListWay
