/- Parts Lq Lr. -/
import Derived.Test.YtcmlnemokckbdaaGreatDoorN19
namespace Go.Proofs.YtcmlnemokckbdaaGreatDoor.ListWay
def WOk (s:Sys) (c W:Nat->Int):Prop:=∀ i,W i=((s.es.countP fun e=>decide (e.t=i)&&decide (c e.f<0):Nat):Int)
def FOk (s:Sys) (c F:Nat->Int):Prop:=∀ i y,F i<=y↔0<=y/\∀ e∈s.es,e.t=i->0<=c e.f->c e.f+e.l<=y
theorem ready_is {s:Sys} {c W F:Nat->Int} (hW:WOk s c W) (hF:FOk s c F) {i:Nat} {y:Int} (hy:0<=y):(W i=0/\F i<=y)↔Ready s c i y:=by
 unfold Ready;rw [hW i,hF i y];constructor
 ·rintro ⟨h1,-,h2⟩ e he et;have h3:s.es.countP (fun e=>decide (e.t=i)&&decide (c e.f<0))=0:=by omega
  have h4:=List.countP_eq_zero.1 h3 e he;have h5:0<=c e.f:=by
   simp only [Bool.and_eq_true,decide_eq_true_eq,not_and] at h4
   have:=h4 et
   omega
  exact ⟨h5,h2 e he et h5⟩
 ·intro h;refine ⟨?_,hy,fun e he et _=>(h e he et).2⟩
  have:s.es.countP (fun e=>decide (e.t=i)&&decide (c e.f<0))=0:=List.countP_eq_zero.2 fun e he h2=>by
   simp only [Bool.and_eq_true,decide_eq_true_eq] at h2
   have:=(h e he h2.1).1
   omega
  rw [this];rfl
theorem WOk.start (s:Sys):WOk s (fun _=>-1) (fun i=>((s.es.countP fun e=>decide (e.t=i):Nat):Int)):=fun i=>by
 show _=((s.es.countP fun e=>decide (e.t=i)&&decide ((-1:Int)<0):Nat):Int);simp
theorem FOk.start (s:Sys):FOk s (fun _=>-1) (fun _=>0):=fun i y=>by
 show (0:Int)<=y↔_;constructor
 ·intro h;exact ⟨h,fun e _ _ h2=>by have h2:(0:Int)≤-1:=h2;omega⟩
 ·exact fun h=>h.1
def plW (A:List Eg) (W:Nat->Int):Nat->Int:=A.foldl (fun W e=>upd W e.t (W e.t-1)) W
def plF (y:Int) (A:List Eg) (F:Nat->Int):Nat->Int:=A.foldl (fun F e=>upd F e.t (max (F e.t) (y+e.l))) F
theorem plW_take (A:List Eg) (W:Nat->Int) (k:Nat) (h:k<A.length):plW (A.take (k+1)) W=upd (plW (A.take k) W) A[k].t (plW (A.take k) W A[k].t-1):=by
 unfold plW;rw [List.take_succ_eq_append_getElem h,List.foldl_append];rfl
theorem plF_take (y:Int) (A:List Eg) (F:Nat->Int) (k:Nat) (h:k<A.length):plF y (A.take (k+1)) F=upd (plF y (A.take k) F) A[k].t (max (plF y (A.take k) F A[k].t) (y+A[k].l)):=by
 unfold plF;rw [List.take_succ_eq_append_getElem h,List.foldl_append];rfl
theorem plW_is (i:Nat):∀ (A:List Eg) (W:Nat->Int),plW A W i=W i-((A.countP fun e=>decide (e.t=i):Nat):Int)
 | [],W=>by simp [plW]
 | e::A,W=>by
  show plW A (upd W e.t (W e.t-1)) i=_;rw [plW_is i A,List.countP_cons];unfold upd
  by_cases h:e.t=i
  ·subst h;simp
   omega
  ·rw [if_neg (fun e2=>h e2.symm)];simp [h]
theorem plF_is (y:Int) (i:Nat) (z:Int):∀ (A:List Eg) (F:Nat->Int),plF y A F i<=z↔F i<=z/\∀ e∈A,e.t=i->y+e.l<=z
 | [],F=>by simp [plF]
 | e::A,F=>by
  show plF y A (upd F e.t (max (F e.t) (y+e.l))) i<=z↔_;rw [plF_is y i z A];unfold upd
  by_cases h:i=e.t
  ·subst h;rw [if_pos rfl];constructor
   ·rintro ⟨h1,h2⟩;refine ⟨by omega,fun x hx ht=>?_⟩;rcases List.mem_cons.1 hx with rfl|hx
    ·omega
    ·exact h2 x hx ht
   ·rintro ⟨h1,h2⟩
    have:=h2 e (List.mem_cons_self ..) rfl
    exact ⟨by omega,fun x hx ht=>h2 x (List.mem_cons_of_mem _ hx) ht⟩
  ·rw [if_neg h];constructor
   ·rintro ⟨h1,h2⟩;refine ⟨h1,fun x hx ht=>?_⟩;rcases List.mem_cons.1 hx with rfl|hx
    ·exact absurd ht.symm h
    ·exact h2 x hx ht
   ·rintro ⟨h1,h2⟩;exact ⟨h1,fun x hx ht=>h2 x (List.mem_cons_of_mem _ hx) ht⟩
theorem cp_split (c:Nat->Int) (n i:Nat) (y:Int) (hc:c n<0) (hy:0<=y):∀ es:List Eg,(es.countP fun e=>decide (e.t=i)&&decide (c e.f<0))=(es.countP fun e=>decide (e.t=i)&&decide (upd c n y e.f<0))+((es.filter fun e=>decide (e.f=n)).countP fun e=>decide (e.t=i))
 | []=>rfl
 | e::es=>by
  have ih:=cp_split c n i y hc hy es;rw [List.countP_cons,List.countP_cons,List.filter_cons,ih];have e1:upd c n y n=y:=if_pos rfl;have hy':¬ y<0:=by omega
  by_cases h1:e.f=n
  ·simp only [h1,decide_true,if_true,List.countP_cons,hc,e1,hy']
   by_cases h2:e.t=i
   ·simp [h2];omega
   ·simp [h2]
  ·have e2:upd c n y e.f=c e.f:=if_neg h1;simp only [h1,decide_false,e2]
   by_cases h2:e.t=i
   ·by_cases h3:c e.f<0
    ·simp [h2,h3];omega
    ·simp [h2,h3]
   ·simp [h2]
theorem WOk.place {s:Sys} {c W:Nat->Int} (h:WOk s c W) {n:Nat} {y:Int} (hc:c n<0) (hy:0<=y):WOk s (upd c n y) (plW (s.es.filter fun e=>decide (e.f=n)) W):=fun i=>by
 rw [plW_is,h i,cp_split c n i y hc hy];omega
theorem FOk.place {s:Sys} {c F:Nat->Int} (h:FOk s c F) {n:Nat} {y:Int} (hc:c n<0) (hy:0<=y):FOk s (upd c n y) (plF y (s.es.filter fun e=>decide (e.f=n)) F):=fun i z=>by
 rw [plF_is,h i z];unfold upd;constructor
 ·rintro ⟨⟨h1,h2⟩,h3⟩;refine ⟨h1,fun e he et h4=>?_⟩
  by_cases hn:e.f=n
  ·rw [if_pos hn];exact h3 e (List.mem_filter.2 ⟨he,by simpa using hn⟩) et
  ·rw [if_neg hn] at h4 ⊢;exact h2 e he et h4
 ·rintro ⟨h1,h2⟩;refine ⟨⟨h1,fun e he et h4=>?_⟩,fun e he et=>?_⟩
  ·have hn:e.f≠n:=fun e2=>by rw [e2] at h4;omega
   have:=h2 e he et (by rw [if_neg hn];exact h4)
   rw [if_neg hn] at this;exact this
  ·obtain ⟨h5,h6⟩:=List.mem_filter.1 he;have hn:e.f=n:=by simpa using h6
   have:=h2 e h5 et (by rw [if_pos hn];exact hy)
   rw [if_pos hn] at this;exact this
theorem WOk.in {s:Sys} {c W:Nat->Int} (h:WOk s c W) (i:Nat):0<=W i/\W i<=s.es.length:=by
 rw [h i]
 have:=List.countP_le_length (p:=fun e:Eg=>decide (e.t=i)&&decide (c e.f<0)) (l:=s.es)
 omega
def OnWay (s:Sys) (ord:List Nat) (c:Nat->Int) (y:Int):Prop:=∃ k,way s ord k=(c,y)
theorem OnWay.start (s:Sys) (ord:List Nat):OnWay s ord (fun _=>-1) 0:=⟨0,rfl⟩
theorem OnWay.inv {s:Sys} {ord:List Nat} {c:Nat->Int} {y:Int} (h:OnWay s ord c y) (ok:s.Ok) (ho:∀ i,i∈ord↔i<s.n):Inv s c y:=by
 obtain ⟨k,hk⟩:=h
 have:=(way_inv ok ho k).1
 rw [hk] at this;exact this
theorem cnt_lt {p:Nat->Bool} {i:Nat} (hp:p i=false):∀ {n:Nat},i<n->cnt p n<n
 | 0,h=>by omega
 | n+1,h=>by
  unfold cnt
  by_cases e:i=n
  ·subst e;rw [hp];have t:∀ q,cnt p q<=q:=fun q=>by
    induction q with
    | zero=>exact Nat.le_refl _
    | succ q ih=>unfold cnt;split <;> omega
   have:=t i
   simp
   omega
  ·have:=cnt_lt (n:=n) hp (by omega)
   split <;> omega
theorem placed_lt {s:Sys} {c:Nat->Int} {i:Nat} (hi:i<s.n) (hc:c i<0):placed s c<s.n:=cnt_lt (i:=i) (by simp;omega) hi
theorem placed_all {s:Sys} {c:Nat->Int} (h:∀ i,i<s.n->0<=c i):placed s c=s.n:=by
 have h1:=placed_le s c;rcases Nat.lt_or_ge (placed s c) s.n with h2|h2
 ·obtain ⟨i,hi,hp,-⟩:=cnt_pos h2
  have:=h i hi
  simp at hp
  omega
 ·omega
theorem placed_upd {s:Sys} {c:Nat->Int} {i:Nat} {y:Int} (hi:i<s.n) (hc:c i<0) (hy:0<=y):placed s (upd c i y)=placed s c+1:=
 cnt_one (k:=i) (by simp;omega) (by simp [upd,hy]) (fun j e=>by simp [upd,e]) hi
theorem OnWay.place {s:Sys} {ord:List Nat} {c:Nat->Int} {y:Int} (h:OnWay s ord c y) (ho:∀ i,i∈ord↔i<s.n) {i:Nat} (hf:ord.find? (okB s c y)=some i):OnWay s ord (upd c i y) y:=by
 obtain ⟨k,hk⟩:=h;refine ⟨k+1,?_⟩;show stp s ord (way s ord k)=_;rw [hk];unfold stp;have hl:placed s c<s.n:=placed_lt ((ho i).1 (List.mem_of_find?_eq_some hf)) ((okB_iff s c y i).1 (List.find?_some hf)).1;simp only [hl,if_true,hf]
theorem OnWay.next {s:Sys} {ord:List Nat} {c:Nat->Int} {y:Int} (h:OnWay s ord c y) (hl:placed s c<s.n) (hf:ord.find? (okB s c y)=none):OnWay s ord c (y+1):=by
 obtain ⟨k,hk⟩:=h;refine ⟨k+1,?_⟩;show stp s ord (way s ord k)=_;rw [hk];unfold stp;simp only [hl,if_true,hf]
theorem OnWay.done {s:Sys} {ord:List Nat} {c:Nat->Int} {y:Int} (h:OnWay s ord c y) (ok:s.Ok) (ho:∀ i,i∈ord↔i<s.n) (hl:placed s c=s.n):c=sch s ord:=by
 obtain ⟨k,hk⟩:=h;have h1:(way s ord k).1=c:=by rw [hk]
 rw [<- h1] at hl ⊢;exact sch_is ok ho hl
def lft (ord:List Nat) (c:Nat->Int):List Nat:=ord.filter fun i=>decide (c i<0)
theorem lft_start (ord:List Nat):lft ord (fun _=>-1)=ord:=by
 unfold lft;rw [List.filter_eq_self];intro i _;rfl
theorem lft_all {s:Sys} {ord:List Nat} {c:Nat->Int} (ho:∀ i,i∈ord↔i<s.n) (h:lft ord c=[]):placed s c=s.n:=placed_all fun i hi=>by
 have:=List.filter_eq_nil_iff.1 h i ((ho i).2 hi)
 simp at this
 exact this
theorem lft_lt {s:Sys} {ord:List Nat} {c:Nat->Int} (ho:∀ i,i∈ord↔i<s.n) (h:lft ord c≠[]):placed s c<s.n:=by
 obtain ⟨i,hi⟩:=List.exists_mem_of_ne_nil _ h;obtain ⟨h1,h2⟩:=List.mem_filter.1 hi;exact placed_lt ((ho i).1 h1) (by simpa using h2)
def rfB (s:Sys) (c:Nat->Int) (y:Int) (i:Nat):Bool:=(s.es.all fun e=>!decide (e.t=i) || (decide (0<=c e.f)&&decide (c e.f+e.l<=y)))&&(List.range (s.b (s.cls i))).all fun k=>decide (busy s c (s.cls i) (y+k)<s.u (s.cls i))
theorem rfB_iff (s:Sys) (c:Nat->Int) (y:Int) (i:Nat):rfB s c y i=true↔Ready s c i y/\Free s c i y:=by
 unfold rfB Ready Free;simp only [Bool.and_eq_true,decide_eq_true_eq,List.all_eq_true,Bool.or_eq_true,Bool.not_eq_true',decide_eq_false_iff_not,List.mem_range];constructor
 ·rintro ⟨h2,h3⟩;refine ⟨fun e he et=>?_,h3⟩;rcases h2 e he with h|h
  ·exact absurd et h
  ·exact h
 ·rintro ⟨h2,h3⟩;refine ⟨fun e he=>?_,h3⟩
  by_cases et:e.t=i
  ·exact .inr (h2 e he et)
  ·exact .inl et
theorem find_lft (s:Sys) (ord:List Nat) (c:Nat->Int) (y:Int):ord.find? (okB s c y)=(lft ord c).find? (rfB s c y):=by
 unfold lft;rw [List.find?_filter]
 congr 1
 funext a
 unfold okB rfB;rw [Bool.eq_iff_iff];simp only [Bool.and_eq_true,decide_eq_true_eq]
theorem find_first {p:Nat->Bool} : ∀ {L:List Nat} {k:Nat} (h:k<L.length),p L[k]=true->(∀ j (hj:j<k),p (L[j]'(by omega))=false)->L.find? p=some L[k]
 | [],k,h,_,_=>by simp at h
 | x::L,0,_,hp,_=>by
  have hp:p x=true:=hp;show (x::L).find? p=some x;rw [List.find?_cons,hp]
 | x::L,k+1,h,hp,hn=>by
  have h0:p x=false:=hn 0 (by omega);rw [List.find?_cons,h0];exact find_first (L:=L) (by simpa using h) hp fun j hj=>hn (j+1) (by omega)
theorem find_not {p:Nat->Bool} {L:List Nat} (h:∀ j (hj:j<L.length),p L[j]=false):L.find? p=none:=List.find?_eq_none.2 fun x hx=>by
 obtain ⟨j,hj,rfl⟩:=List.getElem_of_mem hx;rw [h j hj];exact Bool.false_ne_true
theorem lft_nodup {ord:List Nat} (hd:ord.Nodup) (c:Nat->Int):(lft ord c).Nodup:=List.filter_sublist.nodup hd
theorem filter_ne_idx {i:Nat} : ∀ {L:List Nat} {k:Nat} (h:k<L.length),L.Nodup->L[k]=i->L.filter (fun j=>decide (j≠i))=L.eraseIdx k
 | [],k,h,_,_=>by simp at h
 | x::L,0,_,hd,he=>by
  have he:x=i:=he;subst he;rw [List.filter_cons,List.eraseIdx_cons_zero];simp only [ne_eq,not_true_eq_false,decide_false];rw [if_neg (by decide),List.filter_eq_self];intro j hj
  have:=(List.nodup_cons.1 hd).1
  simp
  intro e;exact this (e ▸ hj)
 | x::L,k+1,h,hd,he=>by
  have he:L[k]'(by simpa using h)=i:=he;obtain ⟨h1,h2⟩:=List.nodup_cons.1 hd;have hx:x≠i:=fun e=>h1 (by rw [e,<- he];exact List.getElem_mem _);rw [List.filter_cons,List.eraseIdx_cons_succ,if_pos (by simpa using hx),filter_ne_idx (by simpa using h) h2 he]
theorem lft_place {ord:List Nat} (hd:ord.Nodup) {c:Nat->Int} {k:Nat} (h:k<(lft ord c).length) {y:Int} (hy:0<=y):lft ord (upd c (lft ord c)[k] y)=(lft ord c).eraseIdx k:=by
 rw [<- filter_ne_idx h (lft_nodup hd c) rfl];obtain ⟨i,hi⟩:∃ i,(lft ord c)[k]=i:=⟨_,rfl⟩;rw [hi];unfold lft;rw [List.filter_filter];refine List.filter_congr fun j _=>?_;unfold upd
 by_cases e:j=i
 ·subst e;simp;omega
 ·simp [e]
theorem lft_mem {ord:List Nat} {c:Nat->Int} {k:Nat} (h:k<(lft ord c).length):(lft ord c)[k]∈ord/\c (lft ord c)[k]<0:=by
 obtain ⟨h1,h2⟩:=List.mem_filter.1 (List.getElem_mem h);exact ⟨h1,by simpa using h2⟩
def cntF (s:Sys) (c:Nat->Int):Int->Int->Int:=fun a b=>if 0<=a then (busy s c a.toNat b:Int) else 0
theorem busy_none (s:Sys) {c:Nat->Int} (h:∀ i,i<s.n->c i<0) (k:Nat) (z:Int):busy s c k z=0:=cnt_zero fun j hj=>by
 have:=h j hj
 unfold bsy;simp
 intro _ h2;omega
theorem cntF_start (s:Sys):cntF s (fun _=>-1)=fun _ _=>0:=by
 funext a b
 unfold cntF;rw [busy_none s (fun _ _=>by decide)]
 split <;> rfl
theorem cntF_at (s:Sys) (c:Nat->Int) (k:Nat) (z:Int):cntF s c (k:Int) z=(busy s c k z:Int):=by
 unfold cntF;rw [if_pos (by omega)];rfl
theorem cntF_place {s:Sys} {c:Nat->Int} {i:Nat} (hi:i<s.n) (hc:c i<0) {y:Int} (hy:0<=y):(fun a b=>if a=(s.cls i:Int) then cntF s c a b+hits y b (s.b (s.cls i)) else cntF s c a b)=cntF s (upd c i y):=by
 funext a b
 by_cases h:a=(s.cls i:Int)
 ·subst h;rw [if_pos rfl,cntF_at,cntF_at,busy_place hi hc hy,hits_is]
  by_cases h2:y<=b/\b<y+(s.b (s.cls i):Int)
  ·rw [if_pos h2,if_pos ⟨rfl,h2⟩];omega
  ·rw [if_neg h2,if_neg (fun h3=>h2 h3.2)];omega
 ·rw [if_neg h];unfold cntF
  by_cases h0:0<=a
  ·rw [if_pos h0,if_pos h0,busy_place hi hc hy,if_neg (fun h3=>h (by omega))];rfl
  ·rw [if_neg h0,if_neg h0]
theorem free_all (s:Sys) (c:Nat->Int) (i:Nat) (y:Int):((List.range (s.b (s.cls i))).all fun k=>decide (cntF s c (s.cls i:Int) (y+(k:Nat))+hits y (y+(k:Nat)) (s.b (s.cls i))<=(s.u (s.cls i):Int)))=true↔Free s c i y:=by
 rw [free_is,List.all_eq_true];constructor
 ·intro h k hk
  have:=h k (List.mem_range.2 hk)
  rw [cntF_at] at this;simpa using this
 ·intro h k hk
  have:=h k (List.mem_range.1 hk)
  rw [cntF_at];simpa using this
def cut (c:Nat->Int) (m:Nat):Nat->Int:=fun i=>if i<m then c i else -1
theorem cut_0 (c:Nat->Int):cut c 0=fun _=>-1:=by
 funext i
 unfold cut;rw [if_neg (by omega)]
theorem cut_next (c:Nat->Int) (m:Nat):cut c (m+1)=upd (cut c m) m (c m):=by
 funext i
 unfold cut upd
 by_cases e:i=m
 ·subst e;rw [if_pos (by omega),if_pos rfl]
 ·rw [if_neg e]
  by_cases e2:i<m
  ·rw [if_pos (by omega)];exact (if_pos e2).symm
  ·rw [if_neg (by omega)];exact (if_neg e2).symm
theorem cut_neg (c:Nat->Int) (m:Nat):cut c m m<0:=by unfold cut;rw [if_neg (by omega)];decide
theorem busy_same {s:Sys} {c d:Nat->Int} (h:∀ i,i<s.n->c i=d i) (k:Nat) (z:Int):busy s c k z=busy s d k z:=cnt_same fun i hi=>by unfold bsy;rw [h i hi]
theorem busy_cut (s:Sys) (c:Nat->Int) (k:Nat) (z:Int):busy s (cut c s.n) k z=busy s c k z:=busy_same (fun i hi=>by unfold cut;rw [if_pos hi]) k z
theorem busy_cut_le (s:Sys) (c:Nat->Int) (m k:Nat) (z:Int):busy s (cut c m) k z<=busy s c k z:=cnt_le fun i _ h=>by
 unfold bsy at *;simp only [Bool.and_eq_true,decide_eq_true_eq] at h ⊢;unfold cut at h
 by_cases e:i<m
 ·rw [if_pos e] at h;exact h
 ·rw [if_neg e] at h;omega
theorem taken_units {s:Sys} {c:Nat->Int} (h0:∀ i,i<s.n->0<=c i) (h:∀ m,m<s.n->Free s (cut c m) m (c m)):∀ m,m<=s.n->∀ i,i<s.n->∀ z,busy s (cut c m) (s.cls i) z<=s.u (s.cls i)
 | 0,_,i,_,z=>by
  rw [cut_0,busy_none s (fun _ _=>by decide)];omega
 | m+1,hm,i,hi,z=>by
  have ih:=taken_units h0 h m (by omega) i hi z;rw [cut_next,busy_place (by omega) (cut_neg c m) (h0 m (by omega))]
  by_cases h2:s.cls m=s.cls i/\c m<=z/\z<c m+s.b (s.cls i)
  ·rw [if_pos h2];obtain ⟨q1,q2,q3⟩:=h2
   have:=h m (by omega) (z-c m).toNat (by rw [q1];omega)
   rw [q1,show c m+((z-c m).toNat : Int)=z by omega] at this;omega
  ·rw [if_neg h2];omega
theorem units_taken {s:Sys} {c:Nat->Int} (h0:∀ i,i<s.n->0<=c i) (h:∀ i,i<s.n->∀ z,busy s c (s.cls i) z<=s.u (s.cls i)) {m:Nat} (hm:m<s.n):Free s (cut c m) m (c m):=fun k hk=>by
 have h1:=h m hm (c m+k);have h2:=busy_cut_le s c (m+1) (s.cls m) (c m+k);rw [cut_next,busy_place hm (cut_neg c m) (h0 m hm),if_pos ⟨rfl,by omega,by omega⟩] at h2;omega
theorem taken_iff {s:Sys} {c:Nat->Int} (h0:∀ i,i<s.n->0<=c i):(∀ m,m<s.n->Free s (cut c m) m (c m))↔∀ i,i<s.n->∀ k:Nat,k<s.b (s.cls i)->busy s c (s.cls i) (c i+k)<=s.u (s.cls i):=by
 constructor
 ·intro h i hi k _
  have:=taken_units h0 h s.n (Nat.le_refl _) i hi (c i+k)
  rw [busy_cut] at this;exact this
 ·intro h m hm;exact units_taken h0 (units_all h) hm
end Go.Proofs.YtcmlnemokckbdaaGreatDoor.ListWay
