/- Parts QLv QLw QLx QFw. -/
namespace Go.Proofs.YtcmlnemokckbdaaGreatDoor.L8.Lv
structure W where
 rd:List Nat
 wr:Option Nat
def aheadO (o:W) (X:Nat->Bool) (r:Nat):Bool:=o.rd.contains r || (X r&&o.wr != some r)
def aheadL:List W->(Nat->Bool)->Nat->Bool
 | [],X=>X
 | o::l,X=>aheadO o (aheadL l X)
def gen:List W->Nat->Bool
 | [],_=>false
 | o::l,r=>o.rd.contains r || (gen l r&&o.wr != some r)
def keep (l:List W) (r:Nat):Bool:=l.all fun o=>o.wr != some r
theorem aheadL_eq (l:List W) (X:Nat->Bool) (r:Nat):aheadL l X r=(gen l r || (X r&&keep l r)):=by
 induction l with
 | nil=>simp [aheadL,gen,keep]
 | cons o l ih=>
  simp only [aheadL,aheadO,gen,ih,keep,List.all_cons]
  cases o.rd.contains r <;> cases gen l r <;> cases X r <;> cases o.wr != some r <;> simp
inductive E where
 | jump (t:Nat)
 | branch (a t e:Nat)
 | halt (a:Nat)
 | loop (a t:Nat)
structure B where
 ops:List W
 body:List W
 e:E
def E.succ:E->List Nat
 | .jump t=>[t]
 | .branch _ t e=>[t,e]
 | .halt _=>[]
 | .loop _ t=>[t]
def E.own:E->Nat->Bool
 | .jump _,_=>false
 | .branch a _ _,r=>r==a
 | .halt a,r=>r==a
 | .loop a _,r=>r==a
def E.isLoop:E->Bool
 | .loop _ _=>true
 | _=>false
def loopX (body:List W) (X:Nat->Bool) (r:Nat):Bool:=X r || gen body r
theorem loop_first (body:List W) (X:Nat->Bool) (r:Nat):(X r || aheadL body X r)=loopX body X r:=by
 rw [aheadL_eq,loopX];cases X r <;> cases gen body r <;> simp
def aheadE (b:B) (inn:Nat->Nat->Bool) (r:Nat):Bool:=
 match b.e with
 | .jump t=>inn t r
 | .branch a t e=>r==a || inn t r || inn e r
 | .halt a=>r==a
 | .loop a t=>r==a || loopX b.body (inn t) r
def into (b:B) (inn:Nat->Nat->Bool) (r:Nat):Bool:=aheadL b.ops (aheadE b inn) r
def endGen (b:B) (r:Nat):Bool:=b.e.own r || (b.e.isLoop&&gen b.body r)
theorem aheadE_iff (b:B) (inn:Nat->Nat->Bool) (r:Nat):aheadE b inn r=true↔endGen b r=true\/∃ t∈b.e.succ,inn t r=true:=by
 cases h:b.e <;> simp [aheadE,endGen,h,E.own,E.isLoop,E.succ,loopX,or_comm,or_left_comm]
theorem into_iff (b:B) (inn:Nat->Nat->Bool) (r:Nat):into b inn r=true↔gen b.ops r=true\/keep b.ops r=true/\(endGen b r=true\/∃ t∈b.e.succ,inn t r=true):=by
 rw [into,aheadL_eq,Bool.or_eq_true,Bool.and_eq_true,aheadE_iff];constructor
 ·rintro (h|⟨h,g⟩)
  ·exact .inl h
  ·exact .inr ⟨g,h⟩
 ·rintro (h|⟨h,g⟩)
  ·exact .inl h
  ·exact .inr ⟨g,h⟩
inductive Live (P:List B) (r:Nat):Nat->Prop
 | here {b:Nat} {k:B} : P[b]?=some k->(gen k.ops r=true\/keep k.ops r=true/\endGen k r=true)->Live P r b
 | step {b t:Nat} {k:B} : P[b]?=some k->keep k.ops r=true->t∈k.e.succ->Live P r t->Live P r b
theorem Live.sound {P:List B} {r b:Nat} {k:B} {inn:Nat->Nat->Bool} (h:∀ t,inn t r=true->Live P r t) (hk:P[b]?=some k) (hi:into k inn r=true):Live P r b:=by
 rcases (into_iff k inn r).1 hi with g|⟨g,g' | ⟨t,ht,g'⟩⟩
 ·exact .here hk (.inl g)
 ·exact .here hk (.inr ⟨g,g'⟩)
 ·exact .step hk g ht (h t g')
theorem Live.least {P:List B} {r b:Nat} {inn:Nat->Nat->Bool} (hc:∀ b k,P[b]?=some k->into k inn r=true->inn b r=true) (h:Live P r b):inn b r=true:=by
 induction h with
 | here hk h=>exact hc _ _ hk ((into_iff _ _ _).2 (h.imp id fun h=>⟨h.1,.inl h.2⟩))
 | step hk h ht _ ih=>exact hc _ _ hk ((into_iff _ _ _).2 (.inr ⟨h,.inr ⟨_,ht,ih⟩⟩))
theorem live_iff {P:List B} {r:Nat} {inn:Nat->Nat->Bool} (h:∀ t,inn t r=true->Live P r t) (hc:∀ b k,P[b]?=some k->into k inn r=true->inn b r=true) (b:Nat):inn b r=true↔Live P r b:=
 ⟨h b,Live.least hc⟩
structure Pc where
 b:Nat
 part:Nat
 op:Nat
deriving DecidableEq
def listOf (k:B) (part:Nat):List W:=if part=2 then k.body else k.ops
def nextE (b:Nat):E->List Pc
 | .jump t=>[⟨t,0,0⟩]
 | .branch _ t e=>[⟨t,0,0⟩,⟨e,0,0⟩]
 | .halt _=>[]
 | .loop _ t=>[⟨b,2,0⟩,⟨t,0,0⟩]
def next (k:B) (x:Pc):List Pc:=
 if x.part=0\/x.part=2 then (if x.op<(listOf k x.part).length then [⟨x.b,x.part,x.op+1⟩] else [⟨x.b,x.part+1,0⟩]) else nextE x.b k.e
def readAt (k:B) (x:Pc) (r:Nat):Bool:=
 if x.part=0\/x.part=2 then (match (listOf k x.part)[x.op]? with|some o=>o.rd.contains r|none=>false) else (x.part==1&&k.e.own r)
def wroteAt (k:B) (x:Pc) (r:Nat):Bool:=
 if x.part=0\/x.part=2 then (match (listOf k x.part)[x.op]? with|some o=>o.wr==some r|none=>false) else false
inductive At (P:List B) (r:Nat):Pc->Prop
 | read {x:Pc} {k:B} : P[x.b]?=some k->readAt k x r=true->At P r x
 | step {x y:Pc} {k:B} : P[x.b]?=some k->wroteAt k x r=false->y∈next k x->At P r y->At P r x
structure Bf (P:List B) (r:Nat) (st:Pc) (seen:List Pc) (i:Nat):Prop where
 le:i<=seen.length
 has:st∈seen
 ok:∀ x∈seen,At P r x->At P r st
 cl:∀ j,j<i->∀ x,seen[j]?=some x->∀ k,P[x.b]?=some k->readAt k x r=false/\(wroteAt k x r=false->∀ y∈next k x,y∈seen)
theorem Bf.init (P:List B) (r:Nat) (st:Pc):Bf P r st [st] 0:=
 ⟨by simp,by simp,fun x hx h=>by simp at hx;exact hx ▸ h,fun j hj=>by omega⟩
theorem Bf.turn {P:List B} {r i:Nat} {st x:Pc} {seen:List Pc} {k:B} (h:Bf P r st seen i) (hx:seen[i]?=some x) (hk:P[x.b]?=some k) (hr:readAt k x r=false) (hn:wroteAt k x r=false->∀ y∈next k x,y∈seen):Bf P r st seen (i+1):=
 ⟨(List.getElem?_eq_some_iff.1 hx).1,h.has,h.ok,fun j hj z hz k' hk'=>by
  rcases Nat.lt_or_ge j i with g|g
  ·exact h.cl j g z hz k' hk'
  ·obtain rfl:j=i:=by omega
   rw [hx] at hz;cases hz;rw [hk] at hk';cases hk';exact ⟨hr,hn⟩⟩
theorem Bf.done {P:List B} {r:Nat} {st:Pc} {seen:List Pc} (h:Bf P r st seen seen.length):¬ At P r st:=fun hA=>by
 have key:∀ x,At P r x->x ∉ seen:=fun x hx=>by
  induction hx with
  | @read x k hk hr=>
   intro hm;obtain ⟨j,hj,e⟩:=List.getElem_of_mem hm
   have:=(h.cl j hj x (by rw [List.getElem?_eq_getElem hj,e]) k hk).1
   rw [hr] at this;cases this
  | @step x y k hk hw hy _ ih=>
   intro hm;obtain ⟨j,hj,e⟩:=List.getElem_of_mem hm;exact ih ((h.cl j hj x (by rw [List.getElem?_eq_getElem hj,e]) k hk).2 hw y hy)
 exact key st hA h.has
def clr (x d:Nat):Nat:=x &&& (4294967295-2^d)
def put (x d:Nat):Nat:=x ||| 2^d
theorem bit32 {x i:Nat} (h:x<4294967296) (hi:32<=i):x.testBit i=false:=
 Nat.testBit_lt_two_pow (Nat.lt_of_lt_of_le (show x<2^32 from h) (Nat.pow_le_pow_right (n:=2) (by decide) hi))
theorem pow32 {d:Nat} (h:d<32):2^d<4294967296:=Nat.pow_lt_pow_right (a:=2) (n:=32) (by decide) h
theorem put_bit (x d i:Nat):(put x d).testBit i=(x.testBit i || decide (d=i)):=by
 rw [put,Nat.testBit_or,Nat.testBit_two_pow]
theorem clr_bit {x d:Nat} (hx:x<4294967296) (hd:d<32) (i:Nat):(clr x d).testBit i=(x.testBit i && !decide (d=i)):=by
 have hm:=pow32 hd;rw [clr,Nat.testBit_and,show 4294967295-2^d=2^32-(2^d+1) by omega,Nat.testBit_two_pow_sub_succ hm,Nat.testBit_two_pow]
 by_cases hi:i<32
 ·simp [hi]
 ·simp [bit32 hx (by omega:32<=i)]
theorem put_lt {x d:Nat} (hx:x<4294967296) (hd:d<32):put x d<4294967296:=Nat.or_lt_two_pow (n:=32) hx (pow32 hd)
theorem clr_lt {x:Nat} (d:Nat) (hx:x<4294967296):clr x d<4294967296:=Nat.lt_of_le_of_lt Nat.and_le_left hx
def Small (o:W):Prop:=(∀ r∈o.rd,r<32)/\∀ d,o.wr=some d->d<32
def wipe (o:W) (x:Nat):Nat:=match o.wr with
 | some d=>clr x d
 | none=>x
def aheadN (o:W) (x:Nat):Nat:=o.rd.foldl put (wipe o x)
def aheadNL:List W->Nat->Nat
 | [],x=>x
 | o::l,x=>aheadN o (aheadNL l x)
theorem wipe_lt {o:W} {x:Nat} (hx:x<4294967296):wipe o x<4294967296:=by
 unfold wipe;split
 ·exact clr_lt _ hx
 ·exact hx
theorem fold_bit (l:List Nat) (x i:Nat):(l.foldl put x).testBit i=(x.testBit i || l.contains i):=by
 induction l generalizing x with
 | nil=>simp
 | cons a l ih=>
  rw [List.foldl_cons,ih,put_bit,List.contains_cons,Bool.or_assoc]
  congr 2
  rw [Bool.eq_iff_iff,decide_eq_true_iff,beq_iff_eq];exact eq_comm
theorem fold_lt {l:List Nat} {x:Nat} (hx:x<4294967296) (hl:∀ r∈l,r<32):l.foldl put x<4294967296:=by
 induction l generalizing x with
 | nil=>exact hx
 | cons a l ih=>exact ih (put_lt hx (hl a List.mem_cons_self)) fun r hr=>hl r (List.mem_cons_of_mem _ hr)
theorem wipe_bit {o:W} {x:Nat} (hx:x<4294967296) (ho:Small o) (i:Nat):(wipe o x).testBit i=(x.testBit i&&o.wr != some i):=by
 unfold wipe
 cases h:o.wr with
 | none=>simp
 | some d=>
  dsimp only;rw [clr_bit hx (ho.2 d h)]
  congr 1
theorem aheadN_bit {o:W} {x:Nat} (hx:x<4294967296) (ho:Small o) (i:Nat):(aheadN o x).testBit i=aheadO o x.testBit i:=by
 rw [aheadN,fold_bit,wipe_bit hx ho,aheadO,Bool.or_comm]
theorem aheadN_lt {o:W} {x:Nat} (hx:x<4294967296) (ho:Small o):aheadN o x<4294967296:=fold_lt (wipe_lt hx) ho.1
theorem aheadNL_lt {l:List W} {x:Nat} (hx:x<4294967296) (hl:∀ o∈l,Small o):aheadNL l x<4294967296:=by
 induction l with
 | nil=>exact hx
 | cons o l ih=>exact aheadN_lt (ih fun o ho=>hl o (List.mem_cons_of_mem _ ho)) (hl o List.mem_cons_self)
theorem aheadNL_bit {l:List W} {x:Nat} (hx:x<4294967296) (hl:∀ o∈l,Small o) (i:Nat):(aheadNL l x).testBit i=aheadL l x.testBit i:=by
 induction l generalizing i with
 | nil=>rfl
 | cons o l ih=>
  have hs:=fun o ho=>hl o (List.mem_cons_of_mem _ ho);rw [aheadNL,aheadN_bit (aheadNL_lt hx hs) (hl o List.mem_cons_self),aheadL];simp only [aheadO,ih hs]
def loopN (body:List W) (x:Nat):Nat:=x ||| aheadNL body x
theorem loopN_lt {l:List W} {x:Nat} (hx:x<4294967296) (hl:∀ o∈l,Small o):loopN l x<4294967296:=Nat.or_lt_two_pow (n:=32) hx (aheadNL_lt hx hl)
theorem loopN_bit {l:List W} {x:Nat} (hx:x<4294967296) (hl:∀ o∈l,Small o) (i:Nat):(loopN l x).testBit i=loopX l x.testBit i:=by
 rw [loopN,Nat.testBit_or,aheadNL_bit hx hl,loop_first]
theorem grow (x y:Nat):x<=x ||| y:=Nat.left_le_or
theorem grow_lt {x y:Nat} (h:x ||| y≠x):x<x ||| y:=by have:=grow x y;omega
def left (xs:List Nat):Nat:=(xs.map fun x=>4294967296-x).sum
theorem left_set {xs:List Nat} {i y:Nat} (hi:i<xs.length) (h:xs[i]<y) (hy:y<4294967296):left (xs.set i y)<left xs:=by
 induction xs generalizing i with
 | nil=>simp at hi
 | cons x xs ih=>
  cases i with
  | zero=>simp only [List.set_cons_zero,left,List.map_cons,List.sum_cons,List.getElem_cons_zero] at *;omega
  | succ i=>
   have:=ih (i:=i) (by simpa using hi) (by simpa using h)
   simp only [List.set_cons_succ,left,List.map_cons,List.sum_cons] at *;omega
theorem few {l:List Nat} {n:Nat} (h:l.Nodup) (hl:∀ x∈l,x<n):l.length<=n:=by
 induction n generalizing l with
 | zero=>
  cases l with
  | nil=>simp
  | cons a l=>exact absurd (hl a List.mem_cons_self) (by omega)
 | succ n ih=>
  by_cases hn:n∈l
  ·have:=ih (h.erase n) fun x hx=>by
    have hx':=(h.mem_erase_iff).1 hx
    have:=hl x hx'.2
    have:=hx'.1
    omega
   rw [List.length_erase_of_mem hn] at this;omega
  ·have:=ih h fun x hx=>by
    have h1:=hl x hx
    have:x≠n:=fun e=>hn (e ▸ hx)
    omega
   omega
def code (m:Nat) (x:Pc):Nat:=(x.b*4+x.part)*m+x.op
theorem code_lt {n m:Nat} {x:Pc} (h1:x.b<n) (h2:x.part<4) (h3:x.op<m):code m x<n*4*m:=by
 unfold code;have h:(x.b*4+x.part+1)*m<=n*4*m:=Nat.mul_le_mul_right m (by omega);rw [Nat.succ_mul] at h;omega
theorem code_inj {m:Nat} {x y:Pc} (hx:x.op<m) (hy:y.op<m) (px:x.part<4) (py:y.part<4) (h:code m x=code m y):x=y:=by
 unfold code at h;have e1:x.b*4+x.part=y.b*4+y.part:=by
  have a:=congrArg (· / m) h;have hm:0<m:=by omega
  simpa [Nat.mul_comm _ m,Nat.mul_add_div hm,Nat.div_eq_of_lt hx,Nat.div_eq_of_lt hy] using a
 obtain ⟨a,b,c⟩:=x;obtain ⟨a',b',c'⟩:=y;dsimp only at *;rw [e1] at h
 have:c=c':=by omega
 have:b=b':=by omega
 have:a=a':=by omega
 subst_vars
 rfl
theorem places {l:List Pc} {n m:Nat} (h:l.Nodup) (hl:∀ x∈l,x.b<n/\x.part<4/\x.op<m):l.length<=n*4*m:=by
 have:=few (l:=l.map (code m)) (n:=n*4*m) (by
  rw [List.Nodup,List.pairwise_map];exact h.imp_of_mem fun ha hb hab e=>hab (code_inj (hl _ ha).2.2 (hl _ hb).2.2 (hl _ ha).2.1 (hl _ hb).2.1 e)) fun x hx=>by
   obtain ⟨y,hy,rfl⟩:=List.mem_map.1 hx;exact code_lt (hl y hy).1 (hl y hy).2.1 (hl y hy).2.2
 simpa using this
def inN (xs:List Nat) (t:Nat):Nat:=xs.getD t 0
def bitN (xs:List Nat) (t r:Nat):Bool:=(inN xs t).testBit r
theorem inN_eq {xs:List Nat} {t:Nat} (h:t<xs.length):inN xs t=xs[t]:=by simp [inN,h]
theorem inN_set {xs:List Nat} {i y:Nat} (hi:i<xs.length) (t:Nat):inN (xs.set i y) t=if i=t then y else inN xs t:=by
 unfold inN
 by_cases e:i=t
 ·subst e;simp [hi]
 ·simp [e,List.getElem?_set_ne e]
def E.reg:E->Option Nat
 | .jump _=>none
 | .branch a _ _=>some a
 | .halt a=>some a
 | .loop a _=>some a
structure SmallB (k:B):Prop where
 ops:∀ o∈k.ops,Small o
 body:∀ o∈k.body,Small o
 a:∀ a,k.e.reg=some a->a<32
def endN (k:B) (xs:List Nat):Nat:=
 match k.e with
 | .jump t=>inN xs t
 | .branch a t e=>2^a ||| inN xs t ||| inN xs e
 | .halt a=>2^a
 | .loop a t=>2^a ||| loopN k.body (inN xs t)
def intoN (k:B) (xs:List Nat):Nat:=aheadNL k.ops (endN k xs)
def Fit (xs:List Nat):Prop:=∀ t,inN xs t<4294967296
theorem Fit.set {xs:List Nat} (h:Fit xs) {i y:Nat} (hy:y<4294967296):Fit (xs.set i y):=fun t=>by
 rcases Nat.lt_or_ge i xs.length with g|g
 ·rw [inN_set g];split
  ·exact hy
  ·exact h t
 ·rw [List.set_eq_of_length_le g];exact h t
theorem Fit.zero (n:Nat):Fit (List.replicate n 0):=fun t=>by
 unfold inN;rw [List.getD_eq_getElem?_getD,List.getElem?_replicate];split <;> simp
theorem endN_lt {k:B} {xs:List Nat} (hk:SmallB k) (hx:Fit xs):endN k xs<4294967296:=by
 have ha:=hk.a;unfold endN
 cases h:k.e with
 | jump t=>exact hx t
 | branch a t e=>
  rw [h] at ha;exact Nat.or_lt_two_pow (n:=32) (Nat.or_lt_two_pow (n:=32) (pow32 (ha a rfl)) (hx t)) (hx e)
 | halt a=>rw [h] at ha;exact pow32 (ha a rfl)
 | loop a t=>
  rw [h] at ha;exact Nat.or_lt_two_pow (n:=32) (pow32 (ha a rfl)) (loopN_lt (hx t) hk.body)
theorem endN_bit {k:B} {xs:List Nat} (hk:SmallB k) (hx:Fit xs) (r:Nat):(endN k xs).testBit r=aheadE k (bitN xs) r:=by
 have e:∀ a:Nat,decide (a=r)=(r==a):=fun a=>by rw [Bool.eq_iff_iff,decide_eq_true_iff,beq_iff_eq];exact eq_comm
 unfold endN aheadE
 cases h:k.e with
 | jump t=>rfl
 | branch a t e'=>simp only [Nat.testBit_or,Nat.testBit_two_pow,bitN,e]
 | halt a=>simp only [Nat.testBit_two_pow,e]
 | loop a t=>
  simp only [Nat.testBit_or,Nat.testBit_two_pow,e,loopN_bit (hx t) hk.body];rfl
theorem intoN_lt {k:B} {xs:List Nat} (hk:SmallB k) (hx:Fit xs):intoN k xs<4294967296:=aheadNL_lt (endN_lt hk hx) hk.ops
theorem intoN_bit {k:B} {xs:List Nat} (hk:SmallB k) (hx:Fit xs) (r:Nat):(intoN k xs).testBit r=into k (bitN xs) r:=by
 rw [intoN,aheadNL_bit (endN_lt hk hx) hk.ops,into,aheadL_eq,aheadL_eq,endN_bit hk hx]
theorem endN_other {k:B} {xs:List Nat} {t y:Nat} (ht:t ∉ k.e.succ):endN k (xs.set t y)=endN k xs:=by
 have key:∀ u,t≠u->inN (xs.set t y) u=inN xs u:=fun u hu=>by unfold inN;rw [List.getD_eq_getElem?_getD,List.getElem?_set_ne hu];rfl
 unfold endN
 cases h:k.e with
 | jump u=>rw [h] at ht;dsimp only;rw [key u (by simpa [E.succ] using ht)]
 | branch a u v=>
  rw [h] at ht;simp only [E.succ,List.mem_cons,List.not_mem_nil,or_false,not_or] at ht;dsimp only;rw [key u ht.1,key v ht.2]
 | halt a=>rfl
 | loop a u=>rw [h] at ht;dsimp only;rw [key u (by simpa [E.succ] using ht)]
theorem intoN_other {k:B} {xs:List Nat} {t y:Nat} (ht:t ∉ k.e.succ):intoN k (xs.set t y)=intoN k xs:=by rw [intoN,intoN,endN_other ht]
structure So (P:List B) (xs:List Nat):Prop where
 len:xs.length=P.length
 fit:Fit xs
 live:∀ t r,bitN xs t r=true->Live P r t
theorem So.init (P:List B):So P (List.replicate P.length 0):=
 ⟨by simp,Fit.zero _,fun t r h=>by
  rw [bitN,inN,List.getD_eq_getElem?_getD,List.getElem?_replicate] at h
  split at h <;> simp at h⟩
theorem So.set {P:List B} {xs:List Nat} (h:So P xs) {i y:Nat} (hi:i<xs.length) (hy:y<4294967296) (hl:∀ r,y.testBit r=true->Live P r i):So P (xs.set i y):=
 ⟨by simp [h.len],h.fit.set hy,fun t r g=>by
  rw [bitN,inN_set hi] at g
  split at g
  ·subst_vars;exact hl r g
  ·exact h.live t r g⟩
theorem So.into {P:List B} {xs:List Nat} (h:So P xs) {i r:Nat} {k:B} (hk:P[i]?=some k) (hs:SmallB k) (g:(intoN k xs).testBit r=true):Live P r i:=by
 rw [intoN_bit hs h.fit] at g;exact Live.sound (fun t=>h.live t r) hk g
theorem So.put {P:List B} {xs:List Nat} (h:So P xs) {i:Nat} {k:B} (hk:P[i]?=some k) (hs:SmallB k):So P (xs.set i (inN xs i ||| intoN k xs)):=by
 have hi:i<xs.length:=by rw [h.len];exact (List.getElem?_eq_some_iff.1 hk).1
 refine h.set hi (Nat.or_lt_two_pow (n:=32) (h.fit i) (intoN_lt hs h.fit)) fun r g=>?_;rw [Nat.testBit_or,Bool.or_eq_true] at g;rcases g with g|g
 ·exact h.live i r g
 ·exact h.into hk hs g
theorem So.new {P:List B} {xs:List Nat} (h:So P xs) {i:Nat} {k:B} (hk:P[i]?=some k) (hs:SmallB k):So P (xs.set i (intoN k xs)):=by
 have hi:i<xs.length:=by rw [h.len];exact (List.getElem?_eq_some_iff.1 hk).1
 exact h.set hi (intoN_lt hs h.fit) fun r g=>h.into hk hs g
def Shut (k:B) (xs:List Nat) (i:Nat):Prop:=inN xs i ||| intoN k xs=inN xs i
theorem So.done {P:List B} {xs:List Nat} (h:So P xs) (hs:∀ (i:Nat) k,P[i]?=some k->SmallB k) (hc:∀ (i:Nat) k,P[i]?=some k->Shut k xs i) (t r:Nat):bitN xs t r=true↔Live P r t:=
 live_iff (fun t=>h.live t r) (fun b k hk g=>by
  rw [<- intoN_bit (hs b k hk) h.fit] at g
  have:=congrArg (fun x=>Nat.testBit x r) (hc b k hk)
  simp only [Nat.testBit_or,g,Bool.or_true] at this;exact this.symm) t
theorem So.eq {P:List B} {xs ys:List Nat} (h:So P xs) (g:So P ys) (e:∀ t r,bitN xs t r=bitN ys t r):xs=ys:=
 List.ext_getElem (by rw [h.len,g.len]) fun i h1 h2=>by
  have:=Nat.eq_of_testBit_eq (x:=inN xs i) (y:=inN ys i) fun r=>e i r
  rwa [inN_eq h1,inN_eq h2] at this
theorem So.same {P:List B} {xs ys:List Nat} (hs:∀ (i:Nat) k,P[i]?=some k->SmallB k) (h:So P xs) (hc:∀ (i:Nat) k,P[i]?=some k->Shut k xs i) (g:So P ys) (gc:∀ (i:Nat) k,P[i]?=some k->Shut k ys i):xs=ys:=
 h.eq g fun t r=>by rw [Bool.eq_iff_iff,h.done hs hc,g.done hs gc]
def Rnd (P:List B) (xs:List Nat) (grown:Bool) (i:Nat):Prop:=grown=false->∀ j k,i<=j->P[j]?=some k->Shut k xs j
theorem Rnd.init (P:List B) (xs:List Nat):Rnd P xs false P.length:=fun _ j k hj hk=>by
 have:=(List.getElem?_eq_some_iff.1 hk).1
 omega
theorem Rnd.step {P:List B} {xs:List Nat} {grown:Bool} {i:Nat} {k:B} (h:Rnd P xs grown (i+1)) (hk:P[i]?=some k) (hi:i<xs.length):Rnd P (xs.set i (inN xs i ||| intoN k xs)) (grown || (inN xs i ||| intoN k xs) != inN xs i) i:=fun hg=>by
 rw [Bool.or_eq_false_iff] at hg;have e:inN xs i ||| intoN k xs=inN xs i:=by simpa using hg.2
 have e2:xs.set i (inN xs i ||| intoN k xs)=xs:=by rw [e,inN_eq hi,List.set_getElem_self]
 rw [e2];intro j k' hj hk';rcases Nat.lt_or_ge i j with g|g
 ·exact h hg.1 j k' g hk'
 ·obtain rfl:j=i:=by omega
  rw [hk] at hk';cases hk';exact e
theorem Rnd.done {P:List B} {xs:List Nat} (h:Rnd P xs false 0) (j:Nat) (k:B) (hk:P[j]?=some k):Shut k xs j:=h rfl j k (Nat.zero_le _) hk
def Work (P:List B) (xs:List Nat) (work:Nat->Prop):Prop:=∀ j k,P[j]?=some k->¬ work j->Shut k xs j
theorem Work.step {P:List B} {xs:List Nat} {work work':Nat->Prop} {i:Nat} {k:B} (h:Work P xs work) (hk:P[i]?=some k) (hi:i<xs.length) (h1:∀ j,work j->j≠i->work' j) (h2:inN xs i ||| intoN k xs≠inN xs i->∀ j k',P[j]?=some k'->i∈k'.e.succ->work' j):Work P (xs.set i (inN xs i ||| intoN k xs)) work':=fun j k' hk' hw=>by
 by_cases e:inN xs i ||| intoN k xs=inN xs i
 ·have e2:xs.set i (inN xs i ||| intoN k xs)=xs:=by rw [e,inN_eq hi,List.set_getElem_self]
  rw [e2]
  by_cases ej:j=i
  ·subst ej;rw [hk] at hk';cases hk';exact e
  ·exact h j k' hk' fun g=>hw (h1 j g ej)
 ·have ht:i ∉ k'.e.succ:=fun g=>hw (h2 e j k' hk' g);unfold Shut;rw [intoN_other ht,inN_set hi]
  by_cases ej:i=j
  ·subst ej;rw [hk] at hk';cases hk';rw [if_pos rfl,Nat.or_assoc,Nat.or_self]
  ·rw [if_neg ej];exact h j k' hk' fun g=>hw (h1 j g fun e=>ej e.symm)
theorem Work.done {P:List B} {xs:List Nat} {work:Nat->Prop} (h:Work P xs work) (hn:∀ j,j<P.length->¬ work j) (j:Nat) (k:B) (hk:P[j]?=some k):Shut k xs j:=
 h j k hk (hn j (List.getElem?_eq_some_iff.1 hk).1)
end Go.Proofs.YtcmlnemokckbdaaGreatDoor.L8.Lv
namespace Go.Proofs.YtcmlnemokckbdaaGreatDoor.L8.Fw
inductive Way (t:Nat->Nat->Bool) (n:Nat):Nat->Nat->Prop
 | one {x y:Nat} : y<n->t x y=true->Way t n x y
 | more {x y z:Nat} : Way t n x y->z<n->t y z=true->Way t n x z
theorem Way.lt {t:Nat->Nat->Bool} {n x y:Nat} (h:Way t n x y):y<n:=by cases h <;> assumption
theorem Way.trans {t:Nat->Nat->Bool} {n x y z:Nat} (h:Way t n x y) (g:Way t n y z):Way t n x z:=by
 induction g with
 | one hy ht=>exact .more h hy ht
 | more _ hz ht ih=>exact .more ih hz ht
structure Fi (t:Nat->Nat->Bool) (n b:Nat) (met:List Bool) (r:List Nat) (i y:Nat):Prop where
 len:met.length=n
 iff:∀ z,z<n->(met[z]?=some true↔z∈r)
 lt:∀ z∈r,z<n
 way:∀ z∈r,Way t n b z
 cnt:r.length+met.count false=n
 cl:∀ k,k<i->∀ x,(b::r)[k]?=some x->∀ z,z<n->t x z=true->z∈r
 cur:∀ x,(b::r)[i]?=some x->∀ z,z<y->z<n->t x z=true->z∈r
section
variable {t:Nat->Nat->Bool} {n b:Nat} {met:List Bool} {r:List Nat} {i y x:Nat}
theorem Fi.init (t:Nat->Nat->Bool) (n b:Nat):Fi t n b (List.replicate n false) [] 0 0 where
 len:=by simp
 iff:=fun z hz=>by simp [hz]
 lt:=fun z hz=>by simp at hz
 way:=fun z hz=>by simp at hz
 cnt:=by simp
 cl:=fun k hk=>by omega
 cur:=fun x _ z hz=>by omega
theorem Fi.small (h:Fi t n b met r i y):r.length<=n:=by have:=h.cnt;omega
theorem Fi.at (_h:Fi t n b met r i y) {k:Nat} (hk:(b::r)[k]?=some x):x=b\/x∈r:=by
 have:=List.mem_of_getElem? hk
 simpa using this
theorem old {k y:Nat} (h:k<(b::r).length):(b::(r++[y]))[k]?=(b::r)[k]?:=by
 rw [<- List.cons_append,List.getElem?_append_left h]
theorem Fi.yes (h:Fi t n b met r i y) (hy:y<n) (hx:(b::r)[i]?=some x) (ht:t x y=true) (hm:met[y]?=some false):Fi t n b (met.set y true) (r++[y]) i (y+1):=by
 have hi:i<(b::r).length:=by
  rcases Nat.lt_or_ge i (b::r).length with h|h
  ·exact h
  ·rw [List.getElem?_eq_none h] at hx;cases hx
 have hyl:y<met.length:=by rw [h.len];exact hy
 have hg:met[y]=false:=by rw [List.getElem?_eq_getElem hyl] at hm;exact Option.some.inj hm
 have hw:Way t n b y:=by
  rcases h.at hx with e|e
  ·rw [<- e];exact .one hy ht
  ·exact .more (h.way x e) hy ht
 refine ⟨by simp [h.len],fun z hz=>?_,fun z hz=>?_,fun z hz=>?_,?_,fun k hk x' hx' z hz hz'=>?_,fun x' hx' z hz hz' ht'=>?_⟩
 ·by_cases e:y=z
  ·subst e;simp [hyl]
  ·rw [List.getElem?_set_ne e,h.iff z hz];simp only [List.mem_append,List.mem_singleton];exact ⟨Or.inl,fun g=>g.resolve_right fun g=>e g.symm⟩
 ·rcases List.mem_append.1 hz with g|g
  ·exact h.lt z g
  ·rw [List.mem_singleton.1 g];exact hy
 ·rcases List.mem_append.1 hz with g|g
  ·exact h.way z g
  ·rw [List.mem_singleton.1 g];exact hw
 ·have hc:=h.cnt;have hp:0<met.count false:=List.count_pos_iff.2 (by rw [<- hg];exact List.getElem_mem hyl);rw [List.count_set hyl,hg];simp
  omega
 ·rw [old (by omega)] at hx';exact List.mem_append_left _ (h.cl k hk x' hx' z hz hz')
 ·rw [old hi] at hx';obtain rfl:x=x':=Option.some.inj (hx.symm.trans hx')
  by_cases e:z=y
  ·subst e;simp
  ·exact List.mem_append_left _ (h.cur x hx z (by omega) hz' ht')
theorem Fi.no (h:Fi t n b met r i y) (hx:(b::r)[i]?=some x) (hn:t x y=false\/met[y]?=some true):Fi t n b met r i (y+1):=by
 refine ⟨h.len,h.iff,h.lt,h.way,h.cnt,h.cl,fun x' hx' z hz hz' ht'=>?_⟩;obtain rfl:x=x':=Option.some.inj (hx.symm.trans hx')
 by_cases e:z=y
 ·subst e;rcases hn with g|g
  ·rw [g] at ht';cases ht'
  ·exact (h.iff z hz').1 g
 ·exact h.cur x hx z (by omega) hz' ht'
theorem Fi.turn (h:Fi t n b met r i y) (hy:n<=y):Fi t n b met r (i+1) 0:=by
 refine ⟨h.len,h.iff,h.lt,h.way,h.cnt,fun k hk x hx z hz ht=>?_,fun x _ z hz=>by omega⟩
 by_cases e:k=i
 ·subst e;exact h.cur x hx z (by omega) hz ht
 ·exact h.cl k (by omega) x hx z hz ht
theorem Fi.closed (h:Fi t n b met r i y) (hi:r.length+1<=i) {z:Nat} (hw:Way t n b z):z∈r:=by
 induction hw with
 | one hz ht=>exact h.cl 0 (by omega) _ rfl _ hz ht
 | more _ hz ht ih=>
  obtain ⟨k,hk,e⟩:=List.getElem_of_mem ih;exact h.cl (k+1) (by omega) _ (by rw [List.getElem?_cons_succ,List.getElem?_eq_getElem hk,e]) _ hz ht
theorem Fi.done (h:Fi t n b met r i y) (hi:r.length+1<=i) {z:Nat} (hz:z<n):met[z]?=some true↔Way t n b z:=
 ⟨fun g=>h.way z ((h.iff z hz).1 g),fun g=>(h.iff z hz).2 (h.closed hi g)⟩
end
open Classical in
noncomputable def wB (t:Nat->Nat->Bool) (n x y:Nat):Bool:=decide (Way t n x y)
section
variable {t:Nat->Nat->Bool} {n:Nat}
theorem wB_iff {x y:Nat} : wB t n x y=true↔Way t n x y:=by simp [wB]
theorem wB_trans {x y z:Nat} (h:wB t n x y=true) (g:wB t n y z=true):wB t n x z=true:=wB_iff.2 ((wB_iff.1 h).trans (wB_iff.1 g))
theorem Fi.met {b:Nat} {met:List Bool} {r:List Nat} {i y:Nat} (h:Fi t n b met r i y) (hi:r.length+1<=i):met=(List.range n).map (wB t n b):=by
 apply List.ext_getElem (by simp [h.len])
 intro z h1 h2;have hz:z<n:=by rw [<- h.len];exact h1
 have hd:=h.done hi hz;rw [List.getElem?_eq_getElem h1] at hd;simp only [List.getElem_map,List.getElem_range]
 cases e:met[z] with
 | true=>
  rw [e] at hd;exact (wB_iff.2 (hd.1 rfl)).symm
 | false=>
  rw [e] at hd
  cases g:wB t n b z with
  | true=>exact absurd (hd.2 (wB_iff.1 g)) (by simp)
  | false=>rfl
end
noncomputable def reachL (t:Nat->Nat->Bool) (n:Nat):List Nat:=(List.range n).filter fun i=>wB t n 0 i || i==0
noncomputable def ringL (t:Nat->Nat->Bool) (n i:Nat):List Nat:=(List.range n).filter fun j=>wB t n i j&&wB t n j i
noncomputable def told (t:Nat->Nat->Bool) (n i j:Nat):Bool:=(List.range i).any fun k=>wB t n k j&&wB t n j k
noncomputable def headB (t:Nat->Nat->Bool) (n i:Nat):Bool:=wB t n i i && !told t n i i
noncomputable def ringsTo (t:Nat->Nat->Bool) (n i:Nat):List (List Nat):=((List.range i).filter (headB t n)).map (ringL t n)
section
variable {t:Nat->Nat->Bool} {n:Nat}
theorem told_iff {i j:Nat} : told t n i j=true↔∃ k,k<i/\wB t n k j=true/\wB t n j k=true:=by
 simp [told]
theorem told_zero (j:Nat):told t n 0 j=false:=by simp [told]
theorem told_succ (i j:Nat):told t n (i+1) j=(told t n i j || (wB t n i j&&wB t n j i)):=by
 simp [told,List.range_succ]
theorem told_skip {i:Nat} (h:headB t n i=false) (j:Nat):told t n (i+1) j=told t n i j:=by
 rw [told_succ]
 cases hw:wB t n i j&&wB t n j i with
 | false=>simp
 | true=>
  simp only [Bool.and_eq_true] at hw;have hii:=wB_trans hw.1 hw.2;have ht:told t n i i=true:=by
   cases e:told t n i i with
   | true=>rfl
   | false=>simp [headB,hii,e] at h
  obtain ⟨k,hk,h1,h2⟩:=told_iff.1 ht
  have:told t n i j=true:=told_iff.2 ⟨k,hk,wB_trans h1 hw.1,wB_trans hw.2 h2⟩
  simp [this]
theorem rings_zero:ringsTo t n 0=[]:=by simp [ringsTo]
theorem rings_skip {i:Nat} (h:headB t n i=false):ringsTo t n (i+1)=ringsTo t n i:=by
 simp [ringsTo,List.range_succ,h]
theorem rings_ring {i:Nat} (h:headB t n i=true):ringsTo t n (i+1)=ringsTo t n i++[ringL t n i]:=by
 simp [ringsTo,List.range_succ,h]
theorem rings_apart {i k j:Nat} (hik:i<k) (hk:headB t n k=true) (h1:j∈ringL t n i) (h2:j∈ringL t n k):False:=by
 simp only [ringL,List.mem_filter,Bool.and_eq_true] at h1 h2
 have:told t n k k=true:=told_iff.2 ⟨i,hik,wB_trans h1.2.1 h2.2.2,wB_trans h2.2.1 h1.2.2⟩
 simp [headB,this] at hk
theorem ring_nodup (i:Nat):(ringL t n i).Nodup:=List.Pairwise.filter _ List.nodup_range
theorem ring_count (i j:Nat):(ringL t n i).count j<=1:=List.nodup_iff_count.1 (ring_nodup i) j
theorem fresh {i j:Nat} (h:headB t n i=true) (hj:j∈ringL t n i):told t n i j=false:=by
 cases e:told t n i j with
 | false=>rfl
 | true=>
  obtain ⟨k,hk,h1,h2⟩:=told_iff.1 e;simp only [ringL,List.mem_filter,Bool.and_eq_true] at hj
  have:told t n i i=true:=told_iff.2 ⟨k,hk,wB_trans h1 hj.2.2,wB_trans hj.2.1 h2⟩
  simp [headB,this] at h
theorem reach_closed {x y:Nat} (hx:x∈reachL t n) (hy:y<n) (ht:t x y=true):y∈reachL t n:=by
 simp only [reachL,List.mem_filter,List.mem_range,Bool.or_eq_true,beq_iff_eq] at hx ⊢;refine ⟨hy,Or.inl ?_⟩;rcases hx.2 with h|h
 ·exact wB_iff.2 (.more (wB_iff.1 h) hy ht)
 ·subst h;exact wB_iff.2 (.one hy ht)
theorem reach_first (h:0<n):(reachL t n)[0]?=some 0:=by
 obtain ⟨m,rfl⟩:∃ m,n=m+1:=⟨n-1,by omega⟩;unfold reachL;rw [List.range_succ_eq_map,List.filter_cons_of_pos (by simp)];rfl
end
structure Ds (t:Nat->Nat->Bool) (n x:Nat) (M M' d:Nat->Prop):Prop where
 sub:∀ z,M z->M' z
 way:∀ z,M' z->¬ M z->Way t n x z
 cl:∀ z,M' z->¬ M z->∀ u,u<n->t z u=true->M' u
 own:∀ u,d u->M' u
section
variable {t:Nat->Nat->Bool} {n x y:Nat} {M M' M2 d:Nat->Prop}
theorem Ds.init (t:Nat->Nat->Bool) (n x:Nat) (M:Nat->Prop):Ds t n x M M fun _=>False:=
 ⟨fun _ h=>h,fun _ h g=>absurd h g,fun _ h g=>absurd h g,fun _ h=>h.elim⟩
theorem Ds.skip (h:Ds t n x M M' d) (hy:M' y):Ds t n x M M' fun u=>d u\/u=y:=
 ⟨h.sub,h.way,h.cl,fun u hu=>hu.elim (h.own u) fun e=>by rw [e];exact hy⟩
theorem Ds.call (h:Ds t n x M M' d) (hy:y<n) (ht:t x y=true) (g:Ds t n y (fun z=>M' z\/z=y) M2 fun u=>u<n/\t y u=true):Ds t n x M M2 fun u=>d u\/u=y:=by
 have hyy:M2 y:=g.sub y (Or.inr rfl);refine ⟨fun z hz=>g.sub z (Or.inl (h.sub z hz)),fun z hz hm=>?_,fun z hz hm u hu hzu=>?_,fun u hu=>?_⟩
 ·by_cases h1:M' z
  ·exact h.way z h1 hm
  ·by_cases h2:z=y
   ·rw [h2];exact .one hy ht
   ·exact (Way.one hy ht).trans (g.way z hz fun e=>e.elim h1 h2)
 ·by_cases h1:M' z
  ·exact g.sub u (Or.inl (h.cl z h1 hm u hu hzu))
  ·by_cases h2:z=y
   ·subst h2;exact g.own u ⟨hu,hzu⟩
   ·exact g.cl z hz (fun e=>e.elim h1 h2) u hu hzu
 ·rcases hu with hu|rfl
  ·exact g.sub u (Or.inl (h.own u hu))
  ·exact hyy
theorem Ds.done (h:Ds t n x (fun _=>False) M' fun u=>u<n/\t x u=true) (z:Nat):M' z↔Way t n x z:=by
 refine ⟨fun hz=>h.way z hz id,fun hw=>?_⟩
 induction hw with
 | one hy ht=>exact h.own _ ⟨hy,ht⟩
 | more _ hz ht ih=>exact h.cl _ ih id _ hz ht
theorem Ds.done_self (h:Ds t n x (fun z=>z=x) M' fun u=>u<n/\t x u=true) (z:Nat):M' z↔z=x\/Way t n x z:=by
 refine ⟨fun hz=>?_,fun hw=>?_⟩
 ·by_cases e:z=x
  ·exact Or.inl e
  ·exact Or.inr (h.way z hz e)
 ·rcases hw with rfl|hw
  ·exact h.sub _ rfl
  ·induction hw with
   | one hy ht=>exact h.own _ ⟨hy,ht⟩
   | @more y z _ hz ht ih=>
    by_cases e:y=x
    ·subst e;exact h.own _ ⟨hz,ht⟩
    ·exact h.cl _ ih e _ hz ht
end
end Go.Proofs.YtcmlnemokckbdaaGreatDoor.L8.Fw
