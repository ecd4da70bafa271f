/- Parts Xd QCy Xe. -/
import Derived.Test.YtcmlnemokckbdaaGreatDoorN41
import Derived.Test.YtcmlnemokckbdaaGreatDoorN32
set_option maxRecDepth 20000
set_option maxHeartbeats 4000000
namespace Go.Proofs.YtcmlnemokckbdaaGreatDoor.L8.Sm
open Go.ChangeShapes Go.WideShapes Go.ChangeAt Go.RowKit
open YtcmlnemokckbdaaGreatDoor.L8.Op
open YtcmlnemokckbdaaGreatDoor.L8.Lv (PB bOf eOf wOf rdL Pc pb_at listOf nextE)
structure Mv (ps qs:List Bk) (k T n EL:Nat):Prop where
 hk:k<ps.length
 hT:T<ps.length
 hE:EL<ps.length
 ne:T≠k
 z:T≠0
 nE:T≠EL
 nl:n<=ps[T].ops.length
 fin:ps[k].fin=1
 thn:ps[k].thn=T
 els:ps[k].els=EL
 len:qs.length=ps.length
 atk:qs[k]?=some { ps[k] with ops:=ps[k].ops++ps[T].ops.take n }
 att:qs[T]?=some { ps[T] with ops:=ps[T].ops.drop n }
 oth:∀ b,b≠k->b≠T->qs[b]?=ps[b]?
 only:∀ b (h:b<ps.length),b≠k->T ∉ (eOf ps[b]).succ
 ear:∀ o∈ps[T].ops.take n,(1<=o.op/\o.op<=12)/\o.d.toNat≠ps[k].a.toNat/\¬ YtcmlnemokckbdaaGreatDoor.L8.Lv.At (PB ps) o.d.toNat ⟨EL,0,0⟩
 blk:∀ x∈ps,BkM ps.length x
 okp:∀ x∈ps,(∀ o∈x.ops,okP o=true)/\∀ o∈x.body,okP o=true
structure Si (ps:List Bk) (T n:Nat) (M M':Ma):Prop where
 e:M.e=100
 e':M'.e=100
 b:M'.b=M.b
 y:M'.y=M.y
 m:M'.m=M.m
 pr:M'.pr=M.pr
 rn:M'.n=M.n
 lt:M.b<ps.length
 o:M.o<=(lst ps[M.b] M.y).length
 oT:M.b=T->M.y=false->n<=M.o/\M'.o+n=M.o
 oN:¬ (M.b=T/\M.y=false)->M'.o=M.o
 yf:M.y=true->ps[M.b].fin=3
 r:∀ r,YtcmlnemokckbdaaGreatDoor.L8.Lv.At (PB ps) r ⟨M.b,pt M.y,M.o⟩->M.r r=M'.r r
def Dn (M N:Ma):Prop:=N.e=M.e/\N.pr=M.pr/\(M.e=0->N.v=M.v/\N.m=M.m)
section
variable {ps qs:List Bk} {k T n EL:Nat} {M M':Ma}
theorem q_blk (h:Mv ps qs k T n EL) {b:Nat} (hb:b<ps.length):∃ x',qs[b]?=some x'/\x'.fin=ps[b].fin/\x'.a=ps[b].a/\x'.thn=ps[b].thn/\x'.els=ps[b].els/\x'.body=ps[b].body/\x'.ops=(if b=k then ps[b].ops++(ps[T]'h.hT).ops.take n else if b=T then ps[b].ops.drop n else ps[b].ops):=by
 by_cases e1:b=k
 ·subst e1;exact ⟨_,h.atk,rfl,rfl,rfl,rfl,rfl,by rw [if_pos rfl]⟩
 ·by_cases e2:b=T
  ·subst e2;exact ⟨_,h.att,rfl,rfl,rfl,rfl,rfl,by rw [if_neg e1,if_pos rfl]⟩
  ·refine ⟨ps[b],?_,rfl,rfl,rfl,rfl,rfl,by rw [if_neg e1,if_neg e2]⟩;rw [h.oth b e1 e2,List.getElem?_eq_getElem hb]
theorem next_op' {b:Nat} {x:Bk} (hx:qs[b]?=some x) (e:M'.b=b) {o:O} (h:(lst x M'.y)[M'.o]?=some o):nextM qs M'=opM o M'/\trapB qs M'=trapO o M':=by
 subst e;unfold nextM trapB listM;rw [hx];simp only [h];exact ⟨trivial,trivial⟩
theorem next_end' {b:Nat} {x:Bk} (hx:qs[b]?=some x) (e:M'.b=b) (h:(lst x M'.y)[M'.o]?=none):nextM qs M'=endM x M'/\trapB qs M'=false:=by
 subst e;unfold nextM trapB listM;rw [hx];simp only [h];exact ⟨trivial,trivial⟩
theorem run_step' (he:M'.e=100) (ht:trapB qs M'=false) (i:Nat):runM qs (i+1) M'=runM qs i (stepM qs M'):=by
 show (if M'.e=100 then (if trapB qs M' then { M' with e:=101 } else runM qs i (stepM qs M')) else M')=_;rw [if_pos he,ht];rfl
theorem run_trap' (he:M'.e=100) (ht:trapB qs M'=true) (i:Nat):runM qs i M' = { M' with e:=101 }:=by
 cases i
 ·show (if M'.e=100 then (if trapB qs M' then { M' with e:=101 } else M') else M')=_;rw [if_pos he,ht];rfl
 ·show (if M'.e=100 then (if trapB qs M' then { M' with e:=101 } else runM qs _ (stepM qs M')) else M')=_;rw [if_pos he,ht];rfl
theorem run_none (he:M'.e=100) (ht:trapB qs M'=false):(runM qs 0 M').e=100:=by
 show (if M'.e=100 then (if trapB qs M' then { M' with e:=101 } else M') else M').e=100;rw [if_pos he,ht];exact he
theorem Si.get (h:Mv ps qs k T n EL) (s:Si ps T n M M') {x':Bk} (hx:qs[M.b]?=some x') {op:O} (ho:(lst (ps[M.b]'s.lt) M.y)[M.o]?=some op):(lst x' M'.y)[M'.o]?=some op:=by
 obtain ⟨x2,g0,-,-,-,-,g5,g6⟩:=q_blk h s.lt;rw [hx] at g0;obtain rfl:=Option.some.inj g0;rw [s.y]
 cases hy:M.y
 ·have e:lst x' false=x'.ops:=rfl;have e2:lst (ps[M.b]'s.lt) false=(ps[M.b]'s.lt).ops:=rfl;rw [hy,e2] at ho;rw [e,g6]
  by_cases e1:M.b=k
  ·have hne:¬ (M.b=T/\M.y=false):=fun q=>h.ne (q.1.symm.trans e1);rw [if_pos e1,s.oN hne,List.getElem?_append_left (List.getElem?_eq_some_iff.1 ho).1];exact ho
  ·by_cases e3:M.b=T
   ·obtain ⟨o1,o2⟩:=s.oT e3 hy;rw [if_neg e1,if_pos e3,List.getElem?_drop,show n+M'.o=M.o by omega];exact ho
   ·rw [if_neg e1,if_neg e3,s.oN fun q=>e3 q.1];exact ho
 ·have e:lst x' true=x'.body:=rfl;rw [e,g5,s.oN fun q=>by rw [hy] at q;exact absurd q.2 (by decide)];rw [hy] at ho;exact ho
theorem Si.end (h:Mv ps qs k T n EL) (s:Si ps T n M M') (hk:M.b≠k) {x':Bk} (hx:qs[M.b]?=some x') (ho:(lst (ps[M.b]'s.lt) M.y)[M.o]?=none):(lst x' M'.y)[M'.o]?=none:=by
 obtain ⟨x2,g0,-,-,-,-,g5,g6⟩:=q_blk h s.lt;rw [hx] at g0;obtain rfl:=Option.some.inj g0;rw [s.y];have hle:=List.getElem?_eq_none_iff.1 ho
 cases hy:M.y
 ·rw [hy] at hle;have hle:(ps[M.b]'s.lt).ops.length<=M.o:=hle;show x'.ops[M'.o]?=none;rw [g6,if_neg hk]
  by_cases e3:M.b=T
  ·obtain ⟨o1,o2⟩:=s.oT e3 hy;rw [if_pos e3];exact List.getElem?_eq_none (by rw [List.length_drop];omega)
  ·rw [if_neg e3,s.oN fun q=>e3 q.1];exact List.getElem?_eq_none hle
 ·rw [hy] at hle;show x'.body[M'.o]?=none;rw [g5,s.oN fun q=>by rw [hy] at q;exact absurd q.2 (by decide)];exact List.getElem?_eq_none hle
theorem Si.to (s:Si ps T n M M') {t:Int} {nn:Int} {s1 s2:Nat} (ht:t.toNat<ps.length) (hT:t.toNat≠T) (hz:(⟨t.toNat,0,0⟩:Pc)∈nextE M.b (eOf (ps[M.b]'s.lt))) (ho:(lst (ps[M.b]'s.lt) M.y).length=M.o):Si ps T n { toM t { M with n:=nn } with s:=s1 } { toM t { M' with n:=nn } with s:=s2 }:=
 ⟨s.e,s.e',rfl,rfl,s.m,s.pr,rfl,ht,Nat.zero_le _,fun q _=>absurd q hT,fun _=>rfl,(fun q=>by cases q),fun r q=>s.r r (la_turn s.lt ho hz q)⟩
theorem sim_run (h:Mv ps qs k T n EL) (hn:n<=2):∀ (f:Nat) (M M':Ma),Si ps T n M M'->(runM ps f M).e≠100->∃ j,j<=3*f/\∀ i,j<=i->Dn (runM ps f M) (runM qs i M'):=by
 intro f
 induction f using Nat.strongRecOn with
 | _ f ih=>
 intro M M' s hend;have hbl:=h.blk _ (List.getElem_mem s.lt);have hok:=h.okp _ (List.getElem_mem s.lt);obtain ⟨x',hx,x1,x2,x3,x4,x5,x6⟩:=q_blk h s.lt
 cases hop:(lst (ps[M.b]'s.lt) M.y)[M.o]? with
 | some op=>
  have hmem:=List.mem_of_getElem? hop;have hkp:okP op=true:=by
   cases hy:M.y
   ·rw [hy] at hmem;exact hok.1 op hmem
   ·rw [hy] at hmem;exact hok.2 op hmem
  have hkm:OkM op:=hbl.lst hmem;have g1:=next_op' (M':=M) (List.getElem?_eq_getElem s.lt) rfl hop;have g2:=next_op' (M':=M') hx s.b (s.get h hx hop);have hvt:=(val_same hkp hkm s.m fun r q=>s.r r (la_read s.lt hop q)).2
  cases ht:trapO op M
  ·cases f with
   | zero=>exact absurd (run_none s.e (g1.2.trans ht)) hend
   | succ f=>
    have e1:=run_step' (qs:=ps) s.e (g1.2.trans ht) f;have e2:=run_step' (qs:=qs) s.e' (g2.2.trans (hvt.trans ht));have hs1:stepM ps M = { opM op M with s:=M.s+1 }:=by unfold stepM;rw [g1.1]
    have hs2:stepM qs M' = { opM op M' with s:=M'.s+1 }:=by unfold stepM;rw [g2.1]
    rw [hs1] at e1;rw [hs2] at e2;obtain ⟨a1,a2,a3,a4,a5,a6⟩:=opM_keep op M;obtain ⟨c1,c2,c3,c4,c5,c6⟩:=opM_keep op M';obtain ⟨d1,d2,d3⟩:=op_sim s.lt hop hkp hkm s.m s.pr s.r;have hlt:=(List.getElem?_eq_some_iff.1 hop).1;have s2:Si ps T n { opM op M with s:=M.s+1 } { opM op M' with s:=M'.s+1 }:=by
     refine ⟨a1.trans s.e,c1.trans s.e',?_,?_,d1,d2,?_,?_,?_,?_,?_,?_,?_⟩
     ·show (opM op M').b=(opM op M).b;rw [c2,a2,s.b]
     ·show (opM op M').y=(opM op M).y;rw [c3,a3,s.y]
     ·show (opM op M').n=(opM op M).n;rw [c4,a4,s.rn]
     ·show (opM op M).b<_;rw [a2];exact s.lt
     ·simp only [a2,a3,a6];omega
     ·intro q1 q2;have q1:M.b=T:=a2.symm.trans q1;have q2:M.y=false:=a3.symm.trans q2;obtain ⟨o1,o2⟩:=s.oT q1 q2;show n<=(opM op M).o/\(opM op M').o+n=(opM op M).o;rw [a6,c6];omega
     ·intro q;have q:¬ (M.b=T/\M.y=false):=fun w=>q ⟨a2.trans w.1,a3.trans w.2⟩;show (opM op M').o=(opM op M).o;rw [a6,c6,s.oN q]
     ·intro q
      have:=s.yf (a3.symm.trans q)
      simp only [a2];exact this
     ·simp only [a2,a3,a6];exact d3
    rw [e1] at hend;obtain ⟨j,hj,hd⟩:=ih f (by omega) _ _ s2 hend;refine ⟨j+1,by omega,fun i hi=>?_⟩;obtain ⟨i,rfl⟩:∃ i2,i=i2+1:=⟨i-1,by omega⟩;rw [e1,e2 i];exact hd i (by omega)
  ·refine ⟨0,Nat.zero_le _,fun i _=>?_⟩;rw [run_trap' s.e (g1.2.trans ht),run_trap' s.e' (g2.2.trans (hvt.trans ht))];exact ⟨rfl,s.pr,fun q=>by cases q⟩
 | none=>
  have g1:=next_end' (M':=M) (List.getElem?_eq_getElem s.lt) rfl hop;have hlen:(lst (ps[M.b]'s.lt) M.y).length=M.o:=Nat.le_antisymm (List.getElem?_eq_none_iff.1 hop) s.o
  cases f with
  | zero=>exact absurd (run_none s.e g1.2) hend
  | succ f=>
  have e1:=run_step' (qs:=ps) s.e g1.2 f;have hs1:stepM ps M = { endM (ps[M.b]'s.lt) M with s:=M.s+1 }:=by unfold stepM;rw [g1.1]
  rw [hs1] at e1
  by_cases hbk:M.b=k
  ·subst hbk;have hy:M.y=false:=by
    cases hy:M.y
    ·rfl
    ·have q1:=s.yf hy;have q2:=h.fin;omega
   have hne:¬ (M.b=T/\M.y=false):=fun q=>h.ne q.1.symm;have ho':M'.o=M.o:=s.oN hne;rw [if_pos rfl] at x6;rw [hy] at hlen;have hlen:(ps[M.b]'s.lt).ops.length=M.o:=hlen;have hel:((ps[T]'h.hT).ops.take n).length=n:=by rw [List.length_take];have:=h.nl;omega
   have hear:=h.ear;have htk:∀ j (hj:j<((ps[T]'h.hT).ops.take n).length),(ps[T]'h.hT).ops[j]?=some ((ps[T]'h.hT).ops.take n)[j]:=fun j hj=>by
    rw [List.getElem_take,List.getElem?_eq_getElem]
   have hTm:=h.blk _ (List.getElem_mem h.hT);have hTo:=h.okp _ (List.getElem_mem h.hT);have hEk:∀ o∈(ps[T]'h.hT).ops.take n,okP o=true/\OkM o:=fun o q=>⟨hTo.1 o (List.mem_of_mem_take q),hTm.o o (List.mem_of_mem_take q)⟩;generalize hE0:(ps[T]'h.hT).ops.take n=E at *;have hE12:∀ o∈E,1<=o.op/\o.op<=12:=fun o q=>(hear o q).1;have hb':M'.b<qs.length:=by rw [s.b,h.len];exact s.lt
   have hq':qs[M'.b]'hb'=x':=by
    have:=hx
    rw [<- s.b,List.getElem?_eq_getElem hb'] at this;exact Option.some.inj this
   have hrl:=fun i=>run_list (ps:=qs) E M' i hb' s.e' (fun j hj=>by
    rw [hq',s.y,hy];show x'.ops[M'.o+j]?=_;rw [x6,ho',<- hlen,List.getElem?_append_right (by omega),show (ps[M.b]'s.lt).ops.length+j-(ps[M.b]'s.lt).ops.length=j by omega,List.getElem?_eq_getElem hj]) hE12
   obtain ⟨k1,k2,k3,k4,k5,k6⟩:=exM_keep E M';obtain ⟨r1,r2,r3⟩:=exM_regs E M' hE12;have g2:=next_end' (M':=exM E M') hx (k2.trans s.b) (by
    rw [k3,s.y,hy,k6,ho'];show x'.ops[M.o+E.length]?=none;refine List.getElem?_eq_none ?_;rw [x6,List.length_append];omega)
   have hs2:stepM qs (exM E M') = { endM x' (exM E M') with s:=(exM E M').s+1 }:=by unfold stepM;rw [g2.1]
   have e2:=run_step' (qs:=qs) (k1.trans s.e') g2.2;rw [hs2] at e2;have f1:=h.fin;have hEq:eOf (ps[M.b]'s.lt)=.branch (ps[M.b]'s.lt).a.toNat (ps[M.b]'s.lt).thn.toNat (ps[M.b]'s.lt).els.toNat:=by unfold YtcmlnemokckbdaaGreatDoor.L8.Lv.eOf;rw [if_neg (by omega),if_pos f1]
   have ha:M.r (ps[M.b]'s.lt).a.toNat = M'.r (ps[M.b]'s.lt).a.toNat:=by
    refine s.r _ ?_;rw [hy];exact la_own s.lt hlen (by rw [hEq];simp [_root_.Go.Proofs.YtcmlnemokckbdaaGreatDoor.L8.Lv.E.own])
   have ha2:(exM E M').r (ps[M.b]'s.lt).a.toNat = M'.r (ps[M.b]'s.lt).a.toNat:=r3 _ fun o q e=>(hear o q).2.1 e.symm;have turn:∀ z r,z∈nextE M.b (eOf (ps[M.b]'s.lt))->YtcmlnemokckbdaaGreatDoor.L8.Lv.At (PB ps) r z->M.r r=M'.r r:=fun z r hz q=>by
    refine s.r r ?_;rw [hy];exact la_turn (y:=false) s.lt hlen hz q
   by_cases hz:M.r (ps[M.b]'s.lt).a.toNat = 0
   ·have q1:endM (ps[M.b]'s.lt) M=toM (EL:Int) M:=by unfold endM;rw [if_neg (by omega),if_pos f1,if_pos hz,h.els]
    have q2:endM x' (exM E M')=toM (EL:Int) (exM E M'):=by unfold endM;rw [x1,if_neg (by omega),if_pos f1,x2,ha2,<- ha,if_pos hz,x4,h.els]
    have s2:Si ps T n { toM (EL:Int) M with s:=M.s+1 } { toM (EL:Int) (exM E M') with s:=(exM E M').s+1 }:=by
     refine ⟨s.e,k1.trans s.e',rfl,rfl,r1.trans s.m,r2.trans s.pr,k4.trans s.rn,h.hE,Nat.zero_le _,fun q _=>absurd q.symm h.nE,fun _=>rfl,(fun q=>by cases q),fun r q=>?_⟩;have q:YtcmlnemokckbdaaGreatDoor.L8.Lv.At (PB ps) r ⟨EL,0,0⟩:=q;show M.r r=(exM E M').r r;rw [r3 r fun o ho e=>(hear o ho).2.2 (by rw [<- e];exact q)];exact turn ⟨EL,0,0⟩ r (by rw [hEq,h.els];simp [_root_.Go.Proofs.YtcmlnemokckbdaaGreatDoor.L8.Lv.nextE]) q
    rw [e1,q1] at hend;obtain ⟨j,hj,hd⟩:=ih f (by omega) _ _ s2 hend;refine ⟨j+1+n,by omega,fun i hi=>?_⟩;obtain ⟨i,rfl⟩:∃ i2,i=i2+1+E.length:=⟨i-1-n,by omega⟩;rw [e1,q1,hrl,e2 i,q2];exact hd i (by omega)
   ·have q1:endM (ps[M.b]'s.lt) M=toM (T:Int) M:=by unfold endM;rw [if_neg (by omega),if_pos f1,if_neg hz,h.thn]
    have q2:endM x' (exM E M')=toM (T:Int) (exM E M'):=by unfold endM;rw [x1,if_neg (by omega),if_pos f1,x2,ha2,<- ha,if_neg hz,x3,h.thn]
    rw [e1,q1] at hend;have hl0:∀ j (hj:j<E.length),(lst (ps[T]'h.hT) false)[0+j]?=some E[j]:=fun j hj=>by
     rw [Nat.zero_add];exact htk j hj
    by_cases hf:f<n
    ·exact absurd (run_short f E { toM (T:Int) M with s:=M.s+1 } h.hT s.e (by omega) hl0 hE12) hend
    ·obtain ⟨f2,rfl⟩:∃ f2,f=f2+E.length:=⟨f-n,by omega⟩;have hr1:=run_list (ps:=ps) E { toM (T:Int) M with s:=M.s+1 } f2 h.hT s.e hl0 hE12;obtain ⟨m1,m2,m3,m4,m5,m6⟩:=exM_keep E { toM (T:Int) M with s:=M.s+1 };obtain ⟨n1,n2,n3⟩:=exM_regs E { toM (T:Int) M with s:=M.s+1 } hE12;obtain ⟨v1,v2,v3⟩:=ex_sim (ps:=ps) (b:=T) (y:=false) h.hT E 0 { toM (T:Int) M with s:=M.s+1 } M' hl0 hEk s.m s.pr (fun r q=>turn ⟨T,0,0⟩ r (by rw [hEq,h.thn];simp [_root_.Go.Proofs.YtcmlnemokckbdaaGreatDoor.L8.Lv.nextE]) q);have s2:Si ps T n (exM E { toM (T:Int) M with s:=M.s+1 }) { toM (T:Int) (exM E M') with s:=(exM E M').s+1 }:=by
      have m2':(exM E { toM (T:Int) M with s:=M.s+1 }).b=T:=m2;have m3':(exM E { toM (T:Int) M with s:=M.s+1 }).y=false:=m3;have m6':(exM E { toM (T:Int) M with s:=M.s+1 }).o=n:=by rw [m6,hel];exact Nat.zero_add n
      refine ⟨m1.trans s.e,k1.trans s.e',m2'.symm,m3'.symm,v1,v2,?_,?_,?_,?_,?_,?_,?_⟩
      ·show (exM E M').n=_;rw [k4,m4];exact s.rn
      ·rw [m2'];exact h.hT
      ·simp only [m2',m3',m6'];exact h.nl
      ·intro _ _;rw [m6'];exact ⟨Nat.le_refl _,Nat.zero_add n⟩
      ·intro q;exact absurd ⟨m2',m3'⟩ q
      ·intro q;rw [m3'] at q;cases q
      ·simp only [m2',m3',m6'];intro r q;exact v3 r (by rw [hel,Nat.zero_add];exact q)
     rw [hr1] at hend;obtain ⟨j,hj,hd⟩:=ih f2 (by omega) _ _ s2 hend;refine ⟨j+1+n,by omega,fun i hi=>?_⟩;obtain ⟨i,rfl⟩:∃ i2,i=i2+1+E.length:=⟨i-1-n,by omega⟩;rw [e1,q1,hr1,hrl,e2 i,q2];exact hd i (by omega)
  ·have g2:=next_end' (M':=M') hx s.b (s.end h hbk hx hop);have hs2:stepM qs M' = { endM x' M' with s:=M'.s+1 }:=by unfold stepM;rw [g2.1]
   have e2:=run_step' (qs:=qs) s.e' g2.2;rw [hs2] at e2;have hon:=h.only M.b s.lt hbk;have tn:=hbl.thn;have en:=hbl.els;have fn:=hbl.fin;have fin:∀ N N':Ma,{ endM (ps[M.b]'s.lt) M with s:=M.s+1 } = N->{ endM x' M' with s:=M'.s+1 } = N'->Si ps T n N N'->∃ j,j<=3*(f+1)/\∀ i,j<=i->Dn (runM ps (f+1) M) (runM qs i M'):=by
    rintro N N' rfl rfl s2;rw [e1] at hend;obtain ⟨j,hj,hd⟩:=ih f (by omega) _ _ s2 hend;refine ⟨j+1,by omega,fun i hi=>?_⟩;obtain ⟨i,rfl⟩:∃ i2,i=i2+1:=⟨i-1,by omega⟩;rw [e1,e2 i];exact hd i (by omega)
   have own:∀ r,(eOf (ps[M.b]'s.lt)).own r=true->M.y=false->M.r r=M'.r r:=fun r q hy=>by
    refine s.r r ?_;rw [hy] at hlen ⊢;exact la_own s.lt hlen q
   by_cases f0:(ps[M.b]'s.lt).fin=0
   ·have hE:eOf (ps[M.b]'s.lt)=.jump (ps[M.b]'s.lt).thn.toNat:=by unfold YtcmlnemokckbdaaGreatDoor.L8.Lv.eOf;rw [if_pos f0]
    rw [hE] at hon;refine fin { toM (ps[M.b]'s.lt).thn { M with n:=M.n } with s:=M.s+1 } { toM (ps[M.b]'s.lt).thn { M' with n:=M.n } with s:=M'.s+1 } ?_ ?_ (s.to (by have:=tn.2 (by omega);omega) (fun q=>hon (by simp [_root_.Go.Proofs.YtcmlnemokckbdaaGreatDoor.L8.Lv.E.succ,q])) (by rw [hE];simp [_root_.Go.Proofs.YtcmlnemokckbdaaGreatDoor.L8.Lv.nextE]) hlen)
    ·unfold endM;rw [if_pos f0]
    ·unfold endM;rw [x1,if_pos f0,x3,<- s.rn]
   ·by_cases f1:(ps[M.b]'s.lt).fin=1
    ·have hy:M.y=false:=by
      cases hy:M.y
      ·rfl
      ·have:=s.yf hy;omega
     have hE:eOf (ps[M.b]'s.lt)=.branch (ps[M.b]'s.lt).a.toNat (ps[M.b]'s.lt).thn.toNat (ps[M.b]'s.lt).els.toNat:=by unfold YtcmlnemokckbdaaGreatDoor.L8.Lv.eOf;rw [if_neg f0,if_pos f1]
     have ha:=own (ps[M.b]'s.lt).a.toNat (by rw [hE];simp [_root_.Go.Proofs.YtcmlnemokckbdaaGreatDoor.L8.Lv.E.own]) hy;rw [hE] at hon
     by_cases hz:M.r (ps[M.b]'s.lt).a.toNat = 0
     ·refine fin { toM (ps[M.b]'s.lt).els { M with n:=M.n } with s:=M.s+1 } { toM (ps[M.b]'s.lt).els { M' with n:=M.n } with s:=M'.s+1 } ?_ ?_ (s.to (by have:=en.2 f1;omega) (fun q=>hon (by simp [_root_.Go.Proofs.YtcmlnemokckbdaaGreatDoor.L8.Lv.E.succ,q])) (by rw [hE];simp [_root_.Go.Proofs.YtcmlnemokckbdaaGreatDoor.L8.Lv.nextE]) hlen)
      ·unfold endM;rw [if_neg f0,if_pos f1,if_pos hz]
      ·unfold endM;rw [x1,if_neg f0,if_pos f1,x2,<- ha,if_pos hz,x4,<- s.rn]
     ·refine fin { toM (ps[M.b]'s.lt).thn { M with n:=M.n } with s:=M.s+1 } { toM (ps[M.b]'s.lt).thn { M' with n:=M.n } with s:=M'.s+1 } ?_ ?_ (s.to (by have:=tn.2 (by omega);omega) (fun q=>hon (by simp [_root_.Go.Proofs.YtcmlnemokckbdaaGreatDoor.L8.Lv.E.succ,q])) (by rw [hE];simp [_root_.Go.Proofs.YtcmlnemokckbdaaGreatDoor.L8.Lv.nextE]) hlen)
      ·unfold endM;rw [if_neg f0,if_pos f1,if_neg hz]
      ·unfold endM;rw [x1,if_neg f0,if_pos f1,x2,<- ha,if_neg hz,x3,<- s.rn]
    ·by_cases f2:(ps[M.b]'s.lt).fin=2
     ·have hy:M.y=false:=by
       cases hy:M.y
       ·rfl
       ·have:=s.yf hy;omega
      have hE:eOf (ps[M.b]'s.lt)=.halt (ps[M.b]'s.lt).a.toNat:=by unfold YtcmlnemokckbdaaGreatDoor.L8.Lv.eOf;rw [if_neg f0,if_neg f1,if_pos f2]
      have ha:=own (ps[M.b]'s.lt).a.toNat (by rw [hE];simp [_root_.Go.Proofs.YtcmlnemokckbdaaGreatDoor.L8.Lv.E.own]) hy;have q1:endM (ps[M.b]'s.lt) M = { M with e:=0,v:=M.r (ps[M.b]'s.lt).a.toNat }:=by unfold endM;rw [if_neg f0,if_neg f1,if_pos f2]
      have q2:endM x' M' = { M' with e:=0,v:=M'.r (ps[M.b]'s.lt).a.toNat }:=by unfold endM;rw [x1,if_neg f0,if_neg f1,if_pos f2,x2]
      refine ⟨1,by omega,fun i hi=>?_⟩;obtain ⟨i,rfl⟩:∃ i2,i=i2+1:=⟨i-1,by omega⟩;rw [e1,e2 i,q1,q2,run_over (by simp),run_over (by simp)];exact ⟨rfl,s.pr,fun _=>⟨ha.symm,s.m⟩⟩
     ·have f3:(ps[M.b]'s.lt).fin=3:=by omega
      have hE:eOf (ps[M.b]'s.lt)=.loop (ps[M.b]'s.lt).a.toNat (ps[M.b]'s.lt).thn.toNat:=by unfold YtcmlnemokckbdaaGreatDoor.L8.Lv.eOf;rw [if_neg f0,if_neg f1,if_neg f2]
      have hrn:rndM (ps[M.b]'s.lt).a M'=rndM (ps[M.b]'s.lt).a M:=by
       unfold rndM;rw [s.y]
       cases hy:M.y
       ·have ha:=own (ps[M.b]'s.lt).a.toNat (by rw [hE];simp [_root_.Go.Proofs.YtcmlnemokckbdaaGreatDoor.L8.Lv.E.own]) hy;simp only [Bool.false_eq_true,if_false];rw [ha]
       ·simp only [if_true];rw [s.rn]
      rw [hE] at hon
      by_cases hz:0<rndM (ps[M.b]'s.lt).a M
      ·refine fin { M with n:=rndM (ps[M.b]'s.lt).a M,y:=true,o:=0,s:=M.s+1 } { M' with n:=rndM (ps[M.b]'s.lt).a M,y:=true,o:=0,s:=M'.s+1 } ?_ ?_ ⟨s.e,s.e',s.b,rfl,s.m,s.pr,rfl,s.lt,Nat.zero_le _,(fun _ q=>by cases q),fun _=>rfl,fun _=>f3,fun r q=>s.r r (la_turn s.lt hlen (z:=⟨M.b,2,0⟩) (by rw [hE];simp [_root_.Go.Proofs.YtcmlnemokckbdaaGreatDoor.L8.Lv.nextE]) q)⟩
       ·unfold endM;rw [if_neg f0,if_neg f1,if_neg f2,if_pos hz]
       ·unfold endM;rw [x1,if_neg f0,if_neg f1,if_neg f2,x2,hrn,if_pos hz]
      ·refine fin { toM (ps[M.b]'s.lt).thn { M with n:=rndM (ps[M.b]'s.lt).a M } with s:=M.s+1 } { toM (ps[M.b]'s.lt).thn { M' with n:=rndM (ps[M.b]'s.lt).a M } with s:=M'.s+1 } ?_ ?_ (s.to (by have:=tn.2 (by omega);omega) (fun q=>hon (by simp [_root_.Go.Proofs.YtcmlnemokckbdaaGreatDoor.L8.Lv.E.succ,q])) (by rw [hE];simp [_root_.Go.Proofs.YtcmlnemokckbdaaGreatDoor.L8.Lv.nextE]) hlen)
       ·unfold endM;rw [if_neg f0,if_neg f1,if_neg f2,if_neg hz]
       ·unfold endM;rw [x1,if_neg f0,if_neg f1,if_neg f2,x2,x3,hrn,if_neg hz]
end
end Go.Proofs.YtcmlnemokckbdaaGreatDoor.L8.Sm
namespace Go.Proofs.YtcmlnemokckbdaaGreatDoor.L8.Op
open Go.ChangeShapes Go.WideShapes Go.ChangeAt Go.RowKit
def Dj (x y:Option Addr):Prop:=∀ g g',x=some g->y=some g'->g.block≠g'.block
def NdL (ls:List Pl):Prop:=∀ (i j:Nat) p q,ls[i]?=some p->ls[j]?=some q->(i≠j->Dj p.oa q.oa)/\Dj p.oa q.ba
theorem lrow_lt {W:World} {B:Nat} {a:Option Addr} {c:Nat} {xs:List O} (h:LRow W B a c xs) (g:Addr) (e:a=some g):B<=g.block/\g.block<W.heap.size:=by
 subst e;exact World.ownsRow.lt h g.block rfl
theorem snoc_get {ls:List Pl} {p q:Pl} {i:Nat} (h:(ls++[p])[i]?=some q):ls[i]?=some q\/(i=ls.length/\q=p):=by
 rcases Nat.lt_or_ge i ls.length with hi|hi
 ·rw [List.getElem?_append_left hi] at h;exact .inl h
 ·rw [List.getElem?_append_right hi] at h;have h0:i-ls.length=0:=by
   rcases Nat.eq_zero_or_pos (i-ls.length) with h' | h'
   ·exact h'
   ·rw [List.getElem?_eq_none (by simp;omega)] at h;cases h
  rw [h0] at h;simp at h
  exact .inr ⟨by omega,h.symm⟩
theorem nd_put {ls:List Pl} {p:Pl} {Z:Nat} (h:NdL ls) (old:∀ (i:Nat) q,ls[i]?=some q->(∀ g,q.oa=some g->g.block<Z)/\∀ g,q.ba=some g->g.block<Z) (n1:∀ g,p.oa=some g->Z<=g.block) (n2:∀ g,p.ba=some g->Z<=g.block) (n3:Dj p.oa p.ba):NdL (ls++[p]):=by
 intro i j x y hx hy;rcases snoc_get hx with hx1|⟨hi,hxp⟩
 ·rcases snoc_get hy with hy1|⟨hj,hyp⟩
  ·exact h i j x y hx1 hy1
  ·subst hyp;exact ⟨fun _ g g' e e'=>by have:=(old i x hx1).1 g e;have:=n1 g' e';omega,fun g g' e e'=>by have:=(old i x hx1).1 g e;have:=n2 g' e';omega⟩
 ·subst hxp;rcases snoc_get hy with hy1|⟨hj,hyp⟩
  ·exact ⟨fun _ g g' e e'=>by have:=(old j y hy1).1 g' e';have:=n1 g e;omega,fun g g' e e'=>by have:=(old j y hy1).2 g' e';have:=n1 g e;omega⟩
  ·subst hyp;exact ⟨fun q=>absurd (hi.trans hj.symm) q,n3⟩
structure CpR (W:World) (B:Nat) (a:Option Addr) (c:Nat) (ps:List Bk) (ls:List Pl):Prop where
 len:ls.length=ps.length
 row:W.ownsRow B 25 6 (.slice a ps.length c) ps.length (bcells ps ls)
 ins:∀ (i:Nat) p x,ls[i]?=some p->ps[i]?=some x->LRow W B p.oa p.oc x.ops/\LRow W B p.ba p.bc x.body
 nd:NdL ls
theorem copiedProgram_own (ao:Option Addr) (cap:Nat) (ps:List Bk) (w:World) (h:PAt w ao ps) (hs:Small ps) :
  Calls Tryz.prog 15 #[.agg #[.slice ao ps.length cap]] w fun e w'=>∃ a c ls,e=.returned (.agg #[.slice a ps.length c])/\CpR w' (w.heap.size+3) a c ps ls/\PAt w' a ps/\Below w.heap.size w w':=by
 obtain ⟨i0,hi,hi2⟩:=Option.map_eq_some_iff.1 info25;simp only [Prod.mk.injEq] at hi2;obtain ⟨hz0,hz1,hz2⟩:=hi2;have HI:Hid (Tryz.prog.info? 25=some i0/\i0.zero=some (.agg #[.slice none 0 0,.int .i8 0,.int .u8 0,.slice none 0 0,.int .i64 0,.int .i64 0])/\i0.size=6/\i0.bytes=72):=⟨hi,hz0,hz1,hz2⟩;clear hi hz0 hz1 hz2;have hn:=hs.n;have HS:Hid (Small ps):=hs;have HP:Hid (PAt w ao ps):=h;clear h hs;have HQ:Hid (Cq w (((w.alloc (.cells #[.slice ao ps.length cap] 40)).alloc (.cells #[.slice none 0 0] 40)).alloc (.cells #[.slice none 0 0] 40)) ao cap ps 0 (.slice none 0 0) []):=Cq.start w ao cap ps 40 40 40;go_enter Tryz.func15,Tryz.ntmps15;go_wp2
 generalize (((w.alloc (.cells #[.slice ao ps.length cap] 40)).alloc (.cells #[.slice none 0 0] 40)).alloc (.cells #[.slice none 0 0] 40))=V at *
 go_loopw [4] (fun i wr=>∃ (k:Nat) (v:Value) (ls:List Pl),k<=ps.length/\i=.int .i64 k/\Cq w wr ao cap ps k v ls/\NdL ls) (fun i _=>ps.length-(intOf i).toNat)
 case atStart=>exact ⟨0,_,[],by omega,rfl,HQ.out,fun i j p q hp=>by simp at hp⟩
 case round=>
  rename World=>wr;obtain ⟨k,v,ls,hk,rfl,hq,hnd⟩:=hrel;clear HQ;have HND:Hid (NdL ls):=hnd;clear hnd;have HQ:Hid (Cq w wr ao cap ps k v ls):=hq;have cp:=hq.p.c 0 _ rfl;have zz:=hq.z
  by_cases hlt:k<ps.length
  ·obtain ⟨b,f,rfl,hz,hx⟩:=HP.out.is (by omega);obtain ⟨⟨oa,oc,ba,bc⟩,hp,h5⟩:=hx k hlt;obtain ⟨c0,c1,c2,c3,c4,c5⟩:=hp.below hq.b hz;simp only at c0 c3
   obtain ⟨-,-,-,s4,s5⟩:=HS.out.l ps[k] (List.getElem_mem hlt);have HO:Hid (∀ w1,Below w.heap.size w w1->Calls Tryz.prog 7 #[.slice oa ps[k].ops.length oc] w1 fun e w'=>∃ a c,e=.returned (.slice a ps[k].ops.length c)/\w'.ownsRow w1.heap.size 60 5 (.slice a ps[k].ops.length c) ps[k].ops.length (ocells ps[k].ops)/\Below w1.heap.size w1 w'):=fun w1 hb=>copiedOps_any _ _ _ _ (h5.o.below hb) s4;have HY:Hid (∀ w1,Below w.heap.size w w1->Calls Tryz.prog 7 #[.slice ba ps[k].body.length bc] w1 fun e w'=>∃ a c,e=.returned (.slice a ps[k].body.length c)/\w'.ownsRow w1.heap.size 60 5 (.slice a ps[k].body.length c) ps[k].body.length (ocells ps[k].body)/\Below w1.heap.size w1 w'):=fun w1 hb=>copiedOps_any _ _ _ _ (h5.b.below hb) s5;clear hx hp h5 HP hq s4 s5;have HXK:Hid (∀ {V':World} {v':Value} {V:World} {pl:Pl},Cq w V (some ⟨b,f,none⟩) cap ps k v ls->LRow V (w.heap.size+3) pl.oa pl.oc ps[k].ops->LRow V (w.heap.size+3) pl.ba pl.bc ps[k].body->V.grownBy V' v.ownBlock->V'.ownsRow (w.heap.size+3) 25 6 v' (k+1) (bcells (ps.take k) ls++[.slice pl.oa ps[k].ops.length pl.oc,.int .i8 ps[k].fin,.int .u8 ps[k].a,.slice pl.ba ps[k].body.length pl.bc,.int .i64 ps[k].thn,.int .i64 ps[k].els])->Cq w (V'.setCell ⟨w.heap.size+1+1,0,none⟩ v') (some ⟨b,f,none⟩) cap ps (k+1) v' (ls++[pl])):=fun h1 h2 h3 h4 h5=>h1.put hlt h2 h3 h4 h5;generalize ps[k]=x at *;go_wp2_with (first
    | (go_at_call 7;refine Calls.mono (HO.out _ (HQ.out.b.alloc HQ.out.b.size _)) ?_;rintro e w2 ⟨a1,d1,rfl,hr1,hb⟩;have HX:Hid (Cx w wr w2 x (.slice oa x.ops.length oc) (.slice ba x.body.length bc)):=Cx.start hb;have HR1:Hid (LRow w2 (wr.heap.size+1) a1 d1 x.ops):=(by rw [show wr.heap.size+1=(wr.alloc (.cells #[.slice oa x.ops.length oc,.int .i8 x.fin,.int .u8 x.a,.slice ba x.body.length bc,.int .i64 x.thn,.int .i64 x.els] 25)).heap.size by simp];exact hr1);have HZ2:Hid (wr.heap.size<w2.heap.size):=HX.out.lt;have HN1:Hid (∀ g,a1=some g->wr.heap.size+1<=g.block/\g.block<w2.heap.size):=(fun g e=>lrow_lt HR1.out g e);clear hb hr1 HO c0 c1 c2 c3 c4 c5 cp;obtain ⟨c0,c1,c2,c3,c4,c5⟩:=HX.out.c.b6;obtain ⟨f0,f3⟩:=HX.out.c.f6;have zx:=HX.out.lt;have g3:=(HX.out.set0 (.slice a1 x.ops.length d1)).c.c 3 _ rfl)
    | (go_at_call 7;refine Calls.mono (HY.out _ (HQ.out.b.trans ((HX.out.set0 (.slice a1 x.ops.length d1)).b.mono HQ.out.b.size))) ?_;rintro e w3 ⟨a2,d2,rfl,hr2,hb⟩;have HX3:Hid (Cx w wr w3 x (.slice a1 x.ops.length d1) (.slice ba x.body.length bc)):=(HX.out.set0 _).go hb;have HR1':Hid (LRow w3 (wr.heap.size+1) a1 d1 x.ops):=row_below (row_set HR1.out (Nat.lt_succ_self _) _) hb;have HR2:Hid (LRow w3 (wr.heap.size+1) a2 d2 x.body):=row_le hr2 (by rw [World.size_setCell];exact zx);have HN2:Hid (∀ g,a2=some g->w2.heap.size<=g.block):=(fun g e=>by have:=(lrow_lt hr2 g e).1;rw [World.size_setCell] at this;exact this);clear hb hr2 HY HX HR1 c0 c1 c2 c3 c4 c5 f0 f3 zx g3;have k3:=HX3.out.c.c 3 _ rfl;have l3:=HX3.out.c.f 3;have zx:=HX3.out.lt;have HX4:Hid (Cx w wr (w3.setCell ⟨wr.heap.size,3,none⟩ (.slice a2 x.body.length d2)) x (.slice a1 x.ops.length d1) (.slice a2 x.body.length d2)):=HX3.out.set3 _;have HQ4:Hid (Cq w (w3.setCell ⟨wr.heap.size,3,none⟩ (.slice a2 x.body.length d2)) (some ⟨b,f,none⟩) cap ps k v ls):=HQ.out.go HX4.out.b;obtain ⟨c0,c1,c2,c3,c4,c5⟩:=HX4.out.c.b6;have co:=HQ4.out.o.c 0 _ rfl)
    | (at_builtin;refine wpList_append_lies _ rfl (.tmp 27) (.tmp 29) 38 rfl (w.heap.size+3) 25 i0 (.agg #[.slice none 0 0,.int .i8 0,.int .u8 0,.slice none 0 0,.int .i64 0,.int .i64 0]) 6 72 Tryz.underlying38 HI.out.1 HI.out.2.1 HI.out.2.2.1 HI.out.2.2.2 rfl (by decide) _ _ _ rfl (HQ4.out.row.alloc _) ⟨w3.heap.size,0,none⟩ 1 1 [.slice a1 x.ops.length d1,.int .i8 x.fin,.int .u8 x.a,.slice a2 x.body.length d2,.int .i64 x.thn,.int .i64 x.els] rfl rfl (by have hh:=heap_alloc_new (w3.setCell ⟨wr.heap.size,3,none⟩ (.slice a2 x.body.length d2)) (Obj.cells #[.slice a1 x.ops.length d1,.int .i8 x.fin,.int .u8 x.a,.slice a2 x.body.length d2,.int .i64 x.thn,.int .i64 x.els] 25);rw [World.size_setCell] at hh;exact World.news_of_block hh) (by simp [Value.oneCell']) (by decide) (by unfold maxLen;omega) (by omega) (by simp;omega) (w3.heap.size+1) (by simp) ?_;intro g cap4 w4 hown4 hgrow4 hat4 hlt4;have HQ5:Hid (Cq w ((w3.setCell ⟨wr.heap.size,3,none⟩ (.slice a2 x.body.length d2)).alloc (Obj.cells #[.slice a1 x.ops.length d1,.int .i8 x.fin,.int .u8 x.a,.slice a2 x.body.length d2,.int .i64 x.thn,.int .i64 x.els] 25)) (some ⟨b,f,none⟩) cap ps k v ls):=HQ4.out.go ((Below.refl _ _).alloc (Nat.le_refl _) _);have hbx:=HQ5.out.box hgrow4;have co4:=hbx.c 0 _ rfl;have fo4:=hbx.f 0;have zo4:=hbx.lt;have HF:Hid (Cq w (w4.setCell ⟨w.heap.size+1+1,0,none⟩ (.slice (some ⟨g,0,none⟩) (k+1) cap4)) (some ⟨b,f,none⟩) cap ps (k+1) (.slice (some ⟨g,0,none⟩) (k+1) cap4) (ls++[⟨a1,d1,a2,d2⟩])):=HXK.out (pl:=⟨a1,d1,a2,d2⟩) HQ5.out (row_le ((row_set HR1'.out (Nat.lt_succ_self _) _).alloc _) (by omega)) (row_le ((row_set HR2.out (Nat.lt_succ_self _) _).alloc _) (by omega)) hgrow4 hown4;clear hown4 hgrow4 hat4 hlt4 hbx c0 c1 c2 c3 c4 c5 co HQ4 HQ5))
   have HNn:Hid (NdL (ls++[⟨a1,d1,a2,d2⟩])):=by
    refine nd_put (Z:=wr.heap.size+1) HND.out (fun i q hi=>?_) (fun g e=>(HN1.out g e).1) (fun g e=>?_) fun g g' e e'=>?_
    ·have hil:i<ls.length:=(List.getElem?_eq_some_iff.1 hi).1;have hip:i<ps.length:=by have:=HQ.out.len;omega
     obtain ⟨r1,r2⟩:=HQ.out.ins i q ps[i] hi (List.getElem?_eq_getElem hip);exact ⟨fun g e=>by have:=(lrow_lt r1 g e).2;omega,fun g e=>by have:=(lrow_lt r2 g e).2;omega⟩
    ·have:=HN2.out g e
     have:=HZ2.out
     omega
    ·have:=(HN1.out g e).2
     have:=HN2.out g' e'
     omega
   go_roundw
   case rel=>exact ⟨k+1,_,_,by omega,by go_num,HF.out,HNn.out⟩
   case measure=>simp [intOf];omega
  ·obtain rfl:k=ps.length:=by omega
   obtain ⟨a,c,e0,hpa⟩:=HQ.out.done HS.out v;have HA:Hid (PAt (wr.setCell ⟨w.heap.size+1,0,none⟩ v) a ps):=hpa;subst e0;have HC:Hid (CpR (wr.setCell ⟨w.heap.size+1,0,none⟩ (.slice a ps.length c)) (w.heap.size+3) a c ps ls):=by
    refine ⟨HQ.out.len,?_,fun i p x hp hx=>?_,HND.out⟩
    ·have:=HQ.out.row
     rw [List.take_length] at this;exact row_set this (by omega) _
    ·obtain ⟨r1,r2⟩:=HQ.out.ins i p x hp hx;exact ⟨row_set r1 (by omega) _,row_set r2 (by omega) _⟩
   have co:=hq.o.c 0 _ rfl;have r0:=hq.r.c 0 _ rfl;have rf:=hq.r.f 0;have rz:=hq.r.lt;clear hq hpa HP;go_wp2
   refine bodyPost_ret (v:=.agg #[.slice a ps.length c]) (by simp [results,Tryz.results15,go_sem,r0]) rfl ⟨a,c,ls,rfl,HC.out,HA.out,HQ.out.b.setCell (by show w.heap.size<=w.heap.size+1;omega) _⟩
def bkOf (a:Option Addr):Option Nat:=a.map (·.block)
theorem own_sl (a:Option Addr) (n c:Nat):(Value.slice a n c).ownBlock=bkOf a:=by cases a <;> rfl
structure Qs (W:World) (B g:Nat) (qs:List Bk) (ls:List Pl):Prop where
 len:ls.length=qs.length
 lt:g<W.heap.size
 z:∀ j,W.frozen? ⟨g,j,none⟩=false
 b:∀ (i:Nat) x p,qs[i]?=some x->ls[i]?=some p->BAt W g (i*6) x p
 r:∀ (i:Nat) x p,qs[i]?=some x->ls[i]?=some p->LRow W B p.oa p.oc x.ops/\LRow W B p.ba p.bc x.body
 ng:∀ (i:Nat) p,ls[i]?=some p->bkOf p.oa≠some g/\bkOf p.ba≠some g
 nd:NdL ls
 ok:∀ x∈qs,x.Ok/\(∀ o∈x.ops,o.Ok)/\(∀ o∈x.body,o.Ok)/\x.ops.length<=8192/\x.body.length<=8192
 n:qs.length<=8192
theorem row_ne {w:World} {B B':Nat} {e e':TypeId} {z z':Nat} {u v:Value} {n m:Nat} {xs ys:List Value} (h:w.ownsRow B e z u n xs) (hv:w.ownsRow B' e' z' v m ys) (he:e≠e') {g:Nat} (hg:v.ownBlock=some g):u.ownBlock≠some g:=by
 rcases h.2 with ⟨rfl,_⟩|⟨g1,cap,cur,rfl,_,h3,_⟩
 ·intro q;cases q
 ·intro q;rcases hv.2 with ⟨rfl,_⟩|⟨g',cap',cur',rfl,_,h3',_⟩
  ·cases hg
  ·injection q with q
   injection hg with hg
   simp only at q hg
   subst q;subst hg;rw [h3] at h3'
   injection h3' with h3'
   injection h3' with _ h4
   exact he h4
theorem Qs.start {W:World} {B:Nat} {a:Option Addr} {c:Nat} {ps:List Bk} {ls:List Pl} (h:CpR W B a c ps ls) (hs:Small ps) (h0:0<ps.length):∃ g,a=some ⟨g,0,none⟩/\Qs W B g ps ls:=by
 have hrow:=h.row;rcases hrow.2 with ⟨_,h1⟩|⟨g,c',cur,e,_⟩
 ·omega
 ·injection e with e1 e2 e3
  subst e1;have hz:=(hrow.lt g rfl).2;have k:∀ j u,(bcells ps ls)[j]?=some u->W.cell? ⟨g,0+j,none⟩=some u:=fun j u hj=>by have:=hrow.cells (g:=g) rfl j u hj;rw [add_at] at this;exact this
  refine ⟨g,rfl,h.len,hz,fun j=>?_,fun i x p hx hp=>?_,fun i x p hx hp=>h.ins i p x hp hx,fun i p hp=>?_,h.nd,hs.l,hs.n⟩
  ·obtain ⟨g1,cap1,cur1,e1,-,h3,-⟩:=hrow.2.resolve_left (fun q=>by omega)
   injection e1 with e1 _ _
   injection e1 with e1
   injection e1 with e1
   subst e1;simp [World.frozen?,h3]
  ·obtain ⟨hi,rfl⟩:=List.getElem?_eq_some_iff.1 hx;obtain ⟨hi',rfl⟩:=List.getElem?_eq_some_iff.1 hp;obtain ⟨g0,g1,g2,g3,g4,g5⟩:=bcells_get ps ls h.len.symm i hi hi';have k0:=k _ _ g0;have k1:=k _ _ g1;have k2:=k _ _ g2;have k3:=k _ _ g3;have k4:=k _ _ g4;have k5:=k _ _ g5;simp only [Nat.zero_add] at k0 k1 k2 k3 k4 k5;exact ⟨k0,k1,k2,k3,k4,k5⟩
  ·have hi:i<ps.length:=by have:=(List.getElem?_eq_some_iff.1 hp).1;rw [h.len] at this;exact this
   obtain ⟨r1,r2⟩:=h.ins i p ps[i] hp (List.getElem?_eq_getElem hi);have n1:=row_ne r1 hrow (by decide) (g:=g) rfl;have n2:=row_ne r2 hrow (by decide) (g:=g) rfl;rw [own_sl] at n1 n2;exact ⟨n1,n2⟩
theorem Qs.next {W W':World} {B g:Nat} {qs:List Bk} {ls:List Pl} (h:Qs W B g qs ls) (hb:Below W.heap.size W W'):Qs W' B g qs ls:=
 ⟨h.len,Nat.lt_of_lt_of_le h.lt hb.size,fun j=>by rw [(bcell hb).2 _ _ h.lt];exact h.z j,fun i x p hx hp=>(h.b i x p hx hp).below hb h.lt,fun i x p hx hp=>⟨row_below (h.r i x p hx hp).1 hb,row_below (h.r i x p hx hp).2 hb⟩,h.ng,h.nd,h.ok,h.n⟩
theorem Qs.done {W:World} {B g:Nat} {qs:List Bk} {ls:List Pl} (h:Qs W B g qs ls):PAt W (some ⟨g,0,none⟩) qs:=by
 refine ⟨by have:=h.n;omega,fun _=>⟨g,0,rfl,h.lt,fun i hi=>?_⟩⟩;have hi':i<ls.length:=by rw [h.len];exact hi
 have e1:=List.getElem?_eq_getElem hi;have e2:=List.getElem?_eq_getElem hi';obtain ⟨s1,s2,s3,s4,s5⟩:=h.ok _ (List.getElem_mem hi);obtain ⟨r1,r2⟩:=h.r i _ _ e1 e2;refine ⟨ls[i],?_,⟨s1,opsAt_row r1 s2 s4,opsAt_row r2 s3 s5,row_cap r1⟩⟩
 have:=h.b i _ _ e1 e2
 rw [Nat.zero_add];exact this
theorem Qs.upd {W W':World} {B g:Nat} {qs:List Bk} {ls:List Pl} (h:Qs W B g qs ls) {k:Nat} {x:Bk} {p:Pl} (hx:qs[k]?=some x) (hp:ls[k]?=some p) (hg:W.grownBy W' (bkOf p.oa)) {a':Option Addr} {c':Nat} {os:List O} (hrow:LRow W' B a' c' os) (hnew:∀ e,bkOf a'=some e->bkOf p.oa=some e\/W.heap.size<=e) (hok:∀ o∈os,o.Ok) (hl:os.length<=8192) :
  Qs (W'.setCell ⟨g,k*6,none⟩ (.slice a' os.length c')) B g (qs.set k { x with ops:=os }) (ls.set k ⟨a',c',p.ba,p.bc⟩):=by
 have hkq:k<qs.length:=(List.getElem?_eq_some_iff.1 hx).1;have hkl:k<ls.length:=(List.getElem?_eq_some_iff.1 hp).1;have hgk:=h.ng k p hp;have hsz:=hg.size;have hbg:W'.heap[g]?=W.heap[g]?:=hg.block g h.lt fun e=>hgk.1 e.symm;have oldlt:∀ (i:Nat) y q,qs[i]?=some y->ls[i]?=some q->(∀ e,bkOf q.oa=some e->e<W.heap.size)/\∀ e,bkOf q.ba=some e->e<W.heap.size:=fun i y q hy hq=>by
  obtain ⟨r1,r2⟩:=h.r i y q hy hq;exact ⟨fun e q2=>(World.ownsRow.lt r1 e (by rw [own_sl];exact q2)).2,fun e q2=>(World.ownsRow.lt r2 e (by rw [own_sl];exact q2)).2⟩
 have farb:∀ {a:Option Addr} {c:Nat} {xs:List O},LRow W B a c xs->(∀ e,bkOf a=some e->bkOf p.oa≠some e)->bkOf a≠some g->LRow (W'.setCell ⟨g,k*6,none⟩ (.slice a' os.length c')) B a c xs:=fun {a c xs} hr h1 h2=>by
  have r1:LRow W' B a c xs:=World.ownsRow.kept hr hg (by
   rw [own_sl]
   cases e:bkOf a with
   | none=>left;rfl
   | some e1=>right;intro q;exact h1 e1 e q.symm)
  refine World.ownsRow.kept (row:=some g) r1 ⟨rfl,rfl,rfl,by simp,fun j hj hne=>Below.heap_setCell _ _ _ _ fun e=>hne (by rw [e])⟩ ?_;rw [own_sl];exact .inr h2
 have hndk:∀ (j:Nat) q,ls[j]?=some q->(j≠k->∀ e,bkOf q.oa=some e->bkOf p.oa≠some e)/\∀ e,bkOf q.ba=some e->bkOf p.oa≠some e:=fun j q hq=>by
  obtain ⟨d1,d2⟩:=h.nd k j p q hp hq;refine ⟨fun hne e q1 q2=>?_,fun e q1 q2=>?_⟩
  ·obtain ⟨u,u1,u2⟩:=Option.map_eq_some_iff.1 q1;obtain ⟨v,v1,v2⟩:=Option.map_eq_some_iff.1 q2;exact d1 (fun q=>hne q.symm) v u v1 u1 (v2.trans u2.symm)
  ·obtain ⟨u,u1,u2⟩:=Option.map_eq_some_iff.1 q1;obtain ⟨v,v1,v2⟩:=Option.map_eq_some_iff.1 q2;exact d2 v u v1 u1 (v2.trans u2.symm)
 have hnewg:bkOf a'≠some g:=fun e=>by
  rcases hnew g e with q|q
  ·exact hgk.1 q
  ·have:=h.lt;omega
 refine ⟨by simp [h.len],by simpa using Nat.lt_of_lt_of_le h.lt hsz,fun j=>?_,fun i y q hy hq=>?_,fun i y q hy hq=>?_,fun i q hq=>?_,fun i j q1 q2 h1 h2=>?_,fun y hy=>?_,by simpa using h.n⟩
 ·rw [World.frozen?_setCell,World.frozen?_of_block hbg];exact h.z j
 ·have cel:∀ j,j≠k*6->(W'.setCell ⟨g,k*6,none⟩ (.slice a' os.length c')).cell? ⟨g,j,none⟩=W.cell? ⟨g,j,none⟩:=fun j hj=>by
   rw [World.cell?_setCell_other _ _ _ _ (by intro q;injection q with _ q;exact hj q.symm),World.cell?_of_block hbg]
  rw [List.getElem?_set] at hy hq
  by_cases e:k=i
  ·subst e;rw [if_pos rfl,if_pos hkq] at hy;rw [if_pos rfl,if_pos hkl] at hq;obtain rfl:=Option.some.inj hy;obtain rfl:=Option.some.inj hq;have old:=h.b k x p hx hp;refine ⟨?_,by rw [cel _ (by omega)];exact old.c1,by rw [cel _ (by omega)];exact old.c2,by rw [cel _ (by omega)];exact old.c3,by rw [cel _ (by omega)];exact old.c4,by rw [cel _ (by omega)];exact old.c5⟩;have there:W'.cell? ⟨g,k*6,none⟩=some (.slice p.oa x.ops.length p.oc):=by rw [World.cell?_of_block hbg];exact old.c0
   exact World.cell?_setCell_same _ _ _ there
  ·rw [if_neg e] at hy hq;have old:=h.b i y q hy hq;exact ⟨by rw [cel _ (by omega)];exact old.c0,by rw [cel _ (by omega)];exact old.c1,by rw [cel _ (by omega)];exact old.c2,by rw [cel _ (by omega)];exact old.c3,by rw [cel _ (by omega)];exact old.c4,by rw [cel _ (by omega)];exact old.c5⟩
 ·rw [List.getElem?_set] at hy hq
  by_cases e:k=i
  ·subst e;rw [if_pos rfl,if_pos hkq] at hy;rw [if_pos rfl,if_pos hkl] at hq;obtain rfl:=Option.some.inj hy;obtain rfl:=Option.some.inj hq;refine ⟨?_,farb (h.r k x p hx hp).2 (hndk k p hp).2 hgk.2⟩;refine World.ownsRow.kept (row:=some g) hrow ⟨rfl,rfl,rfl,by simp,fun j hj hne=>Below.heap_setCell _ _ _ _ fun e=>hne (by rw [e])⟩ ?_;rw [own_sl];exact .inr hnewg
  ·rw [if_neg e] at hy hq;obtain ⟨r1,r2⟩:=h.r i y q hy hq;exact ⟨farb r1 ((hndk i q hq).1 fun q=>e q.symm) (h.ng i q hq).1,farb r2 (hndk i q hq).2 (h.ng i q hq).2⟩
 ·rw [List.getElem?_set] at hq
  by_cases e:k=i
  ·rw [if_pos e,if_pos hkl] at hq;obtain rfl:=Option.some.inj hq;exact ⟨hnewg,hgk.2⟩
  ·rw [if_neg e] at hq;exact h.ng i q hq
 ·have dj:∀ (j:Nat) q y,ls[j]?=some q->qs[j]?=some y->(j≠k->Dj a' q.oa/\Dj q.oa a')/\Dj a' q.ba:=fun j q y hq hy=>by
   obtain ⟨o1,o2⟩:=oldlt j y q hy hq;refine ⟨fun hne=>⟨fun u v e1 e2=>?_,fun v u e2 e1=>?_⟩,fun u v e1 e2=>?_⟩
   ·have q1:bkOf a'=some u.block:=by rw [e1];rfl
    have q2:bkOf q.oa=some v.block:=by rw [e2];rfl
    intro q3;rcases hnew _ q1 with q4|q4
    ·exact (hndk j q hq).1 hne _ q2 (by rw [q4,q3])
    ·have:=o1 _ q2;omega
   ·have q1:bkOf a'=some u.block:=by rw [e1];rfl
    have q2:bkOf q.oa=some v.block:=by rw [e2];rfl
    intro q3;rcases hnew _ q1 with q4|q4
    ·exact (hndk j q hq).1 hne _ q2 (by rw [q4,q3])
    ·have:=o1 _ q2;omega
   ·have q1:bkOf a'=some u.block:=by rw [e1];rfl
    have q2:bkOf q.ba=some v.block:=by rw [e2];rfl
    intro q3;rcases hnew _ q1 with q4|q4
    ·exact (hndk j q hq).2 _ q2 (by rw [q4,q3])
    ·have:=o2 _ q2;omega
  have got:∀ (j:Nat) q,(ls.set k ⟨a',c',p.ba,p.bc⟩)[j]?=some q->∃ q0 y,ls[j]?=some q0/\qs[j]?=some y/\q.ba=q0.ba/\((j=k/\q.oa=a')\/(j≠k/\q.oa=q0.oa)):=fun j q hq=>by
   rw [List.getElem?_set] at hq
   by_cases e:k=j
   ·subst e;rw [if_pos rfl,if_pos hkl] at hq;obtain rfl:=Option.some.inj hq;exact ⟨p,x,hp,hx,rfl,.inl ⟨rfl,rfl⟩⟩
   ·rw [if_neg e] at hq;have hj:j<qs.length:=by rw [<- h.len];exact (List.getElem?_eq_some_iff.1 hq).1
    exact ⟨q,qs[j],hq,List.getElem?_eq_getElem hj,rfl,.inr ⟨fun q=>e q.symm,rfl⟩⟩
  obtain ⟨u1,y1,l1,m1,b1,c1⟩:=got i q1 h1;obtain ⟨u2,y2,l2,m2,b2,c2⟩:=got j q2 h2;obtain ⟨d1,d2⟩:=h.nd i j u1 u2 l1 l2;rcases c1 with ⟨rfl,e1⟩|⟨n1,e1⟩
  ·rcases c2 with ⟨rfl,e2⟩|⟨n2,e2⟩
   ·exact ⟨fun q=>absurd rfl q,by rw [e1,b2];exact (dj _ u2 y2 l2 m2).2⟩
   ·exact ⟨fun _=>by rw [e1,e2];exact ((dj j u2 y2 l2 m2).1 n2).1,by rw [e1,b2];exact (dj j u2 y2 l2 m2).2⟩
  ·rcases c2 with ⟨rfl,e2⟩|⟨n2,e2⟩
   ·exact ⟨fun _=>by rw [e1,e2];exact ((dj i u1 y1 l1 m1).1 n1).2,by rw [e1,b2];exact d2⟩
   ·exact ⟨fun q=>by rw [e1,e2];exact d1 q,by rw [e1,b2];exact d2⟩
 ·rcases List.mem_or_eq_of_mem_set hy with hm|rfl
  ·exact h.ok y hm
  ·obtain ⟨s1,s2,s3,s4,s5⟩:=h.ok x (List.mem_of_getElem? hx);exact ⟨⟨s1.1,s1.2,s1.3,s1.4,s1.5,s1.6,s1.7,s1.8⟩,hok,s3,hl,s5⟩
end Go.Proofs.YtcmlnemokckbdaaGreatDoor.L8.Op
