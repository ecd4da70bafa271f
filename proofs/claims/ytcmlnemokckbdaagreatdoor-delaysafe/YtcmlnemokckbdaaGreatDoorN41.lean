/- Parts Xb Xc. -/
import Derived.Test.YtcmlnemokckbdaaGreatDoorN40
import Derived.Test.YtcmlnemokckbdaaGreatDoorN30
set_option maxRecDepth 20000
namespace Go.Proofs.YtcmlnemokckbdaaGreatDoor.L8.Sm
open Go.ChangeShapes Go.WideShapes Go.ChangeAt Go.RowKit
open YtcmlnemokckbdaaGreatDoor.L8.Op
open YtcmlnemokckbdaaGreatDoor.L8.Lv (PB bOf eOf wOf rdL Pc pb_at listOf nextE)
theorem ok_kind {o:O} (h:okP o=true):∃ (n:Nat) (hn:n<24),o.op=n/\1<=n/\n<=17/\kOf o.op=some (kindL[n]'hn)/\okF (kindL[n]'hn) o=true:=by
 have hM:=h;unfold okP okO at h;simp only [Bool.and_eq_true,decide_eq_true_eq] at h;obtain ⟨⟨h1,h17⟩,h2⟩:=h
 split at h2
 ·rename_i k hk;obtain ⟨n,hn,e,rfl⟩:=kOf_some hk;exact ⟨n,hn,e,by omega,by omega,hk,h2⟩
 ·cases h2
theorem kinds:∀ n:Fin 24,1<=n.val->n.val<=17->((kindL[n.val]'(n.isLt)).A=decide (2<=n.val))/\((kindL[n.val]'(n.isLt)).B=decide (¬ (n.val=1\/n.val=11\/n.val=15\/n.val=17)))/\((kindL[n.val]'(n.isLt)).D=decide (n.val<=15)):=by decide
theorem rd_a {o:O} (h:okP o=true) (h2:2<=o.op):o.a.toNat∈rdL o:=by
 obtain ⟨n,hn,e,n1,n17,hk,hf⟩:=ok_kind h;obtain ⟨kA,-,-⟩:=kinds ⟨n,hn⟩ n1 n17;simp only at kA
 have kA:(kindL[n]'hn).A=true:=by rw [kA];exact decide_eq_true (by omega)
 unfold YtcmlnemokckbdaaGreatDoor.L8.Lv.rdL;rw [hk];simp only [hf,kA,Bool.and_self,if_true]
 split <;> simp
theorem rd_b {o:O} (h:okP o=true) (h2:¬ (o.op=1\/o.op=11\/o.op=15\/o.op=17)):o.b.toNat∈rdL o:=by
 obtain ⟨n,hn,e,n1,n17,hk,hf⟩:=ok_kind h;obtain ⟨kA,kB,-⟩:=kinds ⟨n,hn⟩ n1 n17;simp only at kA kB
 have kA:(kindL[n]'hn).A=true:=by rw [kA];exact decide_eq_true (by omega)
 have kB:(kindL[n]'hn).B=true:=by rw [kB];exact decide_eq_true (by omega)
 unfold YtcmlnemokckbdaaGreatDoor.L8.Lv.rdL;rw [hk];simp only [hf,kA,kB,Bool.and_self,if_true,Bool.true_and]
 split
 ·simp
 ·rename_i q;have q:o.a=o.b:=by simpa using q
  rw [q];simp
theorem wr_is {o:O} (h:okP o=true):(wOf o).wr=if o.op<=15 then some o.d.toNat else none:=by
 obtain ⟨n,hn,e,n1,n17,hk,hf⟩:=ok_kind h;obtain ⟨-,-,kD⟩:=kinds ⟨n,hn⟩ n1 n17;simp only at kD
 show (if wrB o then some o.d.toNat else none)=_;rw [wr_yes hk hf,kD]
 by_cases q:n<=15
 ·rw [if_pos (decide_eq_true q),if_pos (by omega)]
 ·rw [if_neg (by simpa using q),if_neg (by omega)]
def pt (y:Bool):Nat:=if y then 2 else 0
theorem pt_or (y:Bool):pt y=0\/pt y=2:=by cases y <;> simp [pt]
theorem listOf_pt (x:Bk) (y:Bool):listOf (bOf x) (pt y)=(lst x y).map wOf:=by cases y <;> rfl
section
variable {ps:List Bk} {b o r:Nat} {y:Bool} {op:O}
theorem la_read (hb:b<ps.length) (ho:(lst ps[b] y)[o]?=some op) (hr:r∈rdL op):YtcmlnemokckbdaaGreatDoor.L8.Lv.At (PB ps) r ⟨b,pt y,o⟩:=by
 refine .read (k:=bOf ps[b]) (pb_at hb) ?_;unfold YtcmlnemokckbdaaGreatDoor.L8.Lv.readAt;rw [if_pos (pt_or y)];simp only [listOf_pt,List.getElem?_map,ho,Option.map_some];simpa [_root_.Go.Proofs.YtcmlnemokckbdaaGreatDoor.L8.Lv.wOf] using hr
theorem la_next (hb:b<ps.length) (ho:(lst ps[b] y)[o]?=some op) (hw:(wOf op).wr≠some r) (h:YtcmlnemokckbdaaGreatDoor.L8.Lv.At (PB ps) r ⟨b,pt y,o+1⟩):YtcmlnemokckbdaaGreatDoor.L8.Lv.At (PB ps) r ⟨b,pt y,o⟩:=by
 refine .step (k:=bOf ps[b]) (y:=⟨b,pt y,o+1⟩) (pb_at hb) ?_ ?_ h
 ·unfold YtcmlnemokckbdaaGreatDoor.L8.Lv.wroteAt;rw [if_pos (pt_or y)];simp only [listOf_pt,List.getElem?_map,ho,Option.map_some];simpa using hw
 ·unfold YtcmlnemokckbdaaGreatDoor.L8.Lv.next;rw [if_pos (pt_or y),listOf_pt,List.length_map,if_pos (List.getElem?_eq_some_iff.1 ho).1];simp
theorem la_part (hb:b<ps.length) (ho:(lst ps[b] y).length=o) (h:YtcmlnemokckbdaaGreatDoor.L8.Lv.At (PB ps) r ⟨b,pt y+1,0⟩):YtcmlnemokckbdaaGreatDoor.L8.Lv.At (PB ps) r ⟨b,pt y,o⟩:=by
 refine .step (k:=bOf ps[b]) (y:=⟨b,pt y+1,0⟩) (pb_at hb) ?_ ?_ h
 ·unfold YtcmlnemokckbdaaGreatDoor.L8.Lv.wroteAt;rw [if_pos (pt_or y)];simp only [listOf_pt,List.getElem?_map];rw [List.getElem?_eq_none (by omega)];rfl
 ·unfold YtcmlnemokckbdaaGreatDoor.L8.Lv.next;rw [if_pos (pt_or y),listOf_pt,List.length_map,if_neg (by simp only;omega)];simp
theorem la_own (hb:b<ps.length) (ho:ps[b].ops.length=o) (h:(eOf ps[b]).own r=true):YtcmlnemokckbdaaGreatDoor.L8.Lv.At (PB ps) r ⟨b,pt false,o⟩:=by
 refine la_part hb ho ?_;refine .read (k:=bOf ps[b]) (pb_at hb) ?_;unfold YtcmlnemokckbdaaGreatDoor.L8.Lv.readAt;rw [if_neg (by simp [pt])];simpa [pt,YtcmlnemokckbdaaGreatDoor.L8.Lv.bOf] using h
theorem la_turn (hb:b<ps.length) (ho:(lst ps[b] y).length=o) {z:Pc} (hz:z∈nextE b (eOf ps[b])) (h:YtcmlnemokckbdaaGreatDoor.L8.Lv.At (PB ps) r z):YtcmlnemokckbdaaGreatDoor.L8.Lv.At (PB ps) r ⟨b,pt y,o⟩:=by
 refine la_part hb ho ?_;refine .step (k:=bOf ps[b]) (y:=z) (pb_at hb) ?_ ?_ h
 ·unfold YtcmlnemokckbdaaGreatDoor.L8.Lv.wroteAt;rw [if_neg (by cases y <;> simp [pt])]
 ·unfold YtcmlnemokckbdaaGreatDoor.L8.Lv.next;rw [if_neg (by cases y <;> simp [pt])];exact hz
end
theorem val_same {o:O} (h:okP o=true) (hM:OkM o) {M M':Ma} (hm:M'.m=M.m) (hr:∀ r∈rdL o,M.r r=M'.r r):valO o M'=valO o M/\trapO o M'=trapO o M:=by
 have hop:=hM.op;constructor
 ·unfold valO
  by_cases h1:o.op=1
  ·rw [if_pos h1,if_pos h1]
  ·have ea:=hr _ (rd_a h (by omega));rw [if_neg h1,if_neg h1]
   by_cases h15:o.op=15
   ·rw [if_pos h15,if_pos h15,hm,ea]
   ·rw [if_neg h15,if_neg h15]
    by_cases h16:o.op=16
    ·rw [if_pos h16,if_pos h16,hr _ (rd_b h (by omega))]
    ·rw [if_neg h16,if_neg h16]
     by_cases h17:o.op=17
     ·rw [if_pos h17,if_pos h17,ea]
     ·rw [if_neg h17,if_neg h17]
      by_cases h11:o.op=11
      ·have hv:∀ x y z:Int,rkV o.op x y=rkV o.op x z:=fun x y z=>by
        unfold rkV;simp [h11]
       rw [ea];exact hv _ _ _
      ·rw [ea,hr _ (rd_b h (by omega))]
 ·unfold trapO
  by_cases h13:o.op=13\/o.op=14
  ·rw [hr _ (rd_b h (by omega))]
  ·simp [h13]
theorem op_sim {ps:List Bk} {b i:Nat} {y:Bool} {op:O} (hb:b<ps.length) (ho:(lst ps[b] y)[i]?=some op) (hk:okP op=true) (hM:OkM op) {M M':Ma} (hm:M'.m=M.m) (hpr:M'.pr=M.pr) (hr:∀ r,YtcmlnemokckbdaaGreatDoor.L8.Lv.At (PB ps) r ⟨b,pt y,i⟩->M.r r=M'.r r) :
  (opM op M').m=(opM op M).m/\(opM op M').pr=(opM op M).pr/\∀ r,YtcmlnemokckbdaaGreatDoor.L8.Lv.At (PB ps) r ⟨b,pt y,i+1⟩->(opM op M).r r=(opM op M').r r:=by
 have hv:=(val_same hk hM hm fun r q=>hr r (la_read hb ho q)).1;have hw:=wr_is hk;unfold opM landO;rw [hv]
 by_cases h16:op.op=16
 ·have ea:=hr _ (la_read hb ho (rd_a hk (by omega)));simp only [if_pos h16];refine ⟨by rw [hm,ea],hpr,fun r q=>hr r (la_next hb ho ?_ q)⟩;rw [hw,if_neg (by omega)];exact fun e=>by cases e
 ·by_cases h17:op.op=17
  ·simp only [if_neg h16,if_pos h17];refine ⟨hm,by rw [hpr],fun r q=>hr r (la_next hb ho ?_ q)⟩;rw [hw,if_neg (by omega)];exact fun e=>by cases e
  ·simp only [if_neg h16,if_neg h17];refine ⟨hm,hpr,fun r q=>?_⟩;have h15:=hM.op;unfold upd
   by_cases e:r=op.d.toNat
   ·rw [if_pos e,if_pos e]
   ·rw [if_neg e,if_neg e];refine hr r (la_next hb ho ?_ q);rw [hw,if_pos (by omega)];exact fun q2=>e (Option.some.inj q2).symm
def exM (l:List O) (M:Ma):Ma:=l.foldl (fun M o=>{ opM o M with s:=M.s+1 }) M
theorem opM_keep (o:O) (M:Ma):(opM o M).e=M.e/\(opM o M).b=M.b/\(opM o M).y=M.y/\(opM o M).n=M.n/\(opM o M).v=M.v/\(opM o M).o=M.o+1:=by
 unfold opM landO
 split
 ·exact ⟨rfl,rfl,rfl,rfl,rfl,rfl⟩
 ·split <;> exact ⟨rfl,rfl,rfl,rfl,rfl,rfl⟩
theorem exM_keep:∀ (l:List O) (M:Ma),(exM l M).e=M.e/\(exM l M).b=M.b/\(exM l M).y=M.y/\(exM l M).n=M.n/\(exM l M).v=M.v/\(exM l M).o=M.o+l.length
 | [],M=>⟨rfl,rfl,rfl,rfl,rfl,rfl⟩
 | o::l,M=>by
  have h1:=opM_keep o M;have h2:=exM_keep l { opM o M with s:=M.s+1 };unfold exM at h2 ⊢;simp only [List.foldl_cons];obtain ⟨a1,a2,a3,a4,a5,a6⟩:=h2;obtain ⟨b1,b2,b3,b4,b5,b6⟩:=h1;refine ⟨a1.trans b1,a2.trans b2,a3.trans b3,a4.trans b4,a5.trans b5,?_⟩;rw [a6];show (opM o M).o+_=_;rw [b6,List.length_cons];omega
theorem exM_regs:∀ (l:List O) (M:Ma),(∀ o∈l,1<=o.op/\o.op<=12)->(exM l M).m=M.m/\(exM l M).pr=M.pr/\∀ r,(∀ o∈l,r≠o.d.toNat)->(exM l M).r r=M.r r
 | [],M,_=>⟨rfl,rfl,fun _ _=>rfl⟩
 | o::l,M,h=>by
  have ho:=h o List.mem_cons_self;have h2:=exM_regs l { opM o M with s:=M.s+1 } fun x hx=>h x (List.mem_cons_of_mem _ hx);have e:landO o (valO o M) M = { M with r:=upd M.r o.d.toNat (valO o M) }:=by
   unfold landO;rw [if_neg (by omega),if_neg (by omega)]
  unfold exM at h2 ⊢;simp only [List.foldl_cons];refine ⟨h2.1.trans ?_,h2.2.1.trans ?_,fun r hr=>(h2.2.2 r fun x hx=>hr x (List.mem_cons_of_mem _ hx)).trans ?_⟩
  ·show (landO o (valO o M) M).m=_;rw [e]
  ·show (landO o (valO o M) M).pr=_;rw [e]
  ·show (landO o (valO o M) M).r r=_;rw [e];show upd M.r o.d.toNat (valO o M) r=_;unfold upd;rw [if_neg (hr o List.mem_cons_self)]
theorem trap_no {ps:List Bk} {M:Ma} {o:O} (hb:M.b<ps.length) (h:(lst ps[M.b] M.y)[M.o]?=some o) (h12:1<=o.op/\o.op<=12):trapB ps M=false:=by
 unfold trapB;rw [listM_at hb,h];show trapO o M=false;unfold trapO;exact decide_eq_false fun q=>by omega
theorem run_list {ps:List Bk} : ∀ (l:List O) (M:Ma) (k:Nat) (hb:M.b<ps.length),M.e=100->(∀ i (h:i<l.length),(lst ps[M.b] M.y)[M.o+i]?=some l[i])->(∀ o∈l,1<=o.op/\o.op<=12)->runM ps (k+l.length) M=runM ps k (exM l M)
 | [],_,_,_,_,_,_=>rfl
 | o::l,M,k,hb,he,hl,h12=>by
  have h0:(lst ps[M.b] M.y)[M.o]?=some o:=hl 0 (by simp);have ht:=trap_no hb h0 (h12 o List.mem_cons_self);have hs:stepM ps M = { opM o M with s:=M.s+1 }:=by
   unfold stepM;rw [next_op hb h0]
  have hk:=opM_keep o M;have ih:=run_list (ps:=ps) l { opM o M with s:=M.s+1 } k (by show (opM o M).b<_;rw [hk.2.1];exact hb) (by show (opM o M).e=_;rw [hk.1];exact he) (fun i hi=>by
   have:=hl (i+1) (by simpa using hi)
   simp only [hk.2.1,hk.2.2.1,hk.2.2.2.2.2];rw [show M.o+1+i=M.o+(i+1) by omega,this]
   simp) fun x hx=>h12 x (List.mem_cons_of_mem _ hx)
  rw [show k+(o::l).length=(k+l.length)+1 by simp;omega];show (if M.e=100 then (if trapB ps M then { M with e:=101 } else runM ps (k+l.length) (stepM ps M)) else M)=_;rw [if_pos he,ht,hs];simp only [Bool.false_eq_true,if_false];rw [ih];rfl
theorem run_short {ps:List Bk} : ∀ (k:Nat) (l:List O) (M:Ma) (hb:M.b<ps.length),M.e=100->k<l.length->(∀ i (h:i<l.length),(lst ps[M.b] M.y)[M.o+i]?=some l[i])->(∀ o∈l,1<=o.op/\o.op<=12)->(runM ps k M).e=100
 | 0,[],_,_,_,h,_,_=>absurd h (by simp)
 | 0,o::l,M,hb,he,_,hl,h12=>by
  have ht:=trap_no hb (hl 0 (by simp)) (h12 o List.mem_cons_self);show (if M.e=100 then (if trapB ps M then { M with e:=101 } else M) else M).e=100;rw [if_pos he,ht];exact he
 | k+1,[],_,_,_,h,_,_=>absurd h (by simp)
 | k+1,o::l,M,hb,he,hk,hl,h12=>by
  have h0:(lst ps[M.b] M.y)[M.o]?=some o:=hl 0 (by simp);have ht:=trap_no hb h0 (h12 o List.mem_cons_self);have hs:stepM ps M = { opM o M with s:=M.s+1 }:=by
   unfold stepM;rw [next_op hb h0]
  have hq:=opM_keep o M;show (if M.e=100 then (if trapB ps M then { M with e:=101 } else runM ps k (stepM ps M)) else M).e=100;rw [if_pos he,ht,hs];simp only [Bool.false_eq_true,if_false];exact run_short k l { opM o M with s:=M.s+1 } (by show (opM o M).b<_;rw [hq.2.1];exact hb) (by show (opM o M).e=_;rw [hq.1];exact he) (by simpa using hk) (fun i hi=>by
   have:=hl (i+1) (by simpa using hi)
   simp only [hq.2.1,hq.2.2.1,hq.2.2.2.2.2];rw [show M.o+1+i=M.o+(i+1) by omega,this]
   simp) fun x hx=>h12 x (List.mem_cons_of_mem _ hx)
theorem ex_sim {ps:List Bk} {b:Nat} {y:Bool} (hb:b<ps.length):∀ (l:List O) (i:Nat) (M M':Ma),(∀ j (h:j<l.length),(lst ps[b] y)[i+j]?=some l[j])->(∀ o∈l,okP o=true/\OkM o)->M'.m=M.m->M'.pr=M.pr->(∀ r,YtcmlnemokckbdaaGreatDoor.L8.Lv.At (PB ps) r ⟨b,pt y,i⟩->M.r r=M'.r r)->
  (exM l M').m=(exM l M).m/\(exM l M').pr=(exM l M).pr/\∀ r,YtcmlnemokckbdaaGreatDoor.L8.Lv.At (PB ps) r ⟨b,pt y,i+l.length⟩->(exM l M).r r=(exM l M').r r
 | [],_,_,_,_,_,hm,hp,hr=>⟨hm,hp,hr⟩
 | o::l,i,M,M',hl,hk,hm,hp,hr=>by
  have h0:(lst ps[b] y)[i]?=some o:=hl 0 (by simp);obtain ⟨a1,a2,a3⟩:=op_sim hb h0 (hk o List.mem_cons_self).1 (hk o List.mem_cons_self).2 hm hp hr;have ih:=ex_sim hb l (i+1) { opM o M with s:=M.s+1 } { opM o M' with s:=M'.s+1 } (fun j hj=>by
   have:=hl (j+1) (by simpa using hj)
   rw [show i+1+j=i+(j+1) by omega,this]
   simp) (fun x hx=>hk x (List.mem_cons_of_mem _ hx)) a1 a2 a3
  rw [show i+(o::l).length=i+1+l.length by simp;omega];exact ih
end Go.Proofs.YtcmlnemokckbdaaGreatDoor.L8.Sm
