/- Parts Ux Uy Uz Ma. -/
import Derived.Test.YtiejdpjgplikjaaGreatDoorN35
import Derived.Test.YtiejdpjgplikjaaGreatDoorN29
import Derived.Test.YtiejdpjgplikjaaGreatDoorN36
set_option maxRecDepth 20000
set_option maxHeartbeats 8000000
namespace Go.Proofs.YtiejdpjgplikjaaGreatDoor.Mo
open Go.ChangeShapes Go.WideShapes Go.ChangeAt Go.RowKit Go.Great Go.Maps
open YtiejdpjgplikjaaGreatDoor.Op YtiejdpjgplikjaaGreatDoor.So YtiejdpjgplikjaaGreatDoor.Dp YtiejdpjgplikjaaGreatDoor.Bn
open YtiejdpjgplikjaaGreatDoor.Rv (I64)
open YtiejdpjgplikjaaGreatDoor.Tb (Tab)
open YtiejdpjgplikjaaGreatDoor.Ls (Nl clN clN_at clN_lt)
def cqO (t:Tab) (xs:List O) (E:Int):Cq:=⟨lw E (loopE t xs) xs.length,xs.length,clN xs,fun c=>if c<4 then (t.b c).toNat else 1,fun c=>if c<4 then t.u c else 0,E⟩
def srP (t:Tab) (xs:List O) (D E:Int):Option (Nat->Int):=dvS (cqO t xs E) (opO (lw E (loopE t xs) xs.length) (lastC D E) xs.length xs.length).1 (opO (lw E (loopE t xs) xs.length) (lastC D E) xs.length xs.length).2 4 (fun _=>0)
theorem lastC_in {D E:Int} (h1:1<=E) (h2:E<D) (h3:D<=512):0<=lastC D E/\lastC D E<=1024:=by
 have q0:1<=2*D / E:=Int.le_ediv_of_mul_le (by omega) (by omega);have q3:(2*D / E)*E<=2*D:=Int.ediv_mul_le _ (by omega);unfold lastC;have m0:1*E<=min 31 (2*D / E)*E:=Int.mul_le_mul_of_nonneg_right (by omega) (by omega);have m1:min 31 (2*D / E)*E<=(2*D / E)*E:=Int.mul_le_mul_of_nonneg_right (by omega) (by omega);omega
theorem rs_of {t:Tab} {xs:List O} (he:rgE t xs=0) (hEL:EL xs.length (loopE t xs)) (n0:0<xs.length) {D E:Int} (h1:1<=E) (h2:E<D) (h3:D<=512) (hP:Pot (loopE t xs) E) {sb bb fb z:Nat} {ao:Option Addr} (sf:sb≠fb) (bd:bb≠sb/\bb≠fb) (lt:sb<z/\fb<z/\bb<z) (oa:∀ x,ao=some x->x.block<z):Rs0 (cqO t xs E) xs sb bb fb ao z (lastC D E):=by
 obtain ⟨ht,hn,hl,hu⟩:=rg_ok he;have ti:=(tab_in ht).2;have lc:=lastC_in h1 h2 h3;refine ⟨rfl,n0,hn,fun _=>rfl,fun c=>?_,fun c=>?_,h1,by show E<=65536;omega,fun i j hi hj=>?_,sf,bd,lt,oa,lc.1,by omega⟩
 ·show 1<=(if c<4 then (t.b c).toNat else 1)/\(if c<4 then (t.b c).toNat else 1)<=4
  split
  ·rename_i hc;have:=ti c hc;omega
  ·omega
 ·show 0<=(if c<4 then t.u c else 0)/\(if c<4 then t.u c else 0)<=8
  split
  ·rename_i hc;have:=ti c hc;omega
  ·omega
 ·exact lw_sm hEL (by omega) (by omega) hP hn i j
theorem second_any (bb b1 b2:Nat) (ao:Option Addr) (cap:Nat) (xs:List O) (t:Tab) (ea:Option Addr) (ec:Nat) (a:Option Addr) (cc:Nat) (g:Nat->Int) (D E:Int) (W:World) (h:Bo W bb ao cap xs t ea ec a cc g D) (he:rgE t xs=0) (hEL:EL xs.length (loopE t xs)) (n0:0<xs.length) (h1:1<=E) (h2:E<D) (h3:D<=512) (hP:Pot (loopE t xs) E) (a1:At W b1 #[.pointer (some ⟨bb,0,none⟩)]) (a2:At W b2 #[.int .i64 E]) (hrg:∀ P,srP t xs D E=some P->∀ k,k<xs.length->0<=P k/\P k<=65536) :
  Calls Tryz.prog 89 #[.pointer (some ⟨b1,0,none⟩),.pointer (some ⟨b2,0,none⟩)] W (SrOut xs.length (srP t xs D E) W):=by
 obtain ⟨ht,hn,hl,hu⟩:=rg_ok he;have HN:Hid (Calls Tryz.prog 90 #[.pointer (some ⟨bb,0,none⟩),.int .i64 E] W (NsOut W bb xs.length E (lw E (loopE t xs) xs.length))):=newSearch_any bb xs.length (loopE t xs).length cap ec ao ea E _ W (h.at'.c 0 _ rfl) (h.at'.c 14 _ rfl) h.at'.lt hn fun W' gw=>longestWays_any xs.length (loopE t xs).length ea ec _ E W' (h.e.up gw) hEL rfl (loopE_len (by omega)) hP n0 hn (by omega) (by omega);have HRu:Hid (∀ w' sb b r fb,At w' sb #[.pointer (some ⟨bb,0,none⟩),.int .i64 E,.slice (some ⟨b,0,none⟩) xs.length xs.length,.slice none 0 0,.map none,.slice (some ⟨fb,0,none⟩) xs.length xs.length,.int .i64 0]->Mo.Lw W w' b r xs.length xs.length (lw E (loopE t xs) xs.length)->Ir w' fb xs.length (fun _=>0)->W.heap.size<=sb->W.heap.size<=fb->b<sb->fb<sb->fb≠b->(∀ i,i<xs.length->r i≠fb/\r i<sb)->Calls Tryz.prog 91 #[.pointer (some ⟨sb,0,none⟩)] w' (RuOut (cqO t xs E) sb fb (srP t xs D E) w')):=fun w' sb b r fb s1 lw1 f1 z1 z2 z3 z4 z5 z6=>by
  have gz:=lw1.up.size;have bl:=h.at'.lt;have sl:=s1.lt;refine run_any (C:=cqO t xs E) (xs:=xs) (D:=D) (ao:=ao) (cap:=cap) w' (rs_of he hEL n0 h1 h2 h3 hP (by omega) ⟨by omega,by omega⟩ ⟨sl,f1.lt,by omega⟩ fun x hx=>?_) rfl (by omega) (by omega) (lw_fin hEL (by omega) (by omega) hP hn) (fun pb pf mb B pc W' gf=>?_) (by rw [(bcell lw1.up).1 _ _ bl];exact h.at'.c 16 _ rfl) s1 f1
  ·obtain ⟨ob,of,e,ol,-⟩:=h.l.is n0;rw [e] at hx;injection hx with hx;rw [<- hx]
   show ob<w'.heap.size;omega
  ·have gW:Below W.heap.size W W':=lw1.up.trans (gf.below gz fun k hk e=>by rcases e with e|e|e <;> omega);have at1:=h.at'.below gW bl;refine ⟨at1.c 0 _ rfl,fun c hc=>?_,fun c hc=>?_,at1.lt,h.l.below gW,⟨fun _=>⟨b,r,rfl,Nat.lt_of_lt_of_le lw1.lt gf.size,fun i hi=>?_⟩⟩⟩
   ·show W'.cell? ⟨bb,1+c,none⟩=some (.int .i64 (if c<4 then t.u c else 0));rw [if_pos hc]
    match c,hc with
    | 0,_=>exact at1.c 1 _ rfl
    | 1,_=>exact at1.c 2 _ rfl
    | 2,_=>exact at1.c 3 _ rfl
    | 3,_=>exact at1.c 4 _ rfl
   ·have tb:=((tab_in ht).2 c hc).2.2.1;show W'.cell? ⟨bb,9+c,none⟩=some (.int .i64 (((if c<4 then (t.b c).toNat else 1:Nat)):Int));rw [if_pos hc,show (((t.b c).toNat : Nat):Int)=t.b c by omega]
    match c,hc with
    | 0,_=>exact at1.c 9 _ rfl
    | 1,_=>exact at1.c 10 _ rfl
    | 2,_=>exact at1.c 11 _ rfl
    | 3,_=>exact at1.c 12 _ rfl
   ·have hi':i<xs.length:=hi;have nb:¬ Gr sb fb w'.heap.size b:=fun e=>by rcases e with e|e|e <;> have:=lw1.lt <;> omega
    have nr:¬ Gr sb fb w'.heap.size (r i):=fun e=>by have:=z6 i hi';have:=lw1.rl i hi';rcases e with e|e|e <;> omega
    exact ⟨Nat.lt_of_lt_of_le (lw1.rl i hi') gf.size,by rw [gf.cell lw1.lt nb];exact lw1.row i hi',fun j hj=>by rw [gf.cell (lw1.rl i hi') nr];exact lw1.c i j hi' hj⟩
 have c1:=a1.c 0 _ rfl;have c2:=a2.c 0 _ rfl;have l1:=a1.lt;have l2:=a2.lt;have HRg:Hid (∀ P,srP t xs D E=some P->∀ k,k<xs.length->0<=P k/\P k<=65536):=hrg;clear hP hrg h a1 a2 he hEL ht hl hu h3;generalize srP t xs D E=sr at *;unfold NsOut at HN;go_enter Tryz.func89,Tryz.ntmps89;have GU:Hid (∀ w1 w2 sb fb,Below W.heap.size W w1/\W.heap.size<=sb/\W.heap.size<=fb->So.Fr (Gr sb fb w1.heap.size) w1 w2->Below W.heap.size W w2):=fun w1 w2 sb fb z g=>z.1.trans (g.below z.1.size fun k hk e=>by have:=z.1.size;rcases e with e|e|e <;> omega)
 cases sr with
 | none=>
  go_wp2_with (first
   | (go_at_call 90;refine Calls.mono HN.out ?_;rintro e1 w1 ⟨sb,b,r,fb,rfl,q1,q2,q3,q4,q5,q6,q7,q8,q9⟩;have HC:Hid (Calls Tryz.prog 91 #[.pointer (some ⟨sb,0,none⟩)] w1 (fun r w'=>r=.returned (.tuple #[.slice none 0 0,.bool false])/\So.Fr (Gr sb fb w1.heap.size) w1 w')):=HRu.out _ _ _ _ _ q1 q2 q3 q4 q5 q6 q7 q8 q9;have HZ:Hid (Below W.heap.size W w1/\W.heap.size<=sb/\W.heap.size<=fb):=⟨q2.up,q4,q5⟩;clear q1 q2 q3 q4 q5 q6 q7 q8 q9 HRu HN)
   | (go_at_call 91;refine Calls.mono HC.out ?_;rintro e2 w2 ⟨rfl,g2⟩;have H2:Hid (Below W.heap.size W w2):=GU.out _ _ _ _ HZ.out g2;clear g2))
  go_ret2
  exact ⟨rfl,H2.out⟩
 | some P=>
  go_wp2_with (first
   | (go_at_call 90;refine Calls.mono HN.out ?_;rintro e1 w1 ⟨sb,b,r,fb,rfl,q1,q2,q3,q4,q5,q6,q7,q8,q9⟩;have HC:Hid (Calls Tryz.prog 91 #[.pointer (some ⟨sb,0,none⟩)] w1 (fun r w'=>(∃ pb,r=.returned (.tuple #[.slice (some ⟨pb,0,none⟩) xs.length xs.length,.bool true])/\Ir w' pb xs.length P/\w1.heap.size<=pb)/\So.Fr (Gr sb fb w1.heap.size) w1 w')):=HRu.out _ _ _ _ _ q1 q2 q3 q4 q5 q6 q7 q8 q9;have HZ:Hid (Below W.heap.size W w1/\W.heap.size<=sb/\W.heap.size<=fb):=⟨q2.up,q4,q5⟩;clear q1 q2 q3 q4 q5 q6 q7 q8 q9 HRu HN)
   | (go_at_call 91;refine Calls.mono HC.out ?_;rintro e2 w2 ⟨⟨pb,rfl,i2,z2⟩,g2⟩;have H2:Hid (Below W.heap.size W w2/\Ir w2 pb xs.length P/\W.heap.size<=pb):=⟨GU.out _ _ _ _ HZ.out g2,i2,by have:=HZ.out.1.size;omega⟩;clear g2 i2 z2))
  go_ret2
  exact ⟨some ⟨pb,0,none⟩,xs.length,rfl,Nl.of H2.out.2.1 fun k hk=>by have:=HRg.out P rfl k hk;omega,fun x hx=>by injection hx with hx;rw [<- hx];exact H2.out.2.2,H2.out.1⟩
end Go.Proofs.YtiejdpjgplikjaaGreatDoor.Mo
namespace Go.Proofs.YtiejdpjgplikjaaGreatDoor.Mo
open YtiejdpjgplikjaaGreatDoor.Dp YtiejdpjgplikjaaGreatDoor.Bn
theorem cntL_pos {cl c E b:Int} {i:Nat} (h:b=(c+(i:Nat))%E):∀ {L:Nat},i<L->1<=cntL cl c E L cl b
 | 0,hi=>by omega
 | L+1,hi=>by
  show 1<=cntL cl c E L cl b+_
  by_cases e:i=L
  ·subst e;rw [if_pos ⟨rfl,h⟩];omega
  ·have:=cntL_pos (cl:=cl) h (L:=L) (by omega)
   omega
theorem cntL_in {cl c E b:Int} (hE:1<=E):∀ (L:Nat),cntL cl c E L cl b=0\/∃ j:Nat,j<min E.toNat L/\b=(c+(j:Nat))%E/\(cntL cl c E L cl b:Int)<=((L:Int)-1-(j:Int)) / E+1
 | 0=>.inl rfl
 | L+1=>by
  have ih:=cntL_in (cl:=cl) (c:=c) (b:=b) hE L;have d:cntL cl c E (L+1) cl b=cntL cl c E L cl b+(if cl=cl/\b=(c+(L:Nat))%E then 1 else 0):=rfl
  by_cases m:b=(c+(L:Nat))%E
  ·rw [if_pos ⟨rfl,m⟩] at d
   right
   rcases ih with ih|⟨j,h1,h2,h3⟩
   ·have hL:(L:Int)<E:=Int.not_le.1 fun hc=>by
     have h5:b=(c+((L-E.toNat : Nat):Int))%E:=by
      rw [m,show c+((L-E.toNat : Nat):Int)=c+(L:Int)-E by omega,Int.sub_emod_right]
     have:=cntL_pos (cl:=cl) h5 (L:=L) (by omega)
     omega
    refine ⟨L,by omega,m,?_⟩;rw [d,ih,show ((L+1:Nat):Int)-1-(L:Int)=0 by omega,Int.zero_ediv];omega
   ·refine ⟨j,by omega,h2,?_⟩;have hd:E∣(c+(L:Int))-(c+(j:Int)):=Int.dvd_of_emod_eq_zero (Int.emod_eq_emod_iff_emod_sub_eq_zero.1 (by rw [<- m,<- h2]));rw [show (c+(L:Int))-(c+(j:Int))=(L:Int)-j by omega] at hd;obtain ⟨q,hq⟩:=hd;have e1:((L+1:Nat):Int)-1-(j:Int)=E*q:=by omega
    have e2:((L:Int)-1-(j:Int))=E*q-1:=by omega
    have e3:(E*q) / E=q:=Int.mul_ediv_cancel_left _ (by omega);have e4:(E*q-1) / E<q:=Int.ediv_lt_of_lt_mul (by omega) (by rw [Int.mul_comm q E];omega);rw [e1,e3,d];rw [e2] at h3;omega
  ·rw [if_neg fun h=>m h.2] at d;rcases ih with ih|⟨j,h1,h2,h3⟩
   ·exact .inl (by omega)
   ·refine .inr ⟨j,by omega,h2,?_⟩
    have:=Int.ediv_le_ediv (a:=(L:Int)-1-(j:Int)) (b:=((L+1:Nat):Int)-1-(j:Int)) (c:=E) (by omega) (by omega)
    omega
theorem cntL_ne {cl c E a b:Int} (h:a≠cl):∀ L:Nat,cntL cl c E L a b=0
 | 0=>rfl
 | L+1=>by
  show cntL cl c E L a b+_=0;rw [cntL_ne h L,if_neg fun e=>h e.1]
structure Iw (C:Cq) (la:Int) (P e l:Nat->Int):Prop where
 w:WI C.FM la C.N P e l
 p:PI C.FM la C.N P
 h:∀ (c:Nat) (b:Int),(hlP C.clf C.Z C.E P C.N (c:Int) b:Int)<=C.U c
theorem Iw.put {C:Cq} {la:Int} (hE:1<=C.E) (hd:∀ n,n<C.N->C.FM n n=0) {P e l:Nat->Int} (I:Iw C la P e l) {n:Nat} (hn:n<C.N) (hp:P n = -1) {c:Int} (hc:c∈frN C P e l n):Iw C la (updI P n c) (nwE C.FM n c e C.N) (nwL C.FM n c l C.N)/\c≠-1:=by
 obtain ⟨k,h1,h2,h3⟩:=mem_frC hc;have h4:=wdF_lt h1;have e0:=I.w.e0 n hn;have hc1:c≠-1:=by omega
 obtain ⟨w,p⟩:=wi_next I.w I.p hn (c:=c) (by omega) (by omega) (hd n hn);refine ⟨⟨w,p,fun a b=>?_⟩,hc1⟩;rw [hlP_put hp hc1 hn];show ((hlP C.clf C.Z C.E P C.N (a:Int) b+cntL (C.clf n) c C.E (C.Z (C.clf n)) (a:Int) b:Nat):Int)<=C.U a;have I0:=I.h a b
 by_cases ha:a=C.clf n
 ·subst ha;rcases cntL_in (cl:=(C.clf n:Int)) (c:=c) (b:=b) hE (C.Z (C.clf n)) with z|⟨j,j1,j2,j3⟩
  ·omega
  ·have o:=List.all_eq_true.1 h3 j (List.mem_range.2 j1);have o:=of_decide_eq_true o;unfold ucF at o;have hm:C.E.toNat<=70000\/True:=.inr trivial;rw [if_pos (by omega)] at o;rw [show (e n-1+C.E+((k+(1+j):Nat):Int))=c+(j:Int)+C.E by omega,Int.add_emod_right,<- j2] at o;omega
 ·rw [cntL_ne (by omega)];omega
theorem tryL_ok {C:Cq} {rec:(Nat->Int)->(Nat->Int)->(Nat->Int)->(Nat->Int)->Int->Dv} {Q:(Nat->Int)->Prop} {n:Nat} {e l P:Nat->Int} : ∀ {cs:List Int} {F:Nat->Int} {st:Int},(∀ c,c∈cs->∀ F st,(rec (nwE C.FM n c e C.N) (nwL C.FM n c l C.N) (updI P n c) F st).ok=true->Q (rec (nwE C.FM n c e C.N) (nwL C.FM n c l C.N) (updI P n c) F st).P)->(tryL C rec n e l P cs F st).ok=true->Q (tryL C rec n e l P cs F st).P
 | [],_,_,_,h=>by cases h
 | c::cs,F,st,hr,h=>by
  unfold tryL at h ⊢
  split
  ·rename_i h1;exact hr c (List.mem_cons_self ..) F st h1
  ·rename_i h1;rw [if_neg h1] at h
   split
   ·rename_i h2;rw [if_pos h2] at h;cases h
   ·rename_i h2;rw [if_neg h2] at h;exact tryL_ok (fun c hc=>hr c (List.mem_cons_of_mem _ hc)) h
theorem plS_ok {C:Cq} {la:Int} (hE:1<=C.E) (hd:∀ n,n<C.N->C.FM n n=0):∀ {u:Nat} {e l P F:Nat->Int} {st:Int},cntU P C.N<=u->Iw C la P e l->(plS C u e l P F st).ok=true->(∃ e' l',Iw C la (plS C u e l P F st).P e' l')/\∀ i,i<C.N->(plS C u e l P F st).P i≠-1
 | 0,e,l,P,F,st,hu,I,_=>⟨⟨e,l,I⟩,fun i hi h=>by have:=cntU_pos (P:=P) h hi;omega⟩
 | u+1,e,l,P,F,st,hu,I,h=>by
  unfold plS at h ⊢
  split
  ·rename_i h1;exact ⟨⟨e,l,I⟩,nxP_all h1⟩
  ·rename_i h1;rw [if_neg h1] at h;rcases nxP_in e l F P C.N with h2|⟨h2,h3,h4⟩
   ·exact absurd h2 h1
   ·have hn:(nxP e l F P C.N).toNat<C.N:=by omega
    refine tryL_ok (Q:=fun R=>(∃ e' l',Iw C la R e' l')/\∀ i,i<C.N->R i≠-1) (fun c hc F st h5=>?_) h;obtain ⟨I2,hc1⟩:=I.put hE hd hn h4 hc;exact plS_ok hE hd (by have:=cntU_put (P:=P) h4 hc1 hn;omega) I2 h5
theorem dvS_ok {C:Cq} {la:Int} (hE:1<=C.E) (hd:∀ n,n<C.N->C.FM n n=0) {e l:Nat->Int} (I:Iw C la (fun _=>-1) e l):∀ {k:Nat} {F P:Nat->Int},dvS C e l k F=some P->(∃ e' l',Iw C la P e' l')/\∀ i,i<C.N->P i≠-1
 | 0,_,_,h=>by cases h
 | k+1,F,P,h=>by
  unfold dvS at h
  split at h
  ·rename_i h1
   injection h with h
   rw [<- h];exact plS_ok hE hd (cntU_le _ _) I h1
  ·split at h
   ·cases h
   ·exact dvS_ok hE hd I h
theorem srP_ok {t:Tb.Tab} {xs:List Op.O} (ht:t.ok=true) {D E:Int} (h1:1<=E) (hP:Pot (loopE t xs) E) {P:Nat->Int} (h:srP t xs D E=some P):(∃ e' l',Iw (cqO t xs E) (lastC D E) P e' l')/\∀ i,i<xs.length->P i≠-1:=by
 refine dvS_ok (C:=cqO t xs E) (la:=lastC D E) h1 (fun n hn=>lw_0 hP _ _) ⟨wi_open _ _ _,pi_open _ _ _,fun c b=>?_⟩ h;rw [hlP_none];show (0:Int)<=(if c<4 then t.u c else 0)
 split
 ·rename_i hc;exact ((tab_in ht).2 c hc).1.1
 ·omega
theorem srP_in {t:Tb.Tab} {xs:List Op.O} (ht:t.ok=true) {D E:Int} (h1:1<=E) (h2:E<D) (h3:D<=512) (hP:Pot (loopE t xs) E) {P:Nat->Int} (h:srP t xs D E=some P):∀ k,k<xs.length->0<=P k/\P k<=65536:=fun k hk=>by
 obtain ⟨⟨e',l',I⟩,ha⟩:=srP_ok ht h1 hP h
 have:=I.p.r k hk (ha k hk)
 have:=lastC_in h1 h2 h3
 omega
end Go.Proofs.YtiejdpjgplikjaaGreatDoor.Mo
namespace Go.Proofs.YtiejdpjgplikjaaGreatDoor.Mo
open YtiejdpjgplikjaaGreatDoor.Op YtiejdpjgplikjaaGreatDoor.Dp YtiejdpjgplikjaaGreatDoor.Bn YtiejdpjgplikjaaGreatDoor.Rv
open YtiejdpjgplikjaaGreatDoor.Tb (Tab)
open YtiejdpjgplikjaaGreatDoor.Ls (clN clN_at clN_lt)
theorem tms_cntL (cl c E b:Int):∀ L:Nat,tms (some E) (c%E) b L=(cntL cl c E L cl b:Int)
 | 0=>rfl
 | L+1=>by
  show tms (some E) (c%E) b L+(if (c%E+(L:Nat))%E=b then 1 else 0)=((cntL cl c E L cl b+(if cl=cl/\b=(c+(L:Nat))%E then 1 else 0):Nat):Int);rw [tms_cntL cl c E b L,Int.emod_add_emod]
  by_cases e:(c+(L:Nat))%E=b
  ·rw [if_pos e,if_pos ⟨rfl,e.symm⟩];omega
  ·rw [if_neg e,if_neg fun h=>e h.2.symm];omega
theorem rcF_hlP {t:Tab} {xs:List O} {P:Nat->Int} {E:Int} : ∀ {k:Nat},(∀ i,i<k->P i≠-1)->∀ a b,rcF t xs P E k a b=(hlP (clN xs) (fun c=>if c<4 then (t.b c).toNat else 1) E P k a b:Int)
 | 0,_,_,_=>rfl
 | k+1,h,a,b=>by
  show addK (some E) (rcF t xs P E k) (clN xs k:Int) (P k%E) (t.b (clN xs k)).toNat a b=((hlP (clN xs) (fun c=>if c<4 then (t.b c).toNat else 1) E P k a b+(if P k = -1 then 0 else cntL (clN xs k) (P k) E (if clN xs k<4 then (t.b (clN xs k)).toNat else 1) a b):Nat):Int);rw [if_neg (h k (by omega)),if_pos (clN_lt xs k)];unfold addK;rw [rcF_hlP (fun i hi=>h i (by omega))]
  by_cases e:a=(clN xs k:Int)
  ·subst e;rw [if_pos rfl,tms_cntL (clN xs k:Int)];omega
  ·rw [if_neg e,cntL_ne e];omega
theorem clN_lt3 (xs:List O) (i:Nat):clN xs i<3:=by
 unfold clN
 split
 ·exact YtiejdpjgplikjaaGreatDoor.Bn.clD_lt _
 ·omega
theorem hlP_3 {xs:List O} {Z:Nat->Nat} {E:Int} {P:Nat->Int} {b:Int} : ∀ k,hlP (clN xs) Z E P k 3 b=0
 | 0=>rfl
 | k+1=>by
  show hlP (clN xs) Z E P k 3 b+_=0
  have:=clN_lt3 xs k
  rw [hlP_3 k,cntL_ne (show (3:Int)≠(clN xs k:Int) by omega)]
  split <;> rfl
theorem bu_3 {t:Tab} {xs:List O} (ht:t.ok=true) (hu:huB t (cts xs) 4=true) {E:Int} (h:buI t (cts xs) 4<=E):t.b 3<=E*t.u 3:=by
 have b3:=((tab_in ht).2 3 (by omega)).2.2;have u3:=((tab_in ht).2 3 (by omega)).1;have up:0<t.u 3:=Int.not_le.1 fun hc=>by
  have hz:t.u 3=0:=by omega
  rw [huB_le (n:=4) (k:=3) (by omega) (by rw [cts_3,hz];rfl)] at hu
  cases hu
 have h1:(cts xs 3*t.b 3+t.u 3-1).tdiv (t.u 3)<=buI t (cts xs) 4:=by
  show _<=if 0<cts xs 3 then max (buI t (cts xs) 3) ((cts xs 3*t.b 3+t.u 3-1).tdiv (t.u 3)) else buI t (cts xs) 3;rw [if_pos (by rw [cts_3];omega)];omega
 rw [cts_3,Int.one_mul,Int.tdiv_eq_ediv_of_nonneg (by omega)] at h1;have h2:=Int.lt_ediv_add_one_mul_self (t.b 3+t.u 3-1) up;have h3:((t.b 3+t.u 3-1) / t.u 3+1)*t.u 3=(t.b 3+t.u 3-1) / t.u 3*t.u 3+t.u 3:=by rw [Int.add_mul,Int.one_mul]
 have h4:(t.b 3+t.u 3-1) / t.u 3*t.u 3<=E*t.u 3:=Int.mul_le_mul_of_nonneg_right (by omega) (by omega);omega
theorem cnt_3 {cl c E b:Int} (hE:1<=E) {L:Nat} {u:Int} (hu:0<=u) (h:(L:Int)<=E*u):(cntL cl c E L cl b:Int)<=u:=by
 rcases cntL_in (cl:=cl) (c:=c) (b:=b) hE L with z|⟨j,h1,h2,h3⟩
 ·omega
 ·have:((L:Int)-1-(j:Int)) / E<u:=Int.ediv_lt_of_lt_mul (by omega) (by rw [Int.mul_comm u E];omega)
  omega
theorem srP_kg {t:Tab} {xs:List O} (he:rgE t xs=0) (hEL:EL xs.length (loopE t xs)) {D E:Int} (hle:leE t xs<=E) (h1:1<=E) (h2:E<D) (h3:D<=512) (hP:Pot (loopE t xs) E) {P:Nat->Int} (h:srP t xs D E=some P):kgB t xs P E=true/\stg xs.length P E*E<=2*D:=by
 obtain ⟨ht,hn,hl,hu⟩:=rg_ok he;obtain ⟨⟨e',l',I⟩,ha⟩:=srP_ok ht h1 hP h;have hbu:buI t (cts xs) 4<=E:=by unfold leE at hle;rw [if_pos he] at hle;omega
 have ti:=(tab_in ht).2;have k1:kpB (loopE t xs) P E=true:=kp_of hEL (by omega) (by omega) I.p ha;have k2:=stg_of (N:=xs.length) (P:=P) h1 (Int.le_of_lt h2) fun i hi=>(I.p.r i hi (ha i hi)).2;have k3:kuB t xs P E=true:=(kuB_iff h1 (by omega) fun c hc=>(ti c hc).1.1).2 fun c z hc=>by
  have Ih:(hlP (clN xs) (fun c=>if c<4 then (t.b c).toNat else 1) E P xs.length (c:Int) z:Int)<=(if c<4 then t.u c else 0):=I.h c z;rw [if_pos hc] at Ih;unfold toF addK;rw [rcF_hlP ha]
  by_cases e:(c:Int)=3
  ·rw [if_pos e,tms_cntL 3];obtain rfl:c=3:=by omega
   rw [show ((3:Nat):Int)=3 from rfl,hlP_3];have tt:=ti 3 (by omega)
   have:=cnt_3 (cl:=3) (c:=E-1-t.d) (b:=z) h1 (L:=(t.b 3).toNat) tt.1.1 (by rw [Int.toNat_of_nonneg (by omega)];exact bu_3 ht hu hbu)
   omega
  ·rw [if_neg e];exact Ih
 refine ⟨?_,k2.2⟩;unfold kgB;rw [k1,k3];simp only [Bool.and_true,decide_eq_true_eq];exact k2.1
end Go.Proofs.YtiejdpjgplikjaaGreatDoor.Mo
namespace Go.Proofs.YtiejdpjgplikjaaGreatDoor.Mo
open Go.ChangeShapes Go.WideShapes Go.ChangeAt Go.RowKit
open YtiejdpjgplikjaaGreatDoor.Op YtiejdpjgplikjaaGreatDoor.So YtiejdpjgplikjaaGreatDoor.Dp YtiejdpjgplikjaaGreatDoor.Bn
open YtiejdpjgplikjaaGreatDoor.Ls (clN clN_at clN_lt Nl arC arC_all arC_yes arC_no cyL cyL_is)
open YtiejdpjgplikjaaGreatDoor.Tb (Tab TabAt Bnds)
def fdP (t:Tab) (xs:List O):Int×(Nat->Int):=fpP (kgB t xs (cyL t xs)) (srP t xs (drn t xs (cyL t xs) xs.length)) (cyL t xs) (drn t xs (cyL t xs) xs.length) (drn t xs (cyL t xs) xs.length-leE t xs).toNat (leE t xs)
theorem pot_le {t:Tab} {xs:List O} (he:rgE t xs=0) (hEL:EL xs.length (loopE t xs)) {E:Int} (h:leE t xs<=E):Pot (loopE t xs) E/\1<=E/\1+t.d<=E:=by
 obtain ⟨ht,hn,hl,hu⟩:=rg_ok he;have hd:=(tab_in ht).1;unfold leE at h;rw [if_pos he] at h;have s:=srch_of hEL hn;obtain ⟨r1,r2,r3,r4⟩:=rnd_is (P:=fun q=>inT (stp q (loopE t xs)) xs.length) s.1;have p:=(inT_iff64 hEL hn (by omega) r3).1 r1;exact ⟨pot_mono hEL (show rnd (fun q=>inT (stp q (loopE t xs)) xs.length)<=E by unfold rndE at h;omega) p,by omega,by omega⟩
theorem kg_nil {t:Tab} {xs:List O} (he:rgE t xs=0) (hEL:EL xs.length (loopE t xs)) (h0:xs.length=0) {E:Int} (hle:leE t xs<=E) (h2:E<=65536) (g:Nat->Int):kgB t xs g E=true:=by
 obtain ⟨ht,hn,hl,hu⟩:=rg_ok he;obtain ⟨-,h1,-⟩:=pot_le he hEL hle;have ti:=(tab_in ht).2;have hbu:buI t (cts xs) 4<=E:=by unfold leE at hle;rw [if_pos he] at hle;omega
 have k1:kpB (loopE t xs) g E=true:=kpB_iff.2 fun e hm=>by have:=(hEL e hm).fn;have:=(hEL e hm).f0;omega
 have k2:=stg_of (N:=xs.length) (P:=g) (D:=E) h1 (Int.le_refl _) fun i hi=>by omega
 have k3:kuB t xs g E=true:=(kuB_iff h1 h2 fun c hc=>(ti c hc).1.1).2 fun c z hc=>by
  unfold toF Rv.addK;rw [h0]
  by_cases e:(c:Int)=3
  ·rw [if_pos e,tms_cntL 3];obtain rfl:c=3:=by omega
   have tt:=ti 3 (by omega)
   have:=cnt_3 (cl:=3) (c:=E-1-t.d) (b:=z) h1 (L:=(t.b 3).toNat) tt.1.1 (by rw [Int.toNat_of_nonneg (by omega)];exact bu_3 ht hu hbu)
   show (0:Int)+_<=_;omega
  ·rw [if_neg e];exact (ti c hc).1.1
 unfold kgB;rw [k1,k3];simp only [Bool.and_true,decide_eq_true_eq];exact k2.1
theorem find_is (ao:Option Addr) (cap:Nat) (xs:List O) (t:Tab) (w:World) (h:OpsAt w ao xs) (hcap:xs.length<=cap) (hG:Bnds w) (he:rgE t xs=0) :
  Calls Tryz.prog 6 #[.slice ao xs.length cap,t.val] w (FdOut xs.length (fdP t xs) w):=by
 obtain ⟨ht,hn,hl,hu⟩:=rg_ok he;obtain ⟨hok,hd1,hd2,hcr⟩:=body_ok h he;have hEL:=loopE_ok h he;refine find_ok ao cap xs t (srP t xs (drn t xs (cyL t xs) xs.length)) w h hcap hG he (fun W bb ea ec a cc b1 b2 E hB a1 a2 q1 q2 q3=>?_) fun E c q1 q2 q3=>?_
 ·obtain ⟨hP,h1,-⟩:=pot_le he hEL q1;rcases Nat.eq_zero_or_pos xs.length with z|z
  ·rw [kg_nil he hEL z q1 (by omega)] at q3;cases q3
  ·exact second_any bb b1 b2 ao cap xs t ea ec a cc _ _ E W hB he hEL z h1 q2 hd2 hP a1 a2 fun P hP'=>srP_in ht h1 q2 hd2 hP hP'
 ·obtain ⟨hP,h1,-⟩:=pot_le he hEL q1;exact srP_in ht h1 q2 hd2 hP q3
theorem fpP_all {Q:Int×(Nat->Int)->Prop} {kB:Int->Bool} {sr:Int->Option (Nat->Int)} {g:Nat->Int} {D le:Int} (h0:Q (D,g)) (h1:∀ E,le<=E->E<D->kB E=true->Q (E,g)) (h2:∀ E c,le<=E->E<D->sr E=some c->Q (E,c)):∀ (k:Nat) (E:Int),le<=E->E+k<=D\/k=0->Q (fpP kB sr g D k E)
 | 0,_,_,_=>h0
 | k+1,E,hl,hk=>by
  unfold fpP
  split
  ·rename_i c;exact h1 E hl (by omega) c
  ·split
   ·rename_i c hc;exact h2 E c hl (by omega) hc
   ·exact fpP_all h0 h1 h2 k (E+1) (by omega) (by omega)
theorem fdP_ok {w:World} {ao:Option Addr} {xs:List O} {t:Tab} (h:OpsAt w ao xs) (he:rgE t xs=0):mcB t xs xs.length (fdP t xs).2 (fdP t xs).1 (stg xs.length (fdP t xs).2 (fdP t xs).1)=true/\(fdP t xs).1<=drn t xs (cyL t xs) xs.length/\stg xs.length (fdP t xs).2 (fdP t xs).1*(fdP t xs).1<=2*drn t xs (cyL t xs) xs.length:=by
 obtain ⟨ht,hn,hl,hu⟩:=rg_ok he;obtain ⟨hok,hd1,hd2,hcr⟩:=body_ok h he;have hEL:=loopE_ok h he;have th:=there_ok h he;obtain ⟨-,t1,t2,-,t4,t5,t6,t7,t8⟩:=mc_parts th;have hd0:=(tab_in ht).1;refine fpP_all (Q:=fun p=>mcB t xs xs.length p.2 p.1 (stg xs.length p.2 p.1)=true/\p.1<=drn t xs (cyL t xs) xs.length/\stg xs.length p.2 p.1*p.1<=2*drn t xs (cyL t xs) xs.length) (le:=leE t xs) ?_ (fun E q1 q2 q3=>?_) (fun E c q1 q2 q3=>?_) _ _ (Int.le_refl _) (by omega)
 ·refine ⟨?_,Int.le_refl _,?_⟩
  ·show mcB t xs xs.length (cyL t xs) _ (stg xs.length (cyL t xs) _)=true;rw [<- t6];exact th
  ·show stg xs.length (cyL t xs) _*_<=_;rw [<- t6];omega
 ·obtain ⟨hP,h1,h3⟩:=pot_le he hEL q1;unfold kgB at q3;simp only [Bool.and_eq_true,decide_eq_true_eq] at q3;obtain ⟨s1,s2,s3⟩:=q3;refine ⟨?_,Int.le_of_lt q2,?_⟩
  ·show mcB t xs xs.length (cyL t xs) E (stg xs.length (cyL t xs) E)=true;rw [mc_last he h3 (by omega) rfl t4 s1 rfl,s2,s3];rfl
  ·show stg xs.length (cyL t xs) E*E<=_;have hx:mxN (cyL t xs) xs.length<=drn t xs (cyL t xs) xs.length-1:=mxN_le (by omega) fun k hk=>by
    have:=(drn_at (t:=t) (xs:=xs) (g:=cyL t xs) hk).1
    have:=((tab_in ht).2 (clN xs k) (clN_lt xs k)).2.1.1
    omega
   have hm:=Int.ediv_mul_le (mxN (cyL t xs) xs.length) (show E≠0 by omega);unfold stg;rw [Int.add_mul,Int.one_mul];omega
 ·obtain ⟨hP,h1,h3⟩:=pot_le he hEL q1;obtain ⟨k1,k2⟩:=srP_kg he hEL q1 h1 q2 hd2 hP q3;have hin:=srP_in ht h1 q2 hd2 hP q3;unfold kgB at k1;simp only [Bool.and_eq_true,decide_eq_true_eq] at k1;obtain ⟨s1,s2,s3⟩:=k1;refine ⟨?_,Int.le_of_lt q2,k2⟩;show mcB t xs xs.length c E (stg xs.length c E)=true;rw [mc_last he h3 (by omega) rfl (arC_yes hin).symm s1 rfl,s2,s3];rfl
end Go.Proofs.YtiejdpjgplikjaaGreatDoor.Mo
