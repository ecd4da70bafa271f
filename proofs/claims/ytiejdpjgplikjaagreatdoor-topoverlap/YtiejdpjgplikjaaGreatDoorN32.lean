/- Parts Up Um Uq. -/
import Derived.Test.YtiejdpjgplikjaaGreatDoorN31
import Derived.Test.YtiejdpjgplikjaaGreatDoorN29
import Derived.Deep.RegionLaw
import Derived.BigRegion
import Derived.WalkMore
import Derived.Deep.LoopGhost
import Derived.Test.YtiejdpjgplikjaaGreatDoorN27
import Derived.Test.YtiejdpjgplikjaaGreatDoorN30
set_option maxRecDepth 20000
set_option maxHeartbeats 16000000
namespace Go.Proofs.YtiejdpjgplikjaaGreatDoor.Mo
open Go.ChangeShapes Go.WideShapes Go.ChangeAt Go.RowKit
open YtiejdpjgplikjaaGreatDoor.Op YtiejdpjgplikjaaGreatDoor.So YtiejdpjgplikjaaGreatDoor.Dp YtiejdpjgplikjaaGreatDoor.Bn
open YtiejdpjgplikjaaGreatDoor.Rv (I64)
def updL (row:Nat->List Int) (c:Nat) (l:List Int):Nat->List Int:=fun d=>if d=c then l else row d
def updW (f:Nat->Value) (c:Nat) (v:Value):Nat->Value:=fun d=>if d=c then v else f d
structure Js (W:World) (B rb N:Nat) (f:Nat->Value) (row:Nat->List Int):Prop where
 c:∀ c,c<N->W.cell? ⟨rb,c,none⟩=some (f c)
 z:∀ k,W.frozen? ⟨rb,k,none⟩=false
 o:∀ c,c<N->W.ownsRow B 3 1 (f c) (row c).length (ints (row c))
 inj:∀ c d,c<N->d<N->(f c).ownBlock≠none->(f c).ownBlock=(f d).ownBlock->c=d
 lt:rb<B
 sz:B<=W.heap.size
abbrev Gj (B rb:Nat):Nat->Prop:=fun k=>k=rb\/B<=k
theorem rowI_fr {X:Nat->Prop} {W W2:World} {B m:Nat} {v:Value} {xs:List Value} (h:W.ownsRow B 3 1 v m xs) (g:Fr X W W2) (hX:∀ k,v.ownBlock=some k->¬ X k):W2.ownsRow B 3 1 v m xs:=by
 have hlt:=h.lt;obtain ⟨h1,⟨h2,h3⟩|⟨q,cap,cur,h2,h3,h4,h5⟩⟩:=h
 ·exact ⟨h1,.inl ⟨h2,h3⟩⟩
 ·have hq:=hlt q (by rw [h2];rfl);exact ⟨h1,.inr ⟨q,cap,cur,h2,h3,(g.block q hq.2 (hX q (by rw [h2];rfl))).trans h4,h5⟩⟩
theorem Js.up {W W':World} {B rb N:Nat} {f:Nat->Value} {row:Nat->List Int} (h:Js W B rb N f row) (g:Below W.heap.size W W'):Js W' B rb N f row:=by
 have hl:rb<W.heap.size:=Nat.lt_of_lt_of_le h.lt h.sz;exact ⟨fun c hc=>by rw [(bcell g).1 _ _ hl];exact h.c c hc,fun k=>by rw [(bcell g).2 _ _ hl];exact h.z k,fun c hc=>rowI_fr (h.o c hc) (Fr.of (X:=Non) g) fun _ _ e=>e,h.inj,h.lt,Nat.le_trans h.sz g.size⟩
theorem Js.next {W W' w4:World} {B rb N g cap c:Nat} {f:Nat->Value} {row:Nat->List Int} {x:Int} (h:Js W B rb N f row) (hW:Below W.heap.size W W') (hgrow:W'.grownBy w4 (f c).ownBlock) (hc:c<N)
  (hown:w4.ownsRow B 3 1 (.slice (some ⟨g,0,none⟩) ((row c).length+1) cap) ((row c).length+1) (ints (row c)++[.int .i64 x])) (hg:(f c).ownBlock=some g\/W.heap.size<=g) :
  So.Fr (Gj B rb) W w4/\(w4.cell? ⟨rb,c,none⟩=some (f c)/\w4.frozen? ⟨rb,c,none⟩=false/\rb<w4.heap.size) /\
  Js (w4.setCell ⟨rb,c,none⟩ (.slice (some ⟨g,0,none⟩) ((row c).length+1) cap)) B rb N (updW f c (.slice (some ⟨g,0,none⟩) ((row c).length+1) cap)) (updL row c (row c++[x])):=by
 have h1:=h.up hW;have hl:rb<W'.heap.size:=Nat.lt_of_lt_of_le h1.lt h1.sz;have fr:Fr (fun k=>(f c).ownBlock=some k) W' w4:=⟨hgrow.os,hgrow.tape,hgrow.output,hgrow.size,fun k hk hx=>hgrow.block k hk fun e=>hx e.symm⟩;have nrb:¬ (f c).ownBlock=some rb:=fun e=>by have:=((h.o c hc).lt _ e).1;have:=h.lt;omega
 have frB:So.Fr (Gj B rb) W w4:=(Fr.of (X:=Gj B rb) hW).trans fr fun k _ e=>.inr ((h.o c hc).lt _ e).1;refine ⟨frB,⟨?_,?_,Nat.lt_of_lt_of_le hl fr.size⟩,?_⟩
 ·rw [fr.cell hl nrb];exact h1.c c hc
 ·rw [fr.frozen hl nrb];exact h1.z c
 ·have g2:Fr (One rb) w4 (w4.setCell ⟨rb,c,none⟩ (.slice (some ⟨g,0,none⟩) ((row c).length+1) cap)):=(Fr.refl (One rb) w4).setCell (.inr rfl) _ _;refine ⟨fun d hd=>?_,fun k=>?_,fun d hd=>?_,fun d e hd he=>?_,h.lt,?_⟩
  ·unfold updW
   by_cases e:d=c
   ·subst e;rw [if_pos rfl];exact World.cell?_setCell_same _ _ _ ((fr.cell hl nrb _).trans (h1.c d hc))
   ·rw [if_neg e,World.cell?_setCell_other _ _ _ _ (by intro e';injection e' with _ e2;exact e e2.symm),fr.cell hl nrb];exact h1.c d hd
  ·rw [World.frozen?_setCell,fr.frozen hl nrb];exact h1.z k
  ·unfold updW updL
   by_cases e:d=c
   ·subst e;rw [if_pos rfl,if_pos rfl,List.length_append,ints_app];refine rowI_fr hown g2 fun k hk e'=>?_;have e2:k=rb:=e';have e3:g=k:=by simpa [Value.ownBlock] using hk
    rcases hg with hg|hg
    ·exact nrb (by rw [hg];congr 1;omega)
    ·have:=h.lt;have:=h.sz;omega
   ·rw [if_neg e,if_neg e];refine rowI_fr (rowI_fr (h1.o d hd) fr fun k hk e'=>?_) g2 fun k hk e'=>?_
    ·exact e (h.inj d c hd hc (by rw [hk];simp) (by rw [hk];exact e'.symm))
    ·have e2:k=rb:=e'
     have:=((h.o d hd).lt _ hk).1
     have:=h.lt
     omega
  ·unfold updW
   by_cases e1:d=c
   ·by_cases e2:e=c
    ·exact fun _ _=>e1.trans e2.symm
    ·rw [if_pos e1,if_neg e2];intro h2 h3;have h3:some g=(f e).ownBlock:=h3;rcases hg with hg|hg
     ·rw [<- hg] at h3;exact absurd (h.inj c e hc he (by rw [hg];simp) h3) fun h4=>e2 h4.symm
     ·have:=((h.o e he).lt _ h3.symm).2
      omega
   ·by_cases e2:e=c
    ·rw [if_neg e1,if_pos e2];intro h2 h3;have h3:(f d).ownBlock=some g:=h3;rcases hg with hg|hg
     ·rw [<- hg] at h3;exact absurd (h.inj d c hd hc h2 h3) e1
     ·have:=((h.o d hd).lt _ h3).2
      omega
    ·rw [if_neg e1,if_neg e2];exact h.inj d e hd he
  ·rw [World.size_setCell];exact Nat.le_trans h1.sz fr.size
theorem own_base {W:World} {B B' m:Nat} {v:Value} {xs:List Value} (h:W.ownsRow B' 3 1 v m xs) (hB:B<=B'):W.ownsRow B 3 1 v m xs:=by
 obtain ⟨h1,h2|⟨g,cap,cur,h2,h3,h4⟩⟩:=h
 ·exact ⟨h1,.inl h2⟩
 ·exact ⟨h1,.inr ⟨g,cap,cur,h2,Nat.le_trans hB h3,h4⟩⟩
def okF (ub:Nat->Int) (u E:Int) (L k:Nat):Bool:=(List.range (min E.toNat L)).all fun j=>decide (ub (k+(1+j))+(((L:Int)-1-(j:Int)) / E+1)<=u)
theorem okF_no {ub:Nat->Int} {u E:Int} {L k j:Nat} (h:j<min E.toNat L) (e:u<ub (k+(1+j))+(((L:Int)-1-(j:Int)) / E+1)):okF ub u E L k=false:=by
 refine List.all_eq_false.2 ⟨j,List.mem_range.2 h,?_⟩;simp
 omega
theorem okF_yes {ub:Nat->Int} {u E:Int} {L k:Nat} (h:∀ j,j<min E.toNat L->ub (k+(1+j))+(((L:Int)-1-(j:Int)) / E+1)<=u):okF ub u E L k=true:=by
 refine List.all_eq_true.2 fun j hj=>?_
 have:=h j (List.mem_range.1 hj)
 simpa using this
def jnF (ub:Nat->Int) (L k:Nat):Nat:=(jn (fun j=>ub (k+j)) L).toNat
def byJ (ub:Nat->Int) (u E e:Int) (L K i:Nat):List Int:=((List.range K).filter fun k=>okF ub u E L k&&decide (jnF ub L k=i)).map fun k:Nat=>e+(k:Int)
theorem byJ_no {ub:Nat->Int} {u E e:Int} {L k:Nat} (h:okF ub u E L k=false):(byJ ub u E e L (k+1))=byJ ub u E e L k:=by
 funext i
 unfold byJ;rw [List.range_succ,List.filter_append,List.map_append];simp [h]
theorem byJ_yes {ub:Nat->Int} {u E e:Int} {L k:Nat} (h:okF ub u E L k=true):(byJ ub u E e L (k+1))=updL (byJ ub u E e L k) (jnF ub L k) (byJ ub u E e L k (jnF ub L k)++[e+(k:Int)]):=by
 funext i
 unfold updL
 by_cases hi:i=jnF ub L k
 ·subst hi;rw [if_pos rfl];unfold byJ;rw [List.range_succ,List.filter_append,List.map_append];simp [h]
 ·rw [if_neg hi];unfold byJ;rw [List.range_succ,List.filter_append,List.map_append]
  have:¬ jnF ub L k=i:=fun e=>hi e.symm
  simp [h,this]
theorem byJ_len (ub:Nat->Int) (u E e:Int) (L K i:Nat):(byJ ub u E e L K i).length<=K:=by
 unfold byJ;rw [List.length_map];refine Nat.le_trans (List.length_filter_le _ _) ?_;rw [List.length_range];exact Nat.le_refl _
def wdF (e l E:Int):Nat:=(max 0 (min (l-e+1) E)).toNat
def frC (hl:Int->Int->Nat) (cl E u e l:Int) (L:Nat):List Int:=catL (fun i=>byJ (ucF hl cl (e-1) E (wdF e l E+L+1)) u E e L (wdF e l E) (2-i)) 3
theorem js_new (W:World) (B:Nat) (hB:W.heap.size<B) {W':World} (hW:Below (W.heap.size+1) (W.alloc (.cells #[.slice none 0 0,.slice none 0 0,.slice none 0 0] 225)) W') (hs:B<=W'.heap.size):Js W' B W.heap.size 3 (fun _=>.slice none 0 0) (fun _=>[]):=by
 have h:=At.new W #[.slice none 0 0,.slice none 0 0,.slice none 0 0] 225;refine ⟨fun c hc=>?_,fun k=>?_,fun c _=>World.ownsRow_nil _ _ _ _,fun _ _ _ _ h=>absurd rfl h,hB,hs⟩
 ·rw [(bcell hW).1 _ _ (by omega)];obtain rfl|rfl|rfl:c=0\/c=1\/c=2:=by omega
  ·exact h.c 0 _ rfl
  ·exact h.c 1 _ rfl
  ·exact h.c 2 _ rfl
 ·rw [(bcell hW).2 _ _ (by omega)];exact h.f k
theorem freeCycles_any (sb bb N mb nn cl L:Nat) (E st u e l:Int) (ba pa fa:Option Addr) (bc pc fc:Nat) (f:Int->Int->Value) (hl:Int->Int->Nat) (w:World) (hS:At w sb #[.pointer (some ⟨bb,0,none⟩),.int .i64 E,.slice ba N bc,.slice pa N pc,.map (some mb),.slice fa N fc,.int .i64 st]) (hM:Hm w mb nn f) (hf:∀ a b,∃ x y,f a b=.slice x (hl a b) y) (hll:∀ a b,hl a b<=1000000) (hbb:bb<w.heap.size) (hbu:w.cell? ⟨bb,1+cl,none⟩=some (.int .i64 u)) (hbz:w.cell? ⟨bb,9+cl,none⟩=some (.int .i64 (L:Int))) (hc4:cl<4) (hL0:1<=L) (hL:L<=4) (hu0:0<=u) (hu1:u<=8) (hE:1<=E) (hE2:E<=65536) (he0:0<=e) (he1:e<=9000000) (hl0 : -10000000<=l) (hl1:l<=10000000) :
  Calls Tryz.prog 157 #[.pointer (some ⟨sb,0,none⟩),.int .i64 (cl:Int),.agg #[.int .i64 e,.int .i64 l]] w fun r w'=>∃ v,r=.returned v/\w'.ownsRow w.heap.size 3 1 v (frC hl cl E u e l L).length (ints (frC hl cl E u e l L))/\Below w.heap.size w w':=by
 have HU:Hid (Below w.heap.size w (w.alloc (.cells #[.int .i64 e,.int .i64 l] 184))):=(Below.refl _ _).alloc (Nat.le_refl _) _;have HB:Hid (At (w.alloc (.cells #[.int .i64 e,.int .i64 l] 184)) w.heap.size #[.int .i64 e,.int .i64 l]):=At.new _ _ _;have HSt:Hid (∀ W,Below w.heap.size w W->At W sb #[.pointer (some ⟨bb,0,none⟩),.int .i64 E,.slice ba N bc,.slice pa N pc,.map (some mb),.slice fa N fc,.int .i64 st]/\W.cell? ⟨bb,1+cl,none⟩=some (.int .i64 u)/\W.cell? ⟨bb,9+cl,none⟩=some (.int .i64 (L:Int))/\bb<W.heap.size):=fun W g=>⟨hS.below g hS.lt,by rw [(bcell g).1 _ _ hbb];exact hbu,by rw [(bcell g).1 _ _ hbb];exact hbz,Nat.lt_of_lt_of_le hbb g.size⟩;obtain ⟨wd,hwd⟩:∃ wd,wdF e l E=wd:=⟨_,rfl⟩;have hw0:(wd:Int)=max 0 (min (l-e+1) E):=by rw [<- hwd];unfold wdF;omega
 have hw1:(wd:Int)<=65536:=by omega
 have HUs:Hid (∀ W,Below w.heap.size w W->Calls Tryz.prog 170 #[.pointer (some ⟨sb,0,none⟩),.int .i64 (cl:Int),.int .i64 (e-1),.int .i64 ((wd:Int)+(L:Int)+1)] W fun r w'=>r=.returned (.slice (some ⟨W.heap.size,0,none⟩) (wd+L+1) (wd+L+1))/\Ir w' W.heap.size (wd+L+1) (ucF hl cl (e-1) E (wd+L+1))/\Below W.heap.size W w'):=fun W g=>by
  have h:=used_any sb bb N mb nn (wd+L+1) cl (e-1) E st ba pa fa bc pc fc f hl W (HSt.out W g).1 (hM.below (g.block _ hM.lt)) hf hll (by omega) (by unfold I64;omega) (by omega) (by omega) hE hE2;rw [show ((wd+L+1:Nat):Int)=(wd:Int)+(L:Int)+1 by omega] at h;exact h
 have HRes:Hid (frC hl cl E u e l L=catL (fun i=>byJ (ucF hl cl (e-1) E (wd+L+1)) u E e L wd (2-i)) 3):=by show frC hl cl E u e l L=_;unfold frC;rw [hwd]
 have HUb:Hid (∀ j,0<=ucF hl cl (e-1) E (wd+L+1) j/\ucF hl cl (e-1) E (wd+L+1) j<=1000000):=fun j=>by
  unfold ucF
  split
  ·have:=hll cl ((e-1+E+(j:Nat))%E)
   constructor <;> omega
  ·constructor <;> omega
 generalize frC hl cl E u e l L=res at *;generalize ucF hl cl (e-1) E (wd+L+1)=ub at *;have z1:(cl:Int)<4:=by omega
 have z2:(0:Int)<=(cl:Int):=by omega
 have z3:(L:Int)<=4:=by omega
 have z4:(1:Int)<=(L:Int):=by omega
 clear hS hM hf hll hbu hbz hwd;go_enter Tryz.func157,Tryz.ntmps157;go_wp2_with fail
 generalize hV:w.alloc (.cells #[.int .i64 e,.int .i64 l] 184)=V at *;clear hV;obtain ⟨sA,b1,b9,bl⟩:=HSt.out V HU.out;have s0:V.cell? ⟨sb,0,none⟩=some (.pointer (some ⟨bb,0,none⟩)):=sA.c 0 _ rfl;have s1:V.cell? ⟨sb,1,none⟩=some (.int .i64 E):=sA.c 1 _ rfl;have sl:=sA.lt;have y0:V.cell? ⟨w.heap.size,0,none⟩=some (.int .i64 e):=HB.out.c 0 _ rfl;have y1:V.cell? ⟨w.heap.size,1,none⟩=some (.int .i64 l):=HB.out.c 1 _ rfl;have yl:=HB.out.lt;clear sA
 go_step3
 go_wp2_with fail
 go_quiet (fail)
 rw [<- hw0];clear hw0;have HV2:Hid (Below w.heap.size w (V.drewN nq)/\At (V.drewN nq) w.heap.size #[.int .i64 e,.int .i64 l]):=⟨HU.out.trans ⟨rfl,rfl,rfl,Nat.le_refl _,fun _ _=>rfl⟩,HB.out.c,HB.out.f,HB.out.lt⟩;clear s0 s1 sl y0 y1 yl b1 b9 bl HU HB;generalize V.drewN nq=V2 at *;have y0:V2.cell? ⟨w.heap.size,0,none⟩=some (.int .i64 e):=HV2.out.2.c 0 _ rfl;have yl:=HV2.out.2.lt;go_wp2_with (first
  | (go_at_call 170;refine Calls.mono (HUs.out _ HV2.out.1) ?_;rintro e1 w1 ⟨rfl,ir,b1⟩;have H1:Hid (Below w.heap.size w w1/\At w1 w.heap.size #[.int .i64 e,.int .i64 l]/\Ir w1 V2.heap.size (wd+L+1) ub):=⟨HV2.out.1.trans (b1.mono HV2.out.1.size),HV2.out.2.below b1 HV2.out.2.lt,ir⟩;clear b1 ir HUs y0 yl))
 clear HV2;generalize V2.heap.size=q at *;have HJ0:Hid (Js (w1.alloc (.cells #[.slice none 0 0,.slice none 0 0,.slice none 0 0] 225)) (w1.heap.size+1) w1.heap.size 3 (fun _=>.slice none 0 0) (byJ ub u E e L 0)):=js_new w1 (w1.heap.size+1) (by omega) (Below.refl _ _) (by simp);have HK:Hid (∀ W,So.Fr (Gj (w1.heap.size+1) w1.heap.size) (w1.alloc (.cells #[.slice none 0 0,.slice none 0 0,.slice none 0 0] 225)) W->Below w.heap.size w W/\(∀ j,j<wd+L+1->W.cell? ⟨q,j,none⟩=some (.int .i64 (ub j)))/\W.cell? ⟨w.heap.size,0,none⟩=some (.int .i64 e)/\w.heap.size<W.heap.size/\q<W.heap.size):=fun W g=>by
  have g1:=g.below (B:=w1.heap.size) (by simp) fun k hk e=>by rcases e with e|e <;> omega
  have g2:Below w1.heap.size w1 W:=((Below.refl w1.heap.size w1).alloc (Nat.le_refl _) _).trans g1;have h3:=H1.out.1.size;exact ⟨H1.out.1.trans (g2.mono h3),fun j hj=>(H1.out.2.2.up g2).c j hj,(H1.out.2.1.below g2 H1.out.2.1.lt).c 0 _ rfl,(H1.out.2.1.below g2 H1.out.2.1.lt).lt,(H1.out.2.2.up g2).lt⟩
 have hjb:w.heap.size<=w1.heap.size:=H1.out.1.size;generalize hw2:w1.alloc (.cells #[.slice none 0 0,.slice none 0 0,.slice none 0 0] 225)=w2 at *;have hs2:w2.heap.size=w1.heap.size+1:=by rw [<- hw2];exact World.size_alloc _ _
 clear hw2 H1;generalize w1.heap.size=jb at *;obtain ⟨i0,hi,hi2⟩:=Option.map_eq_some_iff.1 infoN;simp only [Prod.mk.injEq] at hi2;obtain ⟨hz0,hz1,hz2⟩:=hi2;have HI:Hid (Tryz.prog.info? 3=some i0/\i0.zero=some (.int .i64 0)/\i0.size=1/\i0.bytes=8):=⟨hi,hz0,hz1,hz2⟩;clear hi hz0 hz1 hz2
 go_step3
 go_wp2_with fail
 go_loopw [49] (fun v wr=>∃ (k:Nat) (vf:Nat->Value),k<=wd/\v=.int .i64 k/\So.Fr (Gj (jb+1) jb) w2 wr/\Js wr (jb+1) jb 3 vf (byJ ub u E e L k)) (fun v _=>wd-(intOf v).toNat)
 case atStart=>exact ⟨0,_,by omega,rfl,So.Fr.refl _ _,HJ0.out⟩
 case round=>
  rename World=>wr;obtain ⟨k,vf,hk,rfl,hq1,hq2⟩:=hrel;have HQ:Hid (So.Fr (Gj (jb+1) jb) w2 wr/\Js wr (jb+1) jb 3 vf (byJ ub u E e L k)):=⟨hq1,hq2⟩;clear hq1 hq2 HJ0
  by_cases hlt:k<wd
  ·have k0:(0:Int)<=(k:Int):=by omega
   have k1:(k:Int)<(wd:Int):=by omega
   have k2:(k:Int)<=((wd+L+1:Nat):Int):=by omega
   have k3:¬ wd+L+1=k:=by omega
   have k4:¬ k=wd+L+1:=by omega
   obtain ⟨f1,-,-,-,-⟩:=HK.out wr HQ.out.1;have s1:wr.cell? ⟨sb,1,none⟩=some (.int .i64 E):=(HSt.out wr f1).1.c 1 _ rfl;have sl:=(HSt.out wr f1).1.lt;obtain ⟨mI,hmI⟩:∃ mI:Nat,min E (L:Int)=(mI:Int):=⟨(min E (L:Int)).toNat,by omega⟩;have hmL:mI<=L:=by omega
   have hmE:mI=min E.toNat L:=by omega
   have HmE:Hid (mI=min E.toNat L):=hmE;have hmi3:(if (L:Int)<E then (L:Int) else E)=(mI:Int):=by split <;> omega
   clear f1 hmE;go_wp2_with fail
   clear s1 sl;have HQ1:Hid (So.Fr (Gj (jb+1) jb) w2 wr/\Js wr (jb+1) jb 3 vf (byJ ub u E e L k)):=HQ.out
   go_loopw [61] (fun v wz=>∃ j:Nat,j<=mI/\v=.int .i64 j/\(∀ i,i<j->ub (k+(1+i))+(((L:Int)-1-(i:Int)) / E+1)<=u)/\Below wr.heap.size wr wz) (fun v _=>mI-(intOf v).toNat)
   case atStart=>exact ⟨0,by omega,rfl,fun i hi=>by omega,Below.refl _ _⟩
   case round=>
    rename World=>wz;obtain ⟨j,hj,rfl,hz1,hz2⟩:=hrel;have HZ:Hid ((∀ i,i<j->ub (k+(1+i))+(((L:Int)-1-(i:Int)) / E+1)<=u)/\Below wr.heap.size wr wz):=⟨hz1,hz2⟩;clear hz1 hz2;have HQ2:Hid (So.Fr (Gj (jb+1) jb) w2 wz/\Js wz (jb+1) jb 3 vf (byJ ub u E e L k)):=⟨HQ.out.1.then HZ.out.2,HQ.out.2.up HZ.out.2⟩;obtain ⟨f1,f2,f3,f4,f5⟩:=HK.out wz HQ2.out.1;obtain ⟨sA,b1,b9,bl⟩:=HSt.out wz f1;have s0:wz.cell? ⟨sb,0,none⟩=some (.pointer (some ⟨bb,0,none⟩)):=sA.c 0 _ rfl;have s1:wz.cell? ⟨sb,1,none⟩=some (.int .i64 E):=sA.c 1 _ rfl;have sl:=sA.lt;clear sA b9
    by_cases hjm:j<mI
    ·have j0:(0:Int)<=(j:Int):=by omega
     have j1:(j:Int)<(mI:Int):=by omega
     have x1:=f2 (k+(1+j)) (by omega);have d0:(0:Int)<=((L:Int)-1-(j:Int)) / E:=Int.ediv_nonneg (by omega) (by omega);have d1:((L:Int)-1-(j:Int)) / E<=4:=Int.le_trans (Int.ediv_le_self _ (by omega)) (by omega);have d2:Int.tdiv ((L:Int)-1-(j:Int)) E=((L:Int)-1-(j:Int)) / E:=Int.tdiv_eq_ediv_of_nonneg (by omega);have dE:¬ E=0:=by omega
     obtain ⟨u0,u1⟩:=HUb.out (k+(1+j));have HNo:Hid (u<ub (k+(1+j))+(((L:Int)-1-(j:Int)) / E+1)->okF ub u E L k=false):=fun h=>okF_no (by rw [<- HmE.out];exact hjm) h;have HYs:Hid (ub (k+(1+j))+(((L:Int)-1-(j:Int)) / E+1)<=u->∀ i,i<j+1->ub (k+(1+i))+(((L:Int)-1-(i:Int)) / E+1)<=u):=fun h i hi=>by
      by_cases ei:i=j
      ·subst ei;exact h
      ·exact HZ.out.1 i (by omega)
     have j2:(1:Int)+(j:Int)<((wd+L+1-k:Nat):Int):=by omega
     have j3:(0:Int)<=1+(j:Int):=by omega
     have j4:((1:Int)+(j:Int)).toNat = 1+j:=by omega
     generalize hub:ub (k+(1+j))=uv at *;generalize hdv:((L:Int)-1-(j:Int)) / E=dv at *;clear f2 f3 f4 f1
     by_cases hgt:u<uv+(dv+1)
     ·have HO:Hid (okF ub u E L k=false):=HNo.out hgt;have hgd:decide (uv+(dv+1)>u)=true:=decide_eq_true hgt;clear HNo HYs;go_wp2_with fail
      go_quiet (fail)
      have HE1:Hid (So.Fr (Gj (jb+1) jb) w2 (wz.drewN nq)/\Js (wz.drewN nq) (jb+1) jb 3 vf (byJ ub u E e L k)):=⟨HQ2.out.1.then ⟨rfl,rfl,rfl,Nat.le_refl _,fun _ _=>rfl⟩,HQ2.out.2.up ⟨rfl,rfl,rfl,Nat.le_refl _,fun _ _=>rfl⟩⟩;clear s0 s1 sl b1 bl x1 HQ2 HZ HQ HQ1;generalize wz.drewN nq=Z at *;go_wp2_with fail
      go_roundw
      case rel=>exact ⟨k+1,vf,by omega,by go_num,HE1.out.1,by rw [byJ_no HO.out];exact HE1.out.2⟩
      case measure=>simp [intOf];omega
     ·have HO:Hid _:=HYs.out (by omega);have hgd:decide (uv+(dv+1)>u)=false:=decide_eq_false (by omega);clear HNo HYs;go_wp2_with fail
      go_quiet (fail)
      have HE1:Hid (Below wr.heap.size wr (wz.drewN nq)):=HZ.out.2.trans ⟨rfl,rfl,rfl,Nat.le_refl _,fun _ _=>rfl⟩;clear s0 s1 sl b1 bl x1 HQ2 HZ;generalize wz.drewN nq=Z at *;go_wp2_with fail
      go_roundw
      case rel=>exact ⟨j+1,by omega,by go_num,HO.out,HE1.out⟩
      case measure=>simp [intOf];omega
    ·obtain rfl:j=mI:=by omega
     have j1:¬ (j:Int)<(j:Int):=by omega
     have HO:Hid (okF ub u E L k=true):=okF_yes fun i hi=>HZ.out.1 i (by rw [HmE.out];exact hi);have HJn:Hid (Calls Tryz.prog 171 #[.slice (some ⟨q,k,none⟩) (wd+L+1-k) (wd+L+1-k),.int .i64 (L:Int)] wz fun e' w'=>e' = .returned (.int .i64 (jn (fun i=>ub (k+i)) L))/\Below wz.heap.size wz w'):=joined_any q k (wd+L+1-k) (wd+L+1-k) L (fun i=>ub (k+i)) wz (fun i hi=>f2 (k+i) (by omega)) hL0 hL (by omega);obtain ⟨n0,n1⟩:=jn_in (fun i=>ub (k+i)) L;have HB2:Hid (byJ ub u E e L (k+1)=updL (byJ ub u E e L k) (jnF ub L k) (byJ ub u E e L k (jnF ub L k)++[e+(k:Int)])):=byJ_yes HO.out;have hjn:jn (fun i=>ub (k+i)) L=((jnF ub L k:Nat):Int):=by unfold jnF;omega
     rw [hjn] at HJn n1;have hbl:=byJ_len ub u E e L k (jnF ub L k);generalize jnF ub L k=J at *;clear hjn n0 f1 f2 f3 f4 s0 s1 sl b1 bl HQ HQ1;go_wp2_with (first
      | (go_at_call 171;refine Calls.mono HJn.out ?_;rintro e2 w3 ⟨rfl,b3⟩;have HE1:Hid (So.Fr (Gj (jb+1) jb) w2 w3/\Js w3 (jb+1) jb 3 vf (byJ ub u E e L k)):=⟨HQ2.out.1.then b3,HQ2.out.2.up b3⟩;clear b3 HJn HQ2 HZ))
     obtain ⟨-,-,f3,f4,-⟩:=HK.out w3 HE1.out.1;have y2:=HE1.out.2.c J (by omega);have hJs:jb<w3.heap.size:=Nat.lt_of_lt_of_le HE1.out.2.lt HE1.out.2.sz;have HOw:Hid (w3.ownsRow (jb+1) 3 1 (vf J) (byJ ub u E e L k J).length (ints (byJ ub u E e L k J))):=HE1.out.2.o J (by omega);have c0:(0:Int)<=(J:Int):=by omega
     have c1:(J:Int)<3:=by omega
     have HP:Hid (∀ W' w4 g cap,Below w3.heap.size w3 W'->W'.grownBy w4 (vf J).ownBlock->w4.ownsRow (jb+1) 3 1 (.slice (some ⟨g,0,none⟩) ((byJ ub u E e L k J).length+1) cap) ((byJ ub u E e L k J).length+1) (ints (byJ ub u E e L k J)++[.int .i64 (e+(k:Int))])->((vf J).ownBlock=some g\/w3.heap.size<=g)->(w4.cell? ⟨jb,J,none⟩=some (vf J)/\w4.frozen? ⟨jb,J,none⟩=false/\jb<w4.heap.size)/\So.Fr (Gj (jb+1) jb) w2 (w4.setCell ⟨jb,J,none⟩ (.slice (some ⟨g,0,none⟩) ((byJ ub u E e L k J).length+1) cap))/\Js (w4.setCell ⟨jb,J,none⟩ (.slice (some ⟨g,0,none⟩) ((byJ ub u E e L k J).length+1) cap)) (jb+1) jb 3 (updW vf J (.slice (some ⟨g,0,none⟩) ((byJ ub u E e L k J).length+1) cap)) (byJ ub u E e L (k+1))):=by
      intro W' w4 g cap h1 h2 h3 h4;obtain ⟨a1,a2,a3⟩:=HE1.out.2.next (x:=e+(k:Int)) h1 h2 (by omega) h3 h4;exact ⟨a2,(HE1.out.1.same a1).setCell (.inr (.inl rfl)) _ _,by rw [HB2.out];exact a3⟩
     clear HE1;generalize vf J=vj at *;generalize hrl:byJ ub u E e L k J=rl at *;have l6:¬ jb=w3.heap.size:=by omega
     have l8:¬ w3.heap.size=jb:=by omega
     have l5:¬ w.heap.size=w3.heap.size:=by omega
     have hek:IntKind.i64.wrap (e+(k:Int))=e+(k:Int):=by rw [IntKind.wrap_i64];omega
     go_wp2_with fail
     go_region_law
      ((refine step_append_lies _ (by rfl) _ _ 27 (by rfl) (jb+1) 3 i0 (.int .i64 0) 1 8 Tryz.underlying27 HI.out.1 HI.out.2.1 HI.out.2.2.1 HI.out.2.2.2 rfl (by decide) vj rl.length (ints rl) (by rfl) (HOw.out.drew.alloc _) ⟨w3.heap.size,0,none⟩ 1 1 [.int .i64 (e+(k:Int))] (by rfl) rfl (World.news_of_block (heap_alloc_new w3.drew (.cells #[.int .i64 (e+(k:Int))] 3))) (by simp [Value.oneCell']) (by decide) (by unfold maxLen;omega) (by omega) (by simp;omega) _ rfl ?_;intro g cap w4 hown hgrow hg hlt3;have HP3:Hid _:=HP.out _ w4 g cap ((drew_up w3).alloc (Nat.le_refl _) _) hgrow hown (hg.imp id fun e=>by rw [e];simp);have z1:=HP3.out.1.1;have z2:=HP3.out.1.2.1;have z3:=HP3.out.1.2.2;clear hown hgrow hg hlt3))
     all_goals
      go_wp2_with fail
      go_roundw
      case rel=>exact ⟨k+1,_,by omega,by go_num,HP3.out.2.1,HP3.out.2.2⟩
      case measure=>simp [intOf];omega
  ·obtain rfl:k=wd:=by omega
   have k1:¬ (k:Int)<(k:Int):=by omega
   obtain ⟨g1,g2⟩:=HQ.out;obtain ⟨f1,-,-,-,-⟩:=HK.out wr g1;have x0:=g2.c 0 (by omega);have x1:=g2.c 1 (by omega);have x2:=g2.c 2 (by omega);have hJs:jb<wr.heap.size:=Nat.lt_of_lt_of_le g2.lt g2.sz;have HC:Hid (∀ W,Below wr.heap.size wr W->∀ cb,cb<W.heap.size->W.cell? ⟨cb,0,none⟩=some (vf 2)->W.cell? ⟨cb,1,none⟩=some (vf 1)->W.cell? ⟨cb,2,none⟩=some (vf 0)->Calls Tryz.prog 172 #[.slice (some ⟨cb,0,none⟩) 3 3] W fun e' w'=>∃ v,e' = .returned v/\w'.ownsRow W.heap.size 3 1 v res.length (ints res)/\Below W.heap.size W w'):=fun W hW cb h1 h2 h3 h4=>by
    have h:=concat_any cb 3 3 (fun i=>vf (2-i)) (fun i=>byJ ub u E e L k (2-i)) W h1 (fun i hi=>by
     have hn:Ln W (vf (2-i)) (byJ ub u E e L k (2-i)):=(Ln.of (g2.o (2-i) (by omega))).up hW;obtain rfl|rfl|rfl:i=0\/i=1\/i=2:=by omega
     ·exact ⟨h2,hn⟩
     ·exact ⟨h3,hn⟩
     ·exact ⟨h4,hn⟩) (by omega) (by
      have a1:=byJ_len ub u E e L k 0;have a2:=byJ_len ub u E e L k 1;have a3:=byJ_len ub u E e L k 2;show ((([]++byJ ub u E e L k 2)++byJ ub u E e L k 1)++byJ ub u E e L k 0).length<=_;simp only [List.length_append,List.length_nil]
      omega)
    rw [<- HRes.out] at h;exact h
   have HS2:Hid (∃ a n c,vf 2=.slice a n c):=by obtain ⟨a,c,e',-⟩:=(Ln.of (g2.o 2 (by omega))).is;exact ⟨a,_,c,e'⟩
   have HS1:Hid (∃ a n c,vf 1=.slice a n c):=by obtain ⟨a,c,e',-⟩:=(Ln.of (g2.o 1 (by omega))).is;exact ⟨a,_,c,e'⟩
   have HS0:Hid (∃ a n c,vf 0=.slice a n c):=by obtain ⟨a,c,e',-⟩:=(Ln.of (g2.o 0 (by omega))).is;exact ⟨a,_,c,e'⟩
   have HF:Hid (Below w.heap.size w wr):=f1;clear g1 g2 f1;generalize vf 2=w20 at *;generalize vf 1=w10 at *;generalize vf 0=w00 at *;obtain ⟨p2,n2,q2,rfl⟩:=HS2.out;obtain ⟨p1,n1,q1,rfl⟩:=HS1.out;obtain ⟨p0,n0,q0,rfl⟩:=HS0.out;go_wp2_with (first
    | (go_at_call 172;refine Calls.mono (HC.out _ ((Below.refl _ _).alloc (Nat.le_refl _) _) wr.heap.size (by simp) (by simp) (by simp) (by simp)) ?_;rintro e2 w5 ⟨v5,rfl,o5,b5⟩;have H5:Hid (w5.ownsRow w.heap.size 3 1 v5 res.length (ints res)/\Below w.heap.size w w5):=⟨own_base o5 (by simp;have:=HF.out.size;omega),HF.out.trans (((Below.refl wr.heap.size wr).alloc (Nat.le_refl _) _).trans (b5.mono (by simp)) |>.mono HF.out.size)⟩;clear o5 b5 HC))
   first|rw [Exit.noGoto_ret]|skip
   go_ret
   exact ⟨_,rfl,H5.out.1,H5.out.2⟩
end Go.Proofs.YtiejdpjgplikjaaGreatDoor.Mo
namespace Go.Proofs.YtiejdpjgplikjaaGreatDoor.Mo
open YtiejdpjgplikjaaGreatDoor.Dp YtiejdpjgplikjaaGreatDoor.Bn
structure WI (F:Mat) (la:Int) (N:Nat) (P e l:Nat->Int):Prop where
 e0:∀ i,i<N->0<=e i
 l1:∀ i,i<N->l i<=la
 en:∀ m i,m<N->i<N->P m≠-1->F m i≠noW->P m+F m i<=e i
 ln:∀ m i,m<N->i<N->P m≠-1->F i m≠noW->l i<=P m-F i m
structure PI (F:Mat) (la:Int) (N:Nat) (P:Nat->Int):Prop where
 r:∀ i,i<N->P i≠-1->0<=P i/\P i<=la
 p:∀ i j,i<N->j<N->P i≠-1->P j≠-1->F i j≠noW->P i+F i j<=P j
theorem st_in {F:Mat} {la:Int} {i:Nat} {s:(Nat->Int)×(Nat->Int)} {N:Nat} (h1:∀ k,k<N->0<=s.1 k) (h2:∀ k,k<N->s.2 k<=la):∀ j,(∀ k,k<N->0<=(stO F la i s j).1 k)/\∀ k,k<N->(stO F la i s j).2 k<=la
 | 0=>⟨h1,h2⟩
 | j+1=>by
  obtain ⟨g1,g2⟩:=st_in (F:=F) (i:=i) h1 h2 j;unfold stO
  split
  ·exact ⟨g1,g2⟩
  ·refine ⟨fun k hk=>?_,fun k hk=>?_⟩
   ·show 0<=updI _ j _ k;unfold updI
    have:=g1 k hk
    split
    ·rename_i e;subst e;omega
    ·exact this
   ·show updI _ i _ k<=la;unfold updI
    have:=g2 k hk
    split
    ·rename_i e;subst e;omega
    ·exact this
theorem op_in (F:Mat) (la:Int) (N:Nat):∀ i,(∀ k,k<N->0<=(opO F la N i).1 k)/\∀ k,k<N->(opO F la N i).2 k<=la
 | 0=>⟨fun _ _=>Int.le_refl _,fun k hk=>by show (if k<N then la else 0)<=la;rw [if_pos hk];exact Int.le_refl _⟩
 | i+1=>st_in (op_in F la N i).1 (op_in F la N i).2 N
theorem wi_open (F:Mat) (la:Int) (N:Nat):WI F la N (fun _=>-1) (opO F la N N).1 (opO F la N N).2:=
 ⟨(op_in F la N N).1,(op_in F la N N).2,fun _ _ _ _ h=>absurd rfl h,fun _ _ _ _ h=>absurd rfl h⟩
theorem pi_open (F:Mat) (la:Int) (N:Nat):PI F la N (fun _=>-1):=⟨fun _ _ h=>absurd rfl h,fun _ _ _ _ h=>absurd rfl h⟩
theorem wi_next {F:Mat} {la:Int} {N:Nat} {P e l:Nat->Int} (w:WI F la N P e l) (p:PI F la N P) {n:Nat} {c:Int} (hn:n<N) (h1:e n<=c) (h2:c<=l n) (h0:F n n=0) :
  WI F la N (updI P n c) (nwE F n c e N) (nwL F n c l N)/\PI F la N (updI P n c):=by
 have c0:=w.e0 n hn;have c1:=w.l1 n hn;have le:∀ i,i<N->e i<=nwE F n c e N i:=fun i hi=>by unfold nwE;split <;> omega
 have ll:∀ i,i<N->nwL F n c l N i<=l i:=fun i hi=>by unfold nwL;split <;> omega
 refine ⟨⟨fun i hi=>Int.le_trans (w.e0 i hi) (le i hi),fun i hi=>Int.le_trans (ll i hi) (w.l1 i hi),fun m i hm hi h3 h4=>?_,fun m i hm hi h3 h4=>?_⟩,⟨fun i hi h3=>?_,fun i j hi hj h3 h4 h5=>?_⟩⟩
 ·by_cases em:m=n
  ·subst em;unfold updI nwE;rw [if_pos rfl,if_pos ⟨hi,h4⟩];omega
  ·unfold updI at h3 ⊢;rw [if_neg em] at h3 ⊢;exact Int.le_trans (w.en m i hm hi h3 h4) (le i hi)
 ·by_cases em:m=n
  ·subst em;unfold updI nwL;rw [if_pos rfl,if_pos ⟨hi,h4⟩];omega
  ·unfold updI at h3 ⊢;rw [if_neg em] at h3 ⊢;exact Int.le_trans (ll i hi) (w.ln m i hm hi h3 h4)
 ·unfold updI at h3 ⊢
  by_cases ei:i=n
  ·rw [if_pos ei];omega
  ·rw [if_neg ei] at h3 ⊢;exact p.r i hi h3
 ·unfold updI at h3 h4 ⊢
  by_cases ei:i=n
  ·by_cases ej:j=n
   ·subst ei;subst ej;rw [if_pos rfl,h0];omega
   ·rw [if_neg ej] at h4;rw [if_pos ei,if_neg ej];subst ei
    have:=w.ln j i hj hn h4 h5
    omega
  ·by_cases ej:j=n
   ·rw [if_neg ei] at h3;rw [if_neg ei,if_pos ej];subst ej
    have:=w.en i j hi hn h3 h5
    omega
   ·rw [if_neg ei] at h3;rw [if_neg ej] at h4;rw [if_neg ei,if_neg ej];exact p.p i j hi hj h3 h4 h5
theorem kp_of {n:Nat} {es:List Ed} (he:EL n es) {E:Int} (h0:0<=E) (h1:E<=65536) {la:Int} {P:Nat->Int} (p:PI (lw E es n) la n P) (hall:∀ i,i<n->P i≠-1):kpB es P E=true:=by
 refine kpB_iff.2 fun e hm=>?_;have e1:=he e hm;have f0:=e1.f0;have fn:=e1.fn;have t0:=e1.t0;have tn:=e1.tn;have hw:=wt_inB e1 h0 h1;have hg:=lw_mem (q:=E) hm n
 have:=p.p e.f.toNat e.t.toNat (by omega) (by omega) (hall _ (by omega)) (hall _ (by omega)) (by unfold noW;omega)
 unfold Bn.wt at hg;have hc:E*e.d=e.d*E:=Int.mul_comm ..;rw [hc] at hg;omega
theorem stg_of {N:Nat} {P:Nat->Int} {D E:Int} (hE:1<=E) (hD:E<=D) (hr:∀ i,i<N->P i<=lastC D E):stg N P E<=31/\stg N P E*E<=2*D:=by
 have q1:1<=2*D / E:=Int.le_ediv_of_mul_le (by omega) (by omega);have q3:(2*D / E)*E<=2*D:=Int.ediv_mul_le _ (by omega);unfold lastC at hr;obtain ⟨m,hm⟩:∃ m,min 31 (2*D / E)=m:=⟨_,rfl⟩;rw [hm] at hr;have m1:1<=m:=by omega
 have m2:m<=31:=by omega
 have m3:m*E<=2*D:=Int.le_trans (Int.mul_le_mul_of_nonneg_right (by omega) (by omega)) q3;have m4:1*E<=m*E:=Int.mul_le_mul_of_nonneg_right m1 (by omega);have hx:mxN P N<=m*E-1:=mxN_le (by omega) hr;have hq:mxN P N / E<m:=Int.ediv_lt_of_lt_mul (by omega) (by omega);unfold stg;refine ⟨by omega,Int.le_trans (Int.mul_le_mul_of_nonneg_right (show mxN P N / E+1<=m by omega) (show 0<=E by omega)) m3⟩
def hlP (clf Z:Nat->Nat) (E:Int) (P:Nat->Int):Nat->Int->Int->Nat
 | 0,_,_=>0
 | k+1,a,b=>hlP clf Z E P k a b+if P k = -1 then 0 else cntL (clf k) (P k) E (Z (clf k)) a b
theorem hlP_same {clf Z:Nat->Nat} {E:Int} {P Q:Nat->Int} : ∀ {k:Nat},(∀ i,i<k->P i=Q i)->hlP clf Z E P k=hlP clf Z E Q k
 | 0,_=>rfl
 | k+1,h=>by
  funext a b
  show hlP clf Z E P k a b+_=hlP clf Z E Q k a b+_;rw [hlP_same (k:=k) fun i hi=>h i (by omega),h k (by omega)]
theorem hlP_put {clf Z:Nat->Nat} {E:Int} {P:Nat->Int} {n:Nat} {c:Int} (h0:P n = -1) (hc:c≠-1):∀ {k:Nat},n<k->hlP clf Z E (updI P n c) k=fun a b=>hlP clf Z E P k a b+cntL (clf n) c E (Z (clf n)) a b
 | 0,h=>by omega
 | k+1,h=>by
  funext a b
  show hlP clf Z E (updI P n c) k a b+_=hlP clf Z E P k a b+_+_
  by_cases e:n=k
  ·subst e;rw [hlP_same (P:=updI P n c) (Q:=P) fun i hi=>by unfold updI;rw [if_neg (by omega)]];have e1:updI P n c n=c:=by unfold updI;rw [if_pos rfl]
   rw [e1,if_neg hc,if_pos h0];omega
  ·rw [hlP_put h0 hc (k:=k) (by omega)];show hlP clf Z E P k a b+cntL (clf n) c E (Z (clf n)) a b+_=_;have e1:updI P n c k=P k:=by unfold updI;rw [if_neg (by omega)]
   rw [e1];omega
theorem hlP_le (clf Z:Nat->Nat) (E:Int) (P:Nat->Int) (hZ:∀ c,Z c<=4):∀ (k:Nat) (a b:Int),hlP clf Z E P k a b<=4*k
 | 0,_,_=>Nat.zero_le _
 | k+1,a,b=>by
  show hlP clf Z E P k a b+_<=_;have h1:=hlP_le clf Z E P hZ k a b;have h2:=cntL_k (clf k) (P k) E a b (Z (clf k));have h3:=hZ (clf k)
  split <;> omega
structure Cq where
 FM:Mat
 N:Nat
 clf:Nat->Nat
 Z:Nat->Nat
 U:Nat->Int
 E:Int
structure Dv where
 ok:Bool
 P:Nat->Int
 F:Nat->Int
 st:Int
def tryL (C:Cq) (rec:(Nat->Int)->(Nat->Int)->(Nat->Int)->(Nat->Int)->Int->Dv) (n:Nat) (e l P:Nat->Int):List Int->(Nat->Int)->Int->Dv
 | [],F,st=>⟨false,P,F,st⟩
 | c::cs,F,st=>
  if (rec (nwE C.FM n c e C.N) (nwL C.FM n c l C.N) (updI P n c) F st).ok=true then rec (nwE C.FM n c e C.N) (nwL C.FM n c l C.N) (updI P n c) F st
  else if (rec (nwE C.FM n c e C.N) (nwL C.FM n c l C.N) (updI P n c) F st).st<=0 then ⟨false,P,(rec (nwE C.FM n c e C.N) (nwL C.FM n c l C.N) (updI P n c) F st).F,(rec (nwE C.FM n c e C.N) (nwL C.FM n c l C.N) (updI P n c) F st).st⟩
  else tryL C rec n e l P cs (rec (nwE C.FM n c e C.N) (nwL C.FM n c l C.N) (updI P n c) F st).F (rec (nwE C.FM n c e C.N) (nwL C.FM n c l C.N) (updI P n c) F st).st
def frN (C:Cq) (P e l:Nat->Int) (n:Nat):List Int:=frC (hlP C.clf C.Z C.E P C.N) (C.clf n) C.E (C.U (C.clf n)) (e n) (l n) (C.Z (C.clf n))
def plS (C:Cq):Nat->(Nat->Int)->(Nat->Int)->(Nat->Int)->(Nat->Int)->Int->Dv
 | 0,_,_,P,F,st=>⟨true,P,F,st⟩
 | u+1,e,l,P,F,st=>
  if nxP e l F P C.N = -1 then ⟨true,P,F,st⟩
  else tryL C (plS C u) (nxP e l F P C.N).toNat e l P (frN C P e l (nxP e l F P C.N).toNat) (if frN C P e l (nxP e l F P C.N).toNat = [] then updI F (nxP e l F P C.N).toNat (F (nxP e l F P C.N).toNat + 1) else F) (st-1)
theorem tryL_false {C:Cq} {rec:(Nat->Int)->(Nat->Int)->(Nat->Int)->(Nat->Int)->Int->Dv} {n:Nat} {e l P:Nat->Int} : ∀ {cs:List Int} {F:Nat->Int} {st:Int},(tryL C rec n e l P cs F st).ok=false->(tryL C rec n e l P cs F st).P=P
 | [],_,_,_=>rfl
 | c::cs,F,st,h=>by
  unfold tryL at h ⊢
  split
  ·rename_i h1;rw [if_pos h1] at h;rw [h] at h1;cases h1
  ·rename_i h1;rw [if_neg h1] at h
   split
   ·rfl
   ·rename_i h2;rw [if_neg h2] at h;exact tryL_false h
theorem plS_false {C:Cq} {u:Nat} {e l P F:Nat->Int} {st:Int} (h:(plS C u e l P F st).ok=false):(plS C u e l P F st).P=P:=by
 cases u with
 | zero=>rfl
 | succ u=>
  unfold plS at h ⊢
  split
  ·rfl
  ·rename_i h1;rw [if_neg h1] at h;exact tryL_false h
structure Bd (N:Nat) (K:Int) (F:Nat->Int) (st:Int):Prop where
 f0:∀ i,i<N->0<=F i
 f1:∀ i,i<N->F i+st<=K
theorem tryL_bd {C:Cq} {rec:(Nat->Int)->(Nat->Int)->(Nat->Int)->(Nat->Int)->Int->Dv} {K lo:Int} {d:Nat} (hlo:lo<=0) (hr:∀ e l P F st,lo<=st->Bd C.N K F st->Bd C.N K (rec e l P F st).F (rec e l P F st).st/\lo-d<=(rec e l P F st).st/\(rec e l P F st).st<=st) {n:Nat} {e l P:Nat->Int} : ∀ {cs:List Int} {F:Nat->Int} {st:Int},lo<=st->Bd C.N K F st->Bd C.N K (tryL C rec n e l P cs F st).F (tryL C rec n e l P cs F st).st/\lo-d<=(tryL C rec n e l P cs F st).st/\(tryL C rec n e l P cs F st).st<=st
 | [],F,st,h1,h2=>⟨h2,by show lo-d<=st;omega,Int.le_refl _⟩
 | c::cs,F,st,h1,h2=>by
  obtain ⟨g1,g2,g3⟩:=hr (nwE C.FM n c e C.N) (nwL C.FM n c l C.N) (updI P n c) F st h1 h2;unfold tryL
  split
  ·exact ⟨g1,g2,g3⟩
  ·split
   ·exact ⟨g1,g2,g3⟩
   ·rename_i h3;obtain ⟨a1,a2,a3⟩:=tryL_bd hlo hr (n:=n) (e:=e) (l:=l) (P:=P) (cs:=cs) (F:=(rec (nwE C.FM n c e C.N) (nwL C.FM n c l C.N) (updI P n c) F st).F) (st:=(rec (nwE C.FM n c e C.N) (nwL C.FM n c l C.N) (updI P n c) F st).st) (by omega) g1;exact ⟨a1,a2,Int.le_trans a3 g3⟩
theorem plS_bd {C:Cq} {K:Int} : ∀ {u:Nat} {lo:Int} {e l P F:Nat->Int} {st:Int},lo<=0->lo<=st->Bd C.N K F st->Bd C.N K (plS C u e l P F st).F (plS C u e l P F st).st/\lo-u<=(plS C u e l P F st).st/\(plS C u e l P F st).st<=st
 | 0,lo,_,_,_,F,st,h0,h1,h2=>⟨h2,by show lo-(0:Nat)<=st;omega,Int.le_refl _⟩
 | u+1,lo,e,l,P,F,st,h0,h1,h2=>by
  unfold plS
  split
  ·exact ⟨h2,by show lo-((u+1:Nat):Int)<=st;omega,Int.le_refl _⟩
  ·have hb:Bd C.N K (if frN C P e l (nxP e l F P C.N).toNat = [] then updI F (nxP e l F P C.N).toNat (F (nxP e l F P C.N).toNat + 1) else F) (st-1):=by
    split
    ·refine ⟨fun i hi=>?_,fun i hi=>?_⟩
     ·have:=h2.f0 i hi
      unfold updI;split
      ·rename_i e1;subst e1;omega
      ·exact this
     ·have:=h2.f1 i hi
      unfold updI;split
      ·rename_i e1;subst e1;omega
      ·omega
    ·exact ⟨h2.f0,fun i hi=>by have:=h2.f1 i hi;omega⟩
   obtain ⟨a1,a2,a3⟩:=tryL_bd (C:=C) (rec:=plS C u) (K:=K) (lo:=lo-1) (d:=u) (by omega) (fun e l P F st h1 h2=>plS_bd (by omega) h1 h2) (n:=(nxP e l F P C.N).toNat) (e:=e) (l:=l) (P:=P) (cs:=frN C P e l (nxP e l F P C.N).toNat) (show lo-1<=st-1 by omega) hb;exact ⟨a1,by omega,by omega⟩
end Go.Proofs.YtiejdpjgplikjaaGreatDoor.Mo
