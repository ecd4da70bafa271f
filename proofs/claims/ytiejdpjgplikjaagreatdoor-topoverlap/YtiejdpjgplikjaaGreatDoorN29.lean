/- Parts Uk Uf Ul Un. -/
import Derived.Test.YtiejdpjgplikjaaGreatDoorN28
import Derived.Test.YtiejdpjgplikjaaGreatDoorN27
import Derived.Laws.AppendOwn
import Derived.Test.YtiejdpjgplikjaaGreatDoorN00
set_option maxRecDepth 20000
set_option maxHeartbeats 16000000
namespace Go.Proofs.YtiejdpjgplikjaaGreatDoor.Mo
open Go.ChangeShapes Go.WideShapes Go.ChangeAt Go.RowKit Go.Great
open YtiejdpjgplikjaaGreatDoor.Op YtiejdpjgplikjaaGreatDoor.So YtiejdpjgplikjaaGreatDoor.Dp YtiejdpjgplikjaaGreatDoor.Bn
theorem Lw.base {w W w2:World} {b:Nat} {r:Nat->Nat} {N K:Nat} {F:Mat} (h:Lw W w2 b r N K F) (g:Below w.heap.size w W):Lw w w2 b r N K F:=
 ⟨Nat.le_trans g.size h.wb,h.lt,h.row,h.rest,h.bf,h.c,h.f,h.rb,h.rl,h.inj,g.trans (h.up.mono g.size)⟩
def NsOut (w:World) (bb N:Nat) (E:Int) (F:Mat) (e:Ending) (w':World):Prop:=∃ sb b r fb,e=.returned (.pointer (some ⟨sb,0,none⟩))/\At w' sb #[.pointer (some ⟨bb,0,none⟩),.int .i64 E,.slice (some ⟨b,0,none⟩) N N,.slice none 0 0,.map none,.slice (some ⟨fb,0,none⟩) N N,.int .i64 0]/\Lw w w' b r N N F/\Ir w' fb N (fun _=>0)/\w.heap.size<=sb/\w.heap.size<=fb/\b<sb/\fb<sb/\fb≠b/\∀ i,i<N->r i≠fb/\r i<sb
theorem newSearch_any (bb N M cap ec:Nat) (ao ea:Option Addr) (E:Int) (F:Mat) (w:World) (h0:w.cell? ⟨bb,0,none⟩=some (.slice ao N cap)) (h14:w.cell? ⟨bb,14,none⟩=some (.slice ea M ec)) (hb:bb<w.heap.size) (hN:N<=64) (hlw:∀ W,Below w.heap.size w W->Calls Tryz.prog 128 #[.int .i64 (N:Int),.slice ea M ec,.int .i64 E] W (LwOut W N F)) :
  Calls Tryz.prog 90 #[.pointer (some ⟨bb,0,none⟩),.int .i64 E] w (NsOut w bb N E F):=by
 have HLw:Hid (∀ W,Below w.heap.size w W->Calls Tryz.prog 128 #[.int .i64 (N:Int),.slice ea M ec,.int .i64 E] W (LwOut W N F)):=hlw;have HSt:Hid (∀ W,Below w.heap.size w W->W.cell? ⟨bb,0,none⟩=some (.slice ao N cap)/\W.cell? ⟨bb,14,none⟩=some (.slice ea M ec)/\bb<W.heap.size):=fun W g=>⟨by rw [(bcell g).1 _ _ hb];exact h0,by rw [(bcell g).1 _ _ hb];exact h14,Nat.lt_of_lt_of_le hb g.size⟩;obtain ⟨i0,hi,hi2⟩:=Option.map_eq_some_iff.1 info3;simp only [Prod.mk.injEq] at hi2;obtain ⟨hz0,hz1,hz2⟩:=hi2;have hN':(N:Int)<=64:=by omega
 have hmk:∀ Z:World,(Instr.makeSlice 27 (.int .i64 (N:Int)) (.int .i64 (N:Int))).run Tryz.prog Z=.ok (.slice (some ⟨Z.heap.size,0,none⟩) N N) (Z.alloc (.cells (madeCells #[.int .i64 0] N) 3)):=fun Z=>run_make_row 27 3 i0 (.int .i64 0) Tryz.underlying27 hi hz0 hz1 rfl .i64 .i64 N (by rw [hz2];omega) (by omega) Z;clear hi hz0 hz1 hz2 hlw;unfold NsOut;go_enter Tryz.func90,Tryz.ntmps90;go_upto_region 1 with fail
 refine wp_region_held_drew (S:=fun W=>W.cell? ⟨bb,0,none⟩=some (.slice ao N cap)/\W.cell? ⟨bb,14,none⟩=some (.slice ea M ec)/\bb<W.heap.size) (by kernel_rfl) ⟨h0,h14,hb⟩ (fun zH=>?_);refine wg 0 (.pointer (some ⟨bb,0,none⟩)) rfl zH ?_;simp only [pq];refine wg 1 (.int .i64 E) rfl zH ?_;simp only [pq];refine wg 2 (.pointer (some ⟨bb,0,none⟩)) rfl zH ?_;simp only [pq];refine wg 3 (.pointer (some ⟨bb,0,none⟩)) rfl zH ?_;simp only [pq];refine wg 4 (.pointer (some ⟨bb,0,none⟩)) rfl zH ?_;simp only [pq];refine wt 5 (.slice ao N cap) rfl (fun w' hSw=>by (have y:=hSw.1;have yl:=hSw.2.2;go_simp)) zH ?_;simp only [pq];refine wg 6 (.int .i64 (N:Int)) rfl zH ?_;simp only [pq];refine wg 7 (.pointer (some ⟨bb,0,none⟩)) rfl zH ?_;simp only [pq];refine wg 8 (.pointer (some ⟨bb,0,none⟩)) rfl zH ?_;simp only [pq];refine wg 9 (.pointer (some ⟨bb,14,none⟩)) rfl zH ?_;simp only [pq];refine wt 10 (.slice ea M ec) rfl (fun w' hSw=>by (have y:=hSw.2.1;have yl:=hSw.2.2;go_simp)) zH ?_;simp only [pq];refine wg 11 (.int .i64 E) rfl zH ?_;simp only [pq];refine wg 13 (.pointer (some ⟨bb,0,none⟩)) rfl zH ?_;simp only [pq];refine wg 14 (.pointer (some ⟨bb,0,none⟩)) rfl zH ?_;simp only [pq];refine wg 15 (.pointer (some ⟨bb,0,none⟩)) rfl zH ?_;simp only [pq];refine wt 16 (.slice ao N cap) rfl (fun w' hSw=>by (have y:=hSw.1;have yl:=hSw.2.2;go_simp)) zH ?_;simp only [pq];refine wg 17 (.int .i64 (N:Int)) rfl zH ?_;simp only [pq];refine wpAnyH_ready (rs:=[12,18]) (by kernel_rfl) (by simp) ?_;refine AllReadyH.cons rfl (fun K hK=>?_) (AllReadyH.cons rfl (fun K hK=>?_) AllReadyH.nil)
 ·go_simp
  refine Calls.mono (HLw.out _ (drew_up _)) ?_;rintro e w2 ⟨b,r,rfl,hl⟩;have HA:Hid (Lw w w2 b r N N F):=hl.base (drew_up _);clear hl;refine hK.out _ _ (HSt.out _ HA.out.up) (fun zH=>?_);clear hK K;refine wpAnyH_ready (rs:=[18]) (by kernel_rfl) (by simp) ?_;refine AllReadyH.cons rfl (fun K hK=>?_) AllReadyH.nil;go_simp
  have HB:Hid (Lw w (w2.alloc (.cells (madeCells #[.int .i64 0] N) 3)) b r N N F/\Ir (w2.alloc (.cells (madeCells #[.int .i64 0] N) 3)) w2.heap.size N (fun _=>0)):=⟨HA.out.next ((Below.refl _ _).alloc (Nat.le_refl _) _),Ir.new w2 N 3⟩;have HN:Hid (b<w2.heap.size/\(∀ i,i<N->r i<w2.heap.size)/\w.heap.size<=w2.heap.size):=⟨HA.out.lt,HA.out.rl,HA.out.up.size⟩;refine hK.out _ _ (HSt.out _ HB.out.1.up) (fun zH=>?_);clear hK K;refine wg 19 (.agg #[.pointer (some ⟨bb,0,none⟩),.int .i64 E,.slice (some ⟨b,0,none⟩) N N,.slice none 0 0,.map none,.slice (some ⟨w2.heap.size,0,none⟩) N N,.int .i64 0]) rfl zH ?_;simp only [pq];refine wpAnyH_ready (rs:=[20]) (by kernel_rfl) (by simp) ?_;refine AllReadyH.cons rfl (fun K hK=>?_) AllReadyH.nil;go_simp
  have HC:Hid (At ((w2.alloc (.cells (madeCells #[.int .i64 0] N) 3)).alloc (.cells #[.pointer (some ⟨bb,0,none⟩),.int .i64 E,.slice (some ⟨b,0,none⟩) N N,.slice none 0 0,.map none,.slice (some ⟨w2.heap.size,0,none⟩) N N,.int .i64 0] 182)) (w2.heap.size+1) #[.pointer (some ⟨bb,0,none⟩),.int .i64 E,.slice (some ⟨b,0,none⟩) N N,.slice none 0 0,.map none,.slice (some ⟨w2.heap.size,0,none⟩) N N,.int .i64 0]/\Lw w ((w2.alloc (.cells (madeCells #[.int .i64 0] N) 3)).alloc (.cells #[.pointer (some ⟨bb,0,none⟩),.int .i64 E,.slice (some ⟨b,0,none⟩) N N,.slice none 0 0,.map none,.slice (some ⟨w2.heap.size,0,none⟩) N N,.int .i64 0] 182)) b r N N F/\Ir ((w2.alloc (.cells (madeCells #[.int .i64 0] N) 3)).alloc (.cells #[.pointer (some ⟨bb,0,none⟩),.int .i64 E,.slice (some ⟨b,0,none⟩) N N,.slice none 0 0,.map none,.slice (some ⟨w2.heap.size,0,none⟩) N N,.int .i64 0] 182)) (w2.heap.size) N (fun _=>0)):=⟨by have h:=At.new (w2.alloc (.cells (madeCells #[.int .i64 0] N) 3)) #[.pointer (some ⟨bb,0,none⟩),.int .i64 E,.slice (some ⟨b,0,none⟩) N N,.slice none 0 0,.map none,.slice (some ⟨w2.heap.size,0,none⟩) N N,.int .i64 0] 182;rw [World.size_alloc] at h;exact h,HB.out.1.next ((Below.refl _ _).alloc (Nat.le_refl _) _),HB.out.2.up ((Below.refl _ _).alloc (Nat.le_refl _) _)⟩;refine hK.out _ _ (HSt.out _ HC.out.2.1.up) (fun zH=>?_);clear hK K;refine wg 21 (.pointer (some ⟨w2.heap.size+1,0,none⟩)) rfl zH ?_;simp only [pq];refine wpAnyH_done (by kernel_rfl) ?_ _;clear zH;go_wp2_with fail
  go_ret
  exact ⟨w2.heap.size+1,b,r,w2.heap.size,rfl,HC.out.1,HC.out.2.1,HC.out.2.2,by have:=HN.out.2.2;omega,HN.out.2.2,by have:=HN.out.1;omega,by omega,by have:=HN.out.1;omega,fun i hi=>⟨by have:=HN.out.2.1 i hi;omega,by have:=HN.out.2.1 i hi;omega⟩⟩
 ·go_simp
  have g0:Below w.heap.size w (w.drew.alloc (.cells (madeCells #[.int .i64 0] N) 3)):=(drew_up w).alloc (Nat.le_refl _) _;refine hK.out _ _ (HSt.out _ g0) (fun zH=>?_);clear hK K;refine wpAnyH_ready (rs:=[12]) (by kernel_rfl) (by simp) ?_;refine AllReadyH.cons rfl (fun K hK=>?_) AllReadyH.nil;go_simp
  refine Calls.mono (HLw.out _ g0) ?_;rintro e w2 ⟨b,r,rfl,hl⟩;have HB:Hid (Lw w w2 b r N N F/\Ir w2 w.heap.size N (fun _=>0)):=⟨hl.base g0,(Ir.new w.drew N 3).up hl.up⟩;have HN:Hid (w.heap.size<b/\b<w2.heap.size/\(∀ i,i<N->b<r i/\r i<w2.heap.size)/\w.heap.size<=w2.heap.size):=⟨by have h:(w.alloc (.cells (madeCells #[.int .i64 0] N) 3)).heap.size<=b:=hl.wb;rw [World.size_alloc] at h;exact h,hl.lt,fun i hi=>⟨hl.rb i hi,hl.rl i hi⟩,HB.out.1.up.size⟩;clear hl g0;refine hK.out _ _ (HSt.out _ HB.out.1.up) (fun zH=>?_);clear hK K;refine wg 19 (.agg #[.pointer (some ⟨bb,0,none⟩),.int .i64 E,.slice (some ⟨b,0,none⟩) N N,.slice none 0 0,.map none,.slice (some ⟨w.heap.size,0,none⟩) N N,.int .i64 0]) rfl zH ?_;simp only [pq];refine wpAnyH_ready (rs:=[20]) (by kernel_rfl) (by simp) ?_;refine AllReadyH.cons rfl (fun K hK=>?_) AllReadyH.nil;go_simp
  have HC:Hid (At (w2.alloc (.cells #[.pointer (some ⟨bb,0,none⟩),.int .i64 E,.slice (some ⟨b,0,none⟩) N N,.slice none 0 0,.map none,.slice (some ⟨w.heap.size,0,none⟩) N N,.int .i64 0] 182)) (w2.heap.size) #[.pointer (some ⟨bb,0,none⟩),.int .i64 E,.slice (some ⟨b,0,none⟩) N N,.slice none 0 0,.map none,.slice (some ⟨w.heap.size,0,none⟩) N N,.int .i64 0]/\Lw w (w2.alloc (.cells #[.pointer (some ⟨bb,0,none⟩),.int .i64 E,.slice (some ⟨b,0,none⟩) N N,.slice none 0 0,.map none,.slice (some ⟨w.heap.size,0,none⟩) N N,.int .i64 0] 182)) b r N N F/\Ir (w2.alloc (.cells #[.pointer (some ⟨bb,0,none⟩),.int .i64 E,.slice (some ⟨b,0,none⟩) N N,.slice none 0 0,.map none,.slice (some ⟨w.heap.size,0,none⟩) N N,.int .i64 0] 182)) (w.heap.size) N (fun _=>0)):=⟨At.new _ _ _,HB.out.1.next ((Below.refl _ _).alloc (Nat.le_refl _) _),HB.out.2.up ((Below.refl _ _).alloc (Nat.le_refl _) _)⟩;refine hK.out _ _ (HSt.out _ HC.out.2.1.up) (fun zH=>?_);clear hK K;refine wg 21 (.pointer (some ⟨w2.heap.size,0,none⟩)) rfl zH ?_;simp only [pq];refine wpAnyH_done (by kernel_rfl) ?_ _;clear zH;go_wp2_with fail
  go_ret
  exact ⟨w2.heap.size,b,r,w.heap.size,rfl,HC.out.1,HC.out.2.1,HC.out.2.2,HN.out.2.2.2,Nat.le_refl _,HN.out.2.1,by have:=HN.out.1;have:=HN.out.2.1;omega,by have:=HN.out.1;omega,fun i hi=>⟨by have:=HN.out.2.2.1 i hi;have:=HN.out.1;omega,(HN.out.2.2.1 i hi).2⟩⟩
end Go.Proofs.YtiejdpjgplikjaaGreatDoor.Mo
namespace Go.Proofs.YtiejdpjgplikjaaGreatDoor.Mo
open Go.ChangeShapes Go.WideShapes Go.ChangeAt Go.RowKit Go.Great Go.Maps
open YtiejdpjgplikjaaGreatDoor.Op YtiejdpjgplikjaaGreatDoor.So YtiejdpjgplikjaaGreatDoor.Dp YtiejdpjgplikjaaGreatDoor.Bn
open YtiejdpjgplikjaaGreatDoor.Ls (Nl)
open YtiejdpjgplikjaaGreatDoor.Rv (I64)
def ucF (hl:Int->Int->Nat) (cl fr E:Int) (k:Nat):Nat->Int:=fun j=>if j<k then (hl cl ((fr+E+(j:Nat))%E):Nat) else 0
theorem ucF_next (hl:Int->Int->Nat) (cl fr E:Int) (k:Nat):updI (ucF hl cl fr E k) k (hl cl ((fr+E+(k:Nat))%E):Nat)=ucF hl cl fr E (k+1):=by
 funext j
 unfold updI ucF
 by_cases e:j=k
 ·subst e;rw [if_pos rfl,if_pos (by omega)]
 ·rw [if_neg e]
  by_cases d:j<k
  ·rw [if_pos d,if_pos (by omega)]
  ·rw [if_neg d,if_neg (by omega)]
theorem used_any (sb bb N mb n c:Nat) (cl fr E st:Int) (ba pa fa:Option Addr) (bc pc fc:Nat) (f:Int->Int->Value) (hl:Int->Int->Nat) (w:World) (hS:At w sb #[.pointer (some ⟨bb,0,none⟩),.int .i64 E,.slice ba N bc,.slice pa N pc,.map (some mb),.slice fa N fc,.int .i64 st]) (hM:Hm w mb n f) (hf:∀ a b,∃ x y,f a b=.slice x (hl a b) y) (hll:∀ a b,hl a b<=1000000) (hc:c<=100000) (hcl:I64 cl) (hfr : -1<=fr) (hfr2:fr<=10000000) (hE:1<=E) (hE2:E<=65536) :
  Calls Tryz.prog 170 #[.pointer (some ⟨sb,0,none⟩),.int .i64 cl,.int .i64 fr,.int .i64 (c:Int)] w fun r w'=>r=.returned (.slice (some ⟨w.heap.size,0,none⟩) c c)/\Ir w' w.heap.size c (ucF hl cl fr E c)/\Below w.heap.size w w':=by
 have HF:Hid (∀ a b,∃ x y,f a b=.slice x (hl a b) y):=hf;have HLl:Hid (∀ a b,hl a b<=1000000):=hll;have HPo:Hid (∀ W x,At W sb #[.pointer (some ⟨bb,0,none⟩),.int .i64 E,.slice ba N bc,.slice pa N pc,.map (some mb),.slice fa N fc,.int .i64 st]->0<=x->Calls Tryz.prog 173 #[.pointer (some ⟨sb,0,none⟩),.int .i64 cl,.int .i64 x] W fun r w'=>r=.returned (.agg #[.int .i64 cl,.int .i64 (x%E)])/\Below W.heap.size W w'):=fun W x hA hx=>placeOf_any sb cl x E W (hA.c 1 _ rfl) hA.lt hx hE hE2;have HCl:Hid (I64 cl):=hcl;obtain ⟨i0,hi,hi2⟩:=Option.map_eq_some_iff.1 info3;simp only [Prod.mk.injEq] at hi2;obtain ⟨hz0,hz1,hz2⟩:=hi2;have HI:Hid (Tryz.prog.info? 3=some i0/\i0.zero=some (.int .i64 0)/\i0.size=1/\i0.bytes=8):=⟨hi,hz0,hz1,hz2⟩;have hc':(c:Int)<=100000:=by omega
 have nsb:¬ sb=w.heap.size:=Nat.ne_of_lt hS.lt;have nmb:¬ mb=w.heap.size:=Nat.ne_of_lt hM.lt;have b0:Below w.heap.size w (w.alloc (.cells (madeCells #[.int .i64 0] c) 3)):=(Below.refl _ _).alloc (Nat.le_refl _) _;have HQ0:Hid (At (w.alloc (.cells (madeCells #[.int .i64 0] c) 3)) sb #[.pointer (some ⟨bb,0,none⟩),.int .i64 E,.slice ba N bc,.slice pa N pc,.map (some mb),.slice fa N fc,.int .i64 st]/\Hm (w.alloc (.cells (madeCells #[.int .i64 0] c) 3)) mb n f/\Ir (w.alloc (.cells (madeCells #[.int .i64 0] c) 3)) w.heap.size c (ucF hl cl fr E 0)/\Below w.heap.size w (w.alloc (.cells (madeCells #[.int .i64 0] c) 3))):=⟨hS.below b0 hS.lt,hM.below (b0.block _ hM.lt),(Ir.new w c 3).same fun i hi=>by unfold ucF;rw [if_neg (by omega)],b0⟩;clear hi hz0 hz1 hz2 hf hll hcl hS hM b0;go_enter Tryz.func170,Tryz.ntmps170;go_upto_region 2 with (first
  | (at_make;refine wpList_make_row _ rfl _ _ 27 rfl 3 i0 (.int .i64 0) Tryz.underlying27 HI.out.1 HI.out.2.1 HI.out.2.2.1 rfl .i64 .i64 c rfl rfl (by rw [HI.out.2.2.2];omega) (by omega) ?_))
 generalize w.alloc (.cells (madeCells #[.int .i64 0] c) 3)=W0 at *;go_wp2_with fail
 go_loopw [15] (fun v wr=>∃ k:Nat,k<=c/\v=.int .i64 k/\At wr sb #[.pointer (some ⟨bb,0,none⟩),.int .i64 E,.slice ba N bc,.slice pa N pc,.map (some mb),.slice fa N fc,.int .i64 st]/\Hm wr mb n f/\Ir wr w.heap.size c (ucF hl cl fr E k)/\Below w.heap.size w wr) (fun v _=>c-(intOf v).toNat)
 case atStart=>exact ⟨0,by omega,rfl,HQ0.out⟩
 case round=>
  rename World=>wr;obtain ⟨k,hk,rfl,hq⟩:=hrel;have HQ:Hid (At wr sb #[.pointer (some ⟨bb,0,none⟩),.int .i64 E,.slice ba N bc,.slice pa N pc,.map (some mb),.slice fa N fc,.int .i64 st]/\Hm wr mb n f/\Ir wr w.heap.size c (ucF hl cl fr E k)/\Below w.heap.size w wr):=hq;clear hq HQ0
  by_cases hlt:k<c
  ·have k0:(0:Int)<=(k:Int):=by omega
   have k1:(k:Int)<(c:Int):=by omega
   have HUx:Hid (updI (ucF hl cl fr E k) k (hl cl ((fr+E+(k:Nat))%E):Nat)=ucF hl cl fr E (k+1)):=ucF_next hl cl fr E k;have HP:Hid (∀ W,At W sb #[.pointer (some ⟨bb,0,none⟩),.int .i64 E,.slice ba N bc,.slice pa N pc,.map (some mb),.slice fa N fc,.int .i64 st]->Calls Tryz.prog 173 #[.pointer (some ⟨sb,0,none⟩),.int .i64 cl,.int .i64 (fr+E+(k:Int))] W fun r w'=>r=.returned (.agg #[.int .i64 cl,.int .i64 ((fr+E+(k:Int))%E)])/\Below W.heap.size W w'):=fun W hA=>HPo.out W _ hA (by omega);have HZi:Hid (I64 ((fr+E+(k:Int))%E)):=by
    have m0:=Int.emod_nonneg (fr+E+(k:Int)) (show E≠0 by omega);have m1:=Int.emod_lt_of_pos (fr+E+(k:Int)) (show 0<E by omega);show I64 _;unfold I64;omega
   generalize (fr+E+(k:Int))%E=z at *;obtain ⟨x,xc,hfv⟩:=HF.out cl z;have hlb:=HLl.out cl z;have hw1:IntKind.i64.wrap (fr+E)=fr+E:=by rw [IntKind.wrap_i64];omega
   have hw2:IntKind.i64.wrap (fr+E+(k:Int))=fr+E+(k:Int):=by rw [IntKind.wrap_i64];omega
   clear HPo;go_upto_region 5 with fail
   refine wp_region_held_drew (S:=fun W=>At W sb #[.pointer (some ⟨bb,0,none⟩),.int .i64 E,.slice ba N bc,.slice pa N pc,.map (some mb),.slice fa N fc,.int .i64 st]/\Hm W mb n f) (by kernel_rfl) ⟨HQ.out.1.below (drew_up _) HQ.out.1.lt,HQ.out.2.1.below rfl⟩ (fun zH=>?_);refine wg 0 (.slice (some ⟨w.heap.size,0,none⟩) c c) rfl zH ?_;simp only [pq];refine wg 1 (.int .i64 (k:Int)) rfl zH ?_;simp only [pq];refine wg 2 (.pointer (some ⟨sb,0,none⟩)) rfl zH ?_;simp only [pq];refine wg 3 (.pointer (some ⟨sb,0,none⟩)) rfl zH ?_;simp only [pq];refine wg 4 (.pointer (some ⟨sb,4,none⟩)) rfl zH ?_;simp only [pq];refine wt 5 (.map (some mb)) rfl (fun w' hSw=>by (have y:=hSw.1.c 4 _ rfl;have yl:=hSw.1.lt;go_simp)) zH ?_;simp only [pq];refine wg 6 (.pointer (some ⟨sb,0,none⟩)) rfl zH ?_;simp only [pq];refine wg 7 (.int .i64 cl) rfl zH ?_;simp only [pq];refine wg 8 (.int .i64 fr) rfl zH ?_;simp only [pq];refine wg 9 (.pointer (some ⟨sb,0,none⟩)) rfl zH ?_;simp only [pq];refine wg 10 (.pointer (some ⟨sb,0,none⟩)) rfl zH ?_;simp only [pq];refine wg 11 (.pointer (some ⟨sb,1,none⟩)) rfl zH ?_;simp only [pq];refine wt 12 (.int .i64 E) rfl (fun w' hSw=>by (have y:=hSw.1.c 1 _ rfl;have yl:=hSw.1.lt;go_simp)) zH ?_;simp only [pq];refine wg 13 (.int .i64 (fr+E)) rfl zH ?_;simp only [pq];refine wg 14 (.int .i64 (k:Int)) rfl zH ?_;simp only [pq];refine wg 15 (.int .i64 (fr+E+(k:Int))) rfl zH ?_;simp only [pq];refine wpAnyH_ready (rs:=[16]) (by kernel_rfl) (by simp) ?_;refine AllReadyH.cons rfl (fun K hK=>?_) AllReadyH.nil;go_simp
   refine Calls.mono (HP.out _ (HQ.out.1.below (drew_up _) HQ.out.1.lt)) ?_;rintro e w2 ⟨rfl,b2⟩;have HS2:Hid (At w2 sb #[.pointer (some ⟨bb,0,none⟩),.int .i64 E,.slice ba N bc,.slice pa N pc,.map (some mb),.slice fa N fc,.int .i64 st]/\Hm w2 mb n f/\Ir w2 w.heap.size c (ucF hl cl fr E k)/\Below w.heap.size w w2):=⟨HQ.out.1.below ((drew_up _).trans b2) HQ.out.1.lt,HQ.out.2.1.below (((drew_up _).trans b2).block _ HQ.out.2.1.lt),HQ.out.2.2.1.up ((drew_up _).trans b2),HQ.out.2.2.2.trans (((drew_up _).trans b2).mono HQ.out.2.2.2.size)⟩;clear b2;refine hK.out _ _ ⟨HS2.out.1,HS2.out.2.1⟩ (fun zH=>?_);clear hK K;refine wt 17 (.slice x (hl cl z) xc) rfl (fun w' hSw=>by (have y:=hSw.2.look HCl.out HZi.out;rw [hfv] at y;go_simp)) zH ?_;simp only [pq];refine wg 18 (.int .i64 (hl cl z:Nat)) rfl zH ?_;simp only [pq];refine wg 19 (.pointer (some ⟨w.heap.size,k,none⟩)) rfl zH ?_;simp only [pq];refine wpAnyH_ready (rs:=[20]) (by kernel_rfl) (by simp) ?_;refine AllReadyH.cons rfl (fun K hK=>?_) AllReadyH.nil;have ck:=HS2.out.2.2.1.c k hlt;have cf:=HS2.out.2.2.1.f k;have clt:=HS2.out.2.2.1.lt;go_simp
   have gg:So.Fr (So.One w.heap.size) w2 (w2.setCell ⟨w.heap.size,k,none⟩ (.int .i64 (hl cl z:Nat))):=(So.Fr.refl (So.One w.heap.size) w2).setCell (.inr rfl) _ _;have HS3:Hid (At (w2.setCell ⟨w.heap.size,k,none⟩ (.int .i64 (hl cl z:Nat))) sb #[.pointer (some ⟨bb,0,none⟩),.int .i64 E,.slice ba N bc,.slice pa N pc,.map (some mb),.slice fa N fc,.int .i64 st]/\Hm (w2.setCell ⟨w.heap.size,k,none⟩ (.int .i64 (hl cl z:Nat))) mb n f/\Ir (w2.setCell ⟨w.heap.size,k,none⟩ (.int .i64 (hl cl z:Nat))) w.heap.size c (ucF hl cl fr E (k+1))/\Below w.heap.size w (w2.setCell ⟨w.heap.size,k,none⟩ (.int .i64 (hl cl z:Nat)))):=⟨⟨fun j v e=>by rw [gg.cell HS2.out.1.lt (fun e=>nsb e)];exact HS2.out.1.c j v e,fun j=>by rw [gg.frozen HS2.out.1.lt (fun e=>nsb e)];exact HS2.out.1.f j,Nat.lt_of_lt_of_le HS2.out.1.lt gg.size⟩,HS2.out.2.1.below (gg.block _ HS2.out.2.1.lt (fun e=>nmb e)),by
    have:=HS2.out.2.2.1.set hlt (hl cl z:Nat)
    rwa [HUx.out] at this,HS2.out.2.2.2.trans (gg.below HS2.out.2.2.2.size fun j hj e=>by have e:j=w.heap.size:=e;omega)⟩
   refine hK.out _ _ ⟨HS3.out.1,HS3.out.2.1⟩ (fun zH=>?_);clear hK K;refine wpAnyH_done (by kernel_rfl) ?_ _;clear zH;go_wp2_with fail
   go_roundw
   case rel=>exact ⟨k+1,by omega,by go_num,HS3.out⟩
   case measure=>simp [intOf];omega
  ·obtain rfl:k=c:=by omega
   have k1:¬ (k:Int)<(k:Int):=by omega
   go_wp2_with fail
   go_ret
   exact ⟨rfl,HQ.out.2.2.1,HQ.out.2.2.2⟩
end Go.Proofs.YtiejdpjgplikjaaGreatDoor.Mo
namespace Go.Proofs.YtiejdpjgplikjaaGreatDoor.Mo
open Go.ChangeShapes Go.WideShapes Go.ChangeAt Go.RowKit Go.Great Go.Maps
open YtiejdpjgplikjaaGreatDoor.Op YtiejdpjgplikjaaGreatDoor.So YtiejdpjgplikjaaGreatDoor.Dp YtiejdpjgplikjaaGreatDoor.Bn
open YtiejdpjgplikjaaGreatDoor.Rv (I64)
def setL (hl:Int->Int->Nat) (a b:Int) (m:Nat):Int->Int->Nat:=fun c d=>if c=a/\d=b then m else hl c d
structure Hd (W:World) (B mb n:Nat) (f:Int->Int->Value) (hl:Int->Int->Nat):Prop where
 m:Hm W mb n f
 row:∀ a b,∃ xs,W.ownsRow B 3 1 (f a b) (hl a b) xs
 inj:∀ a b c d,(f a b).ownBlock≠none->(f a b).ownBlock=(f c d).ownBlock->a=c/\b=d
 lt:mb<B
theorem Hd.made (w:World) {B:Nat} (hB:w.heap.size<B):Hd (w.alloc (.map #[] 0)) B w.heap.size 0 (fun _ _=>.slice none 0 0) (fun _ _=>0):=
 ⟨Hm.made w,fun _ _=>⟨[],World.ownsRow_nil _ _ _ _⟩,fun _ _ _ _ h=>absurd rfl h,hB⟩
theorem Hd.sl {W:World} {B mb n:Nat} {f:Int->Int->Value} {hl:Int->Int->Nat} (h:Hd W B mb n f hl) (a b:Int):∃ x y,f a b=.slice x (hl a b) y:=by
 obtain ⟨xs,-,⟨h1,h2⟩|⟨g,cap,cur,h1,-⟩⟩:=h.row a b
 ·exact ⟨none,0,by rw [h1,h2]⟩
 ·exact ⟨_,_,h1⟩
theorem Hd.at {W:World} {B mb n:Nat} {f:Int->Int->Value} {hl:Int->Int->Nat} (h:Hd W B mb n f hl) {a b:Int} (h0:0<hl a b):∃ g cap,f a b=.slice (some ⟨g,0,none⟩) (hl a b) cap/\hl a b<=cap/\B<=g/\g<W.heap.size:=by
 obtain ⟨xs,hx⟩:=h.row a b;have hlt:=hx.lt;obtain ⟨-,⟨h1,h2⟩|⟨g,cap,cur,h1,h2,h3,h4,-⟩⟩:=hx
 ·omega
 ·exact ⟨g,cap,h1,h4,(hlt g (by rw [h1];rfl)).1,(hlt g (by rw [h1];rfl)).2⟩
theorem Hd.put {W W2:World} {B mb n n2:Nat} {f:Int->Int->Value} {hl:Int->Int->Nat} (h:Hd W B mb n f hl) {a b:Int} {v:Value} {m:Nat} (hm:Hm W2 mb n2 (setF f a b v)) (ho:∀ c d,¬ (c=a/\d=b)->∃ xs,W2.ownsRow B 3 1 (f c d) (hl c d) xs) (hv:∃ xs,W2.ownsRow B 3 1 v m xs)
  (hi:v.ownBlock=(f a b).ownBlock\/∀ c d,v.ownBlock≠(f c d).ownBlock):Hd W2 B mb n2 (setF f a b v) (setL hl a b m):=by
 refine ⟨hm,fun c d=>?_,fun c d c' d'=>?_,h.lt⟩
 ·unfold setF setL
  by_cases e:c=a/\d=b
  ·rw [if_pos e,if_pos e];exact hv
  ·rw [if_neg e,if_neg e];exact ho c d e
 ·unfold setF
  by_cases e:c=a/\d=b
  ·by_cases e2:c'=a/\d'=b
   ·exact fun _ _=>⟨e.1.trans e2.1.symm,e.2.trans e2.2.symm⟩
   ·rw [if_pos e,if_neg e2];intro h1 h2;rcases hi with hi|hi
    ·rw [hi] at h1 h2;obtain ⟨rfl,rfl⟩:=e;exact h.inj _ _ _ _ h1 h2
    ·exact absurd h2 (hi c' d')
  ·by_cases e2:c'=a/\d'=b
   ·rw [if_neg e,if_pos e2];intro h1 h2;rcases hi with hi|hi
    ·rw [hi] at h2;obtain ⟨rfl,rfl⟩:=e2;exact h.inj _ _ _ _ h1 h2
    ·exact absurd h2.symm (hi c d)
   ·rw [if_neg e,if_neg e2];exact h.inj _ _ _ _
theorem row_short {W:World} {B g m cap:Nat} {xs:List Value} (h:W.ownsRow B 3 1 (.slice (some ⟨g,0,none⟩) (m+1) cap) (m+1) xs):∃ ys,W.ownsRow B 3 1 (.slice (some ⟨g,0,none⟩) m cap) m ys:=by
 obtain ⟨h1,⟨h2,h3⟩|⟨g2,cap2,cur,h2,h3,h4,h5,h6,h7,h8⟩⟩:=h
 ·omega
 ·injection h2 with h2 _ h9
  injection h2 with h2
  injection h2 with h2
  subst h2 h9;refine ⟨cur.toList.take (m*1),?_,.inr ⟨g,cap,cur,rfl,h3,h4,by omega,h6,h7,rfl⟩⟩;rw [List.length_take,Array.length_toList,h7];omega
theorem row_far {W W2:World} {B mb m:Nat} {v:Value} {xs:List Value} (h:W.ownsRow B 3 1 v m xs) (g:So.Fr (So.One mb) W W2) (hB:mb<B):W2.ownsRow B 3 1 v m xs:=by
 have hlt:=h.lt;obtain ⟨h1,⟨h2,h3⟩|⟨q,cap,cur,h2,h3,h4,h5⟩⟩:=h
 ·exact ⟨h1,.inl ⟨h2,h3⟩⟩
 ·have hq:=hlt q (by rw [h2];rfl);exact ⟨h1,.inr ⟨q,cap,cur,h2,h3,(g.block q hq.2 fun e=>by have e:q=mb:=e;omega).trans h4,h5⟩⟩
theorem Hd.short {W W2:World} {B mb n n2:Nat} {f:Int->Int->Value} {hl:Int->Int->Nat} (h:Hd W B mb n f hl) {a b:Int} {g cap m:Nat} (hf:f a b=.slice (some ⟨g,0,none⟩) (m+1) cap) (hlm:hl a b=m+1) (fr:So.Fr (So.One mb) W W2) (hm:Hm W2 mb n2 (setF f a b (.slice (some ⟨g,0,none⟩) m cap))):Hd W2 B mb n2 (setF f a b (.slice (some ⟨g,0,none⟩) m cap)) (setL hl a b m):=by
 refine h.put hm (fun c d _=>?_) ?_ (.inl (by rw [hf];rfl))
 ·obtain ⟨xs,hx⟩:=h.row c d;exact ⟨xs,row_far hx fr h.lt⟩
 ·obtain ⟨xs,hx⟩:=h.row a b;rw [hf,hlm] at hx;exact row_short (row_far hx fr h.lt)
def cntL (cl c E:Int):Nat->Int->Int->Nat
 | 0,_,_=>0
 | k+1,a,b=>cntL cl c E k a b+(if a=cl/\b=(c+(k:Nat))%E then 1 else 0)
theorem cntL_set (cl c E:Int) (k:Nat) (hl:Int->Int->Nat):setL (fun a b=>hl a b+cntL cl c E k a b) cl ((c+(k:Nat))%E) (hl cl ((c+(k:Nat))%E)+cntL cl c E k cl ((c+(k:Nat))%E)+1)=fun a b=>hl a b+cntL cl c E (k+1) a b:=by
 funext a b
 unfold setL
 by_cases e:a=cl/\b=(c+(k:Nat))%E
 ·obtain ⟨rfl,rfl⟩:=e;rw [if_pos ⟨rfl,rfl⟩];show _=_+(_+if _ then 1 else 0);rw [if_pos ⟨rfl,rfl⟩];omega
 ·rw [if_neg e];show hl a b+cntL cl c E k a b=hl a b+(cntL cl c E k a b+if a=cl/\b=(c+(k:Nat))%E then 1 else 0);rw [if_neg e];omega
end Go.Proofs.YtiejdpjgplikjaaGreatDoor.Mo
namespace Go.Proofs.YtiejdpjgplikjaaGreatDoor.Mo
open Go.ChangeShapes Go.WideShapes Go.ChangeAt Go.RowKit Go.Great Go.Maps
open YtiejdpjgplikjaaGreatDoor.Op YtiejdpjgplikjaaGreatDoor.So YtiejdpjgplikjaaGreatDoor.Dp YtiejdpjgplikjaaGreatDoor.Bn
open YtiejdpjgplikjaaGreatDoor.Rv (I64)
open YtiejdpjgplikjaaGreatDoor.Ls (clN clN_at)
theorem atFr2 {X:Nat->Prop} {W W':World} {b:Nat} {cs:Array Value} (h:At W b cs) (g:So.Fr X W W') (hx:¬ X b):At W' b cs:=
 ⟨fun j v e=>(g.cell h.lt hx j).trans (h.c j v e),fun j=>(g.frozen h.lt hx j).trans (h.f j),Nat.lt_of_lt_of_le h.lt g.size⟩
theorem Hd.fr {W W':World} {B mb n:Nat} {f:Int->Int->Value} {hl:Int->Int->Nat} (h:Hd W B mb n f hl) (g:Below W.heap.size W W'):Hd W' B mb n f hl:=
 ⟨h.m.below (g.block _ h.m.lt),fun a b=>by
  obtain ⟨xs,hx⟩:=h.row a b;have hlt:=hx.lt;obtain ⟨h1,⟨h2,h3⟩|⟨q,cap,cur,h2,h3,h4,h5⟩⟩:=hx
  ·exact ⟨xs,h1,.inl ⟨h2,h3⟩⟩
  ·exact ⟨xs,h1,.inr ⟨q,cap,cur,h2,h3,(g.block q (hlt q (by rw [h2];rfl)).2).trans h4,h5⟩⟩,h.inj,h.lt⟩
theorem sub_set (cl c E:Int) (k:Nat) (hl:Int->Int->Nat) (m:Nat) (hm:hl cl ((c+(k:Nat))%E)-cntL cl c E k cl ((c+(k:Nat))%E)=m+1):setL (fun a b=>hl a b-cntL cl c E k a b) cl ((c+(k:Nat))%E) m=fun a b=>hl a b-cntL cl c E (k+1) a b:=by
 funext a b
 unfold setL
 by_cases e:a=cl/\b=(c+(k:Nat))%E
 ·obtain ⟨rfl,rfl⟩:=e;rw [if_pos ⟨rfl,rfl⟩];show m=_-(_+if _ then 1 else 0);rw [if_pos ⟨rfl,rfl⟩];omega
 ·rw [if_neg e];show hl a b-cntL cl c E k a b=hl a b-(cntL cl c E k a b+if a=cl/\b=(c+(k:Nat))%E then 1 else 0);rw [if_neg e];omega
theorem cntL_le (cl c E:Int) (a b:Int) {k L:Nat} (h:k<=L):cntL cl c E k a b<=cntL cl c E L a b:=by
 induction L with
 | zero=>
  obtain rfl:k=0:=by omega
  exact Nat.le_refl _
 | succ L ih=>
  by_cases e:k=L+1
  ·subst e;exact Nat.le_refl _
  ·exact Nat.le_trans (ih (by omega)) (Nat.le_add_right _ _)
theorem giveBack_any (sb bb N n mb nn B pb pf cl L cap bc pc fc:Nat) (E st c:Int) (ba fa ao:Option Addr) (xs:List O) (f:Int->Int->Value) (hl:Int->Int->Nat) (w:World) (hS:At w sb #[.pointer (some ⟨bb,0,none⟩),.int .i64 E,.slice ba N bc,.slice (some ⟨pb,pf,none⟩) N pc,.map (some mb),.slice fa N fc,.int .i64 st]) (hO:OpsAt w ao xs) (hxs:xs.length=N) (hn:n<N) (hb0:w.cell? ⟨bb,0,none⟩=some (.slice ao N cap)) (hbz:w.cell? ⟨bb,9+cl,none⟩=some (.int .i64 (L:Int))) (hbb:bb<w.heap.size) (hcl:clN xs n=cl) (hc4:cl<4) (hL:L<=4)
  (hp:w.cell? ⟨pb,pf+n,none⟩=some (.int .i64 c)) (hpf:w.frozen? ⟨pb,pf+n,none⟩=false) (hpl:pb<w.heap.size) (hH:Hd w B mb nn f hl) (hcn:∀ a b,cntL cl c E L a b<=hl a b) (hll:∀ a b,hl a b<=1000000) (hnn:nn<=1000000) (hc0:0<=c) (hc1:c<=10000000) (hE:1<=E) (hE2:E<=65536) (hN:N<=64)
  (n1:mb≠sb) (n2:mb≠bb) (n3:mb≠pb) (n4:∀ x,ao=some x->mb≠x.block) (Y:Nat->Prop) (y1:∀ a b q,(f a b).ownBlock=some q->Y q) :
  Calls Tryz.prog 160 #[.pointer (some ⟨sb,0,none⟩),.int .i64 (n:Int)] w fun r w'=>r=.returned (.tuple #[])/\∃ w2 f2,w'=w2.setCell ⟨pb,pf+n,none⟩ (.int .i64 (-1))/\So.Fr (So.One mb) w w2/\Hd w2 B mb (nn+L) f2 (fun a b=>hl a b-cntL cl c E L a b)/\∀ a b q,(f2 a b).ownBlock=some q->Y q:=by
 have hnx:n<xs.length:=by omega
 obtain ⟨ob,of,rfl,hoz,hox⟩:=hO.is (by omega);obtain ⟨q0,q1,q2,q3,q4⟩:=hox n hnx;have HCl:Hid (∀ Z,Calls Tryz.prog 44 #[xs[n].val] Z fun e w'=>e=.returned (.int .i64 (cl:Int))/\Below Z.heap.size Z w'):=fun Z=>by rw [<- hcl,clN_at hnx];exact classOf_any xs[n] Z
 have n4:=n4 _ rfl;have HSt:Hid (∀ W,So.Fr (So.One mb) w W->At W sb #[.pointer (some ⟨bb,0,none⟩),.int .i64 E,.slice ba N bc,.slice (some ⟨pb,pf,none⟩) N pc,.map (some mb),.slice fa N fc,.int .i64 st]/\W.cell? ⟨bb,0,none⟩=some (.slice (some ⟨ob,of,none⟩) N cap)/\W.cell? ⟨bb,9+cl,none⟩=some (.int .i64 (L:Int))/\W.cell? ⟨pb,pf+n,none⟩=some (.int .i64 c)/\W.frozen? ⟨pb,pf+n,none⟩=false/\bb<W.heap.size/\pb<W.heap.size):=fun W g=>⟨atFr2 hS g (fun e=>n1 (by have e:sb=mb:=e;exact e.symm)),(g.cell hbb (fun e=>n2 (by have e:bb=mb:=e;exact e.symm)) _).trans hb0,(g.cell hbb (fun e=>n2 (by have e:bb=mb:=e;exact e.symm)) _).trans hbz,(g.cell hpl (fun e=>n3 (by have e:pb=mb:=e;exact e.symm)) _).trans hp,(g.frozen hpl (fun e=>n3 (by have e:pb=mb:=e;exact e.symm)) _).trans hpf,Nat.lt_of_lt_of_le hbb g.size,Nat.lt_of_lt_of_le hpl g.size⟩;have HQ0:Hid (Hd w B mb (nn+0) f (fun a b=>hl a b-cntL cl c E 0 a b)):=hH;have HCn:Hid ((∀ a b,cntL cl c E L a b<=hl a b)/\∀ a b,hl a b<=1000000):=⟨hcn,hll⟩;have HPo:Hid (∀ W x,At W sb #[.pointer (some ⟨bb,0,none⟩),.int .i64 E,.slice ba N bc,.slice (some ⟨pb,pf,none⟩) N pc,.map (some mb),.slice fa N fc,.int .i64 st]->0<=x->Calls Tryz.prog 173 #[.pointer (some ⟨sb,0,none⟩),.int .i64 (cl:Int),.int .i64 x] W fun r w'=>r=.returned (.agg #[.int .i64 (cl:Int),.int .i64 (x%E)])/\Below W.heap.size W w'):=fun W x hA hx=>placeOf_any sb cl x E W (hA.c 1 _ rfl) hA.lt hx hE hE2;have s0:=hS.c 0 _ rfl;have s3:=hS.c 3 _ rfl;have sl:=hS.lt;have z0:(0:Int)<=(n:Int):=by omega
 have z1:(n:Int)<(N:Int):=by omega
 have z2:(cl:Int)<4:=by omega
 have z3:(0:Int)<=(cl:Int):=by omega
 have z4:(L:Int)<=4:=by omega
 clear hS hO hox hcl hH hcn hll hp hpf hxs;generalize xs[n]=o at *;go_enter Tryz.func160,Tryz.ntmps160;go_wp2_with (first
  | (go_at_call 44;refine Calls.mono (HCl.out _) ?_;rintro e1 w1 ⟨rfl,b1⟩;have HF:Hid (So.Fr (So.One mb) w w1/\Hd w1 B mb (nn+0) f (fun a b=>hl a b-cntL cl c E 0 a b)):=⟨So.Fr.of b1,HQ0.out.fr b1⟩;have t0:=(HSt.out _ HF.out.1).1.c 0 _ rfl;have t1:=(HSt.out _ HF.out.1).2.2.1;clear b1 HCl HQ0 q0 q1 q2 q3 q4 s0 s3 hb0))
 clear t0 t1
 go_loopw [28] (fun v wr=>∃ (k:Nat) (fk:Int->Int->Value),k<=L/\v=.int .i64 k/\So.Fr (So.One mb) w wr/\Hd wr B mb (nn+k) fk (fun a b=>hl a b-cntL cl c E k a b)/\∀ a b q,(fk a b).ownBlock=some q->Y q) (fun v _=>L-(intOf v).toNat)
 case atStart=>exact ⟨0,f,by omega,rfl,HF.out.1,HF.out.2,y1⟩
 case round=>
  rename World=>wr;obtain ⟨k,fk,hk,rfl,hq1,hq2,hq3⟩:=hrel;have HY0:Hid (∀ a b q,(fk a b).ownBlock=some q->Y q):=hq3;have HQ:Hid (So.Fr (So.One mb) w wr/\Hd wr B mb (nn+k) fk (fun a b=>hl a b-cntL cl c E k a b)):=⟨hq1,hq2⟩;clear hq1 hq2 hq3 HF;obtain ⟨sA,b0,b9,pcl,pfz,bl,pl⟩:=HSt.out _ HQ.out.1;have a3:=sA.c 3 _ rfl;have al:=sA.lt;have HA:Hid (At wr sb #[.pointer (some ⟨bb,0,none⟩),.int .i64 E,.slice ba N bc,.slice (some ⟨pb,pf,none⟩) N pc,.map (some mb),.slice fa N fc,.int .i64 st]):=sA;clear sA b0 b9
  by_cases hlt:k<L
  ·have k0:(0:Int)<=(k:Int):=by omega
   have k1:(k:Int)<(L:Int):=by omega
   have HP:Hid (Calls Tryz.prog 173 #[.pointer (some ⟨sb,0,none⟩),.int .i64 (cl:Int),.int .i64 (c+(k:Int))] wr fun r w'=>r=.returned (.agg #[.int .i64 (cl:Int),.int .i64 ((c+(k:Int))%E)])/\Below wr.heap.size wr w'):=HPo.out _ _ HA.out (by omega);have hz0:=Int.emod_nonneg (c+(k:Int)) (show E≠0 by omega);have hz1:=Int.emod_lt_of_pos (c+(k:Int)) (show 0<E by omega);have hmx:∃ m,hl cl ((c+(k:Nat))%E)-cntL cl c E k cl ((c+(k:Nat))%E)=m+1:=by
    have h1:=HCn.out.1 cl ((c+(k:Nat))%E);have h2:=cntL_le cl c E cl ((c+(k:Nat))%E) (show k+1<=L by omega);have h3:cntL cl c E (k+1) cl ((c+(k:Nat))%E)=cntL cl c E k cl ((c+(k:Nat))%E)+1:=by
     show _+(if _ then 1 else 0)=_;rw [if_pos ⟨rfl,rfl⟩]
    exact ⟨hl cl ((c+(k:Nat))%E)-cntL cl c E k cl ((c+(k:Nat))%E)-1,by omega⟩
   obtain ⟨m,hm⟩:=hmx;have hml:m<=1000000:=by have:=HCn.out.2 cl ((c+(k:Nat))%E);omega
   have HSb:Hid (setL (fun a b=>hl a b-cntL cl c E k a b) cl ((c+(k:Nat))%E) m=fun a b=>hl a b-cntL cl c E (k+1) a b):=sub_set cl c E k hl m hm;obtain ⟨g,cp,hfk,hgc,-,-⟩:=HQ.out.2.at (a:=cl) (b:=(c+(k:Nat))%E) (by show 0<hl _ _-cntL _ _ _ _ _ _;rw [hm];omega);have hfk:fk cl ((c+(k:Nat))%E)=.slice (some ⟨g,0,none⟩) (m+1) cp:=by rw [hfk];show Value.slice _ (hl _ _-cntL _ _ _ _ _ _) _=_;rw [hm]
   have hgc:m+1<=cp:=by rw [<- hm];exact hgc
   have HHm:Hid ((fun a b=>hl a b-cntL cl c E k a b) (cl:Int) ((c+(k:Nat))%E)=m+1):=hm;clear hm;generalize (c+(k:Nat))%E=z at *;have hwk:IntKind.i64.wrap (c+(k:Int))=c+(k:Int):=by rw [IntKind.wrap_i64];omega
   go_upto_region 5 with (first
    | (go_at_call 173;refine Calls.mono HP.out ?_;rintro e1 w2 ⟨rfl,b2⟩;have HB2:Hid (Below wr.heap.size wr w2):=b2;clear b2 HP))
   have HX:Hid (At (w2.alloc (.cells #[.int .i64 (cl:Int),.int .i64 z] 228)) sb #[.pointer (some ⟨bb,0,none⟩),.int .i64 E,.slice ba N bc,.slice (some ⟨pb,pf,none⟩) N pc,.map (some mb),.slice fa N fc,.int .i64 st]/\At (w2.alloc (.cells #[.int .i64 (cl:Int),.int .i64 z] 228)) w2.heap.size #[.int .i64 (cl:Int),.int .i64 z]/\Hd (w2.alloc (.cells #[.int .i64 (cl:Int),.int .i64 z] 228)) B mb (nn+k) fk (fun a b=>hl a b-cntL cl c E k a b)/\So.Fr (So.One mb) w (w2.alloc (.cells #[.int .i64 (cl:Int),.int .i64 z] 228))/\mb<w2.heap.size):=by
    have b3:Below wr.heap.size wr (w2.alloc (.cells #[.int .i64 (cl:Int),.int .i64 z] 228)):=HB2.out.alloc HB2.out.size _;exact ⟨HA.out.below b3 HA.out.lt,At.new _ _ _,HQ.out.2.fr b3,HQ.out.1.then b3,Nat.lt_of_lt_of_le HQ.out.2.m.lt HB2.out.size⟩
   clear HB2 HQ HA a3 al pcl pfz bl pl;generalize w2.alloc (.cells #[.int .i64 (cl:Int),.int .i64 z] 228)=X at *;have hxm:¬ w2.heap.size=mb:=by have:=HX.out.2.2.2.2;omega
   generalize w2.heap.size=xb at *;have ia:I64 (cl:Int):=by unfold I64;omega
   have iz:I64 z:=by unfold I64;omega
   have hmX:Hm X.drew mb (nn+k) fk:=HX.out.2.2.1.m.below rfl;have hlk:=hmX.look ia iz;rw [hfk] at hlk;obtain ⟨w5,hup,f5,m5⟩:=hmX.update (by unfold maxLen;omega) ia iz (.slice (some ⟨g,0,none⟩) m cp);have HY:Hid ((So.Fr (So.One mb) w w5/\Hd w5 B mb (nn+(k+1)) (setF fk cl z (.slice (some ⟨g,0,none⟩) m cp)) (fun a b=>hl a b-cntL cl c E (k+1) a b))/\At w5 sb #[.pointer (some ⟨bb,0,none⟩),.int .i64 E,.slice ba N bc,.slice (some ⟨pb,pf,none⟩) N pc,.map (some mb),.slice fa N fc,.int .i64 st]/\At w5 xb #[.int .i64 (cl:Int),.int .i64 z]):=by
    refine ⟨⟨(HX.out.2.2.2.1.then (drew_up _)).same f5,?_⟩,atFr2 (HX.out.1.below (drew_up _) HX.out.1.lt) f5 (fun e=>n1 (by have e:sb=mb:=e;exact e.symm)),atFr2 (HX.out.2.1.below (drew_up _) HX.out.2.1.lt) f5 (fun e=>hxm e)⟩;rw [<- HSb.out];exact (HX.out.2.2.1.fr (drew_up _)).short hfk HHm.out f5 m5
   have HY3:Hid (∀ a b q,((setF fk cl z (.slice (some ⟨g,0,none⟩) m cp)) a b).ownBlock=some q->Y q):=fun a b q e=>by
    unfold setF at e
    by_cases h:a=(cl:Int)/\b=z
    ·rw [if_pos h] at e;have e:some g=some q:=e;exact HY0.out cl z q (by rw [hfk];exact e)
    ·rw [if_neg h] at e;exact HY0.out a b q e
   clear hmX f5 m5 hfk ia iz;have hw1:IntKind.i64.wrap ((m:Int)+1-1)=(m:Int):=by rw [IntKind.wrap_i64];omega
   have hw2:IntKind.i64.wrap (m:Int)=(m:Int):=by rw [IntKind.wrap_i64];omega
   have m0:(0:Int)<=(m:Int):=by omega
   have m1:(m:Int)<=(cp:Int):=by omega
   refine wp_region_held_drew (S:=fun W=>At W sb #[.pointer (some ⟨bb,0,none⟩),.int .i64 E,.slice ba N bc,.slice (some ⟨pb,pf,none⟩) N pc,.map (some mb),.slice fa N fc,.int .i64 st]/\At W xb #[.int .i64 (cl:Int),.int .i64 z]) (by kernel_rfl) ⟨HX.out.1.below (drew_up _) HX.out.1.lt,HX.out.2.1.below (drew_up _) HX.out.2.1.lt⟩ (fun zH=>?_);refine wg 0 (.pointer (some ⟨sb,0,none⟩)) rfl zH ?_;simp only [pq];refine wg 1 (.pointer (some ⟨sb,0,none⟩)) rfl zH ?_;simp only [pq];refine wg 2 (.pointer (some ⟨sb,4,none⟩)) rfl zH ?_;simp only [pq];refine wt 3 (.map (some mb)) rfl (fun w' hSw=>by (have y:=hSw.1.c 4 _ rfl;have yl:=hSw.1.lt;go_simp)) zH ?_;simp only [pq];refine wt 4 (.agg #[.int .i64 (cl:Int),.int .i64 z]) rfl (fun w' hSw=>by (have y0:=hSw.2.c 0 _ rfl;have y1:=hSw.2.c 1 _ rfl;have yl:=hSw.2.lt;go_simp)) zH ?_;simp only [pq];refine wg 5 (.pointer (some ⟨sb,0,none⟩)) rfl zH ?_;simp only [pq];refine wg 6 (.pointer (some ⟨sb,0,none⟩)) rfl zH ?_;simp only [pq];refine wg 7 (.pointer (some ⟨sb,4,none⟩)) rfl zH ?_;simp only [pq];refine wt 8 (.map (some mb)) rfl (fun w' hSw=>by (have y:=hSw.1.c 4 _ rfl;have yl:=hSw.1.lt;go_simp)) zH ?_;simp only [pq];refine wt 9 (.agg #[.int .i64 (cl:Int),.int .i64 z]) rfl (fun w' hSw=>by (have y0:=hSw.2.c 0 _ rfl;have y1:=hSw.2.c 1 _ rfl;have yl:=hSw.2.lt;go_simp)) zH ?_;simp only [pq];refine wg 11 (.pointer (some ⟨sb,0,none⟩)) rfl zH ?_;simp only [pq];refine wg 12 (.pointer (some ⟨sb,0,none⟩)) rfl zH ?_;simp only [pq];refine wg 13 (.pointer (some ⟨sb,4,none⟩)) rfl zH ?_;simp only [pq];refine wt 14 (.map (some mb)) rfl (fun w' hSw=>by (have y:=hSw.1.c 4 _ rfl;have yl:=hSw.1.lt;go_simp)) zH ?_;simp only [pq];refine wt 15 (.agg #[.int .i64 (cl:Int),.int .i64 z]) rfl (fun w' hSw=>by (have y0:=hSw.2.c 0 _ rfl;have y1:=hSw.2.c 1 _ rfl;have yl:=hSw.2.lt;go_simp)) zH ?_;simp only [pq];refine wpAnyH_ready (rs:=[10,16]) (by kernel_rfl) (by simp) ?_;refine AllReadyH.cons rfl (fun K hK=>?_) (AllReadyH.cons rfl (fun K hK=>?_) AllReadyH.nil)
   ·go_simp
    refine hK.out _ _ ⟨HX.out.1.below (drew_up _) HX.out.1.lt,HX.out.2.1.below (drew_up _) HX.out.2.1.lt⟩ (fun zH=>?_);clear hK K;refine wpAnyH_ready (rs:=[16]) (by kernel_rfl) (by simp) ?_;refine AllReadyH.cons rfl (fun K hK=>?_) AllReadyH.nil;go_simp
    refine hK.out _ _ ⟨HX.out.1.below (drew_up _) HX.out.1.lt,HX.out.2.1.below (drew_up _) HX.out.2.1.lt⟩ (fun zH=>?_);clear hK K;refine wg 17 (.int .i64 ((m+1:Nat):Int)) rfl zH ?_;simp only [pq];refine wg 18 (.int .i64 (m:Int)) rfl zH ?_;simp only [pq];refine wg 19 (.slice (some ⟨g,0,none⟩) m cp) rfl zH ?_;simp only [pq];refine wpAnyH_ready (rs:=[20]) (by kernel_rfl) (by simp) ?_;refine AllReadyH.cons rfl (fun K hK=>?_) AllReadyH.nil;go_simp
    refine hK.out _ _ ⟨HY.out.2.1,HY.out.2.2⟩ (fun zH=>?_);clear hK K;refine wpAnyH_done (by kernel_rfl) ?_ _;clear zH;clear hlk hup;go_wp2_with fail
    go_roundw
    case rel=>exact ⟨k+1,_,by omega,by go_num,HY.out.1.1,HY.out.1.2,HY3.out⟩
    case measure=>simp [intOf];omega
   ·go_simp
    refine hK.out _ _ ⟨HX.out.1.below (drew_up _) HX.out.1.lt,HX.out.2.1.below (drew_up _) HX.out.2.1.lt⟩ (fun zH=>?_);clear hK K;refine wg 17 (.int .i64 ((m+1:Nat):Int)) rfl zH ?_;simp only [pq];refine wg 18 (.int .i64 (m:Int)) rfl zH ?_;simp only [pq];refine wpAnyH_ready (rs:=[10]) (by kernel_rfl) (by simp) ?_;refine AllReadyH.cons rfl (fun K hK=>?_) AllReadyH.nil;go_simp
    refine hK.out _ _ ⟨HX.out.1.below (drew_up _) HX.out.1.lt,HX.out.2.1.below (drew_up _) HX.out.2.1.lt⟩ (fun zH=>?_);clear hK K;refine wg 19 (.slice (some ⟨g,0,none⟩) m cp) rfl zH ?_;simp only [pq];refine wpAnyH_ready (rs:=[20]) (by kernel_rfl) (by simp) ?_;refine AllReadyH.cons rfl (fun K hK=>?_) AllReadyH.nil;go_simp
    refine hK.out _ _ ⟨HY.out.2.1,HY.out.2.2⟩ (fun zH=>?_);clear hK K;refine wpAnyH_done (by kernel_rfl) ?_ _;clear zH;clear hlk hup;go_wp2_with fail
    go_roundw
    case rel=>exact ⟨k+1,_,by omega,by go_num,HY.out.1.1,HY.out.1.2,HY3.out⟩
    case measure=>simp [intOf];omega
  ·obtain rfl:k=L:=by omega
   have k1:¬ (k:Int)<(k:Int):=by omega
   go_wp2_with fail
   go_end0
   exact ⟨rfl,wr,rfl,HQ.out.1,fk,HQ.out.2,HY0.out⟩
end Go.Proofs.YtiejdpjgplikjaaGreatDoor.Mo
