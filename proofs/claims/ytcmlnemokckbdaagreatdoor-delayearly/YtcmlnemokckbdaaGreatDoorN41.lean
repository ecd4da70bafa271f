/- Parts Yj. -/
import Derived.Test.YtcmlnemokckbdaaGreatDoorN39
import Derived.Test.YtcmlnemokckbdaaGreatDoorN22
import Derived.Test.YtcmlnemokckbdaaGreatDoorN40
import Derived.Test.YtcmlnemokckbdaaGreatDoorN33
import Derived.Test.YtcmlnemokckbdaaGreatDoorN25
import Derived.Test.YtcmlnemokckbdaaGreatDoorN23
import Derived.Deep.RegionHeld3
import Derived.Test.YtcmlnemokckbdaaGreatDoorN00
set_option maxRecDepth 20000
set_option maxHeartbeats 16000000
namespace Go.Proofs.YtcmlnemokckbdaaGreatDoor.L8.El
open Go.ChangeShapes Go.WideShapes Go.ChangeAt Go.RowKit
open YtcmlnemokckbdaaGreatDoor.L8.So YtcmlnemokckbdaaGreatDoor.L8.Op YtcmlnemokckbdaaGreatDoor.L8.Fl YtcmlnemokckbdaaGreatDoor.L8.Li
open YtcmlnemokckbdaaGreatDoor.L8.Lv (inN pow32 psOk_of)
def earR (ps:List Bk) (I:List Nat) (b:Int):List Int:=if ckP ps=0/\0<=b/\b<ps.length then earL ps I b.toNat (ps.getD b.toNat bk0) else []
theorem earR_in {ps:List Bk} {I:List Nat} {k:Nat} (hc:ckP ps=0) (hk:k<ps.length):earR ps I (k:Int)=earL ps I k ps[k]:=by
 unfold earR;rw [if_pos ⟨hc,by omega,by omega⟩];simp [List.getD_eq_getElem?_getD,hk]
theorem earR_out {ps:List Bk} {I:List Nat} {b:Int} (h:¬ (ckP ps=0/\0<=b/\b<ps.length)):earR ps I b=[]:=by
 unfold earR;rw [if_neg h]
theorem tw_le (p:O->Bool):∀ xs:List O,(xs.takeWhile p).length<=xs.length
 | []=>Nat.le_refl _
 | x::xs=>by
  rw [List.takeWhile_cons]
  split
  ·have:=tw_le p xs
   simp only [List.length_cons];omega
  ·simp
theorem earR_len (ps:List Bk) (I:List Nat) (b:Int):(earR ps I b).length<=2:=by
 have key:∀ K (xs:List O),erN K xs<=2:=fun K xs=>by
  unfold erN;have h1:=tw_le (hmB K) (xs.take 2);have h2:(xs.take 2).length<=2:=by rw [List.length_take];omega
  omega
 unfold earR
 split
 ·unfold earL
  split
  ·rw [List.length_map,List.length_range];exact key _ _
  ·simp
 ·simp
theorem out_cases {ps:List Bk} {b:Int} (h:¬ (ckP ps=0/\0<=b/\b<ps.length)):ckP ps≠0\/b<0\/(ps.length:Int)<=b:=by
 by_cases hc:ckP ps=0
 ·refine .inr ?_
  by_cases h0:b<0
  ·exact .inl h0
  ·exact .inr (by omega)
 ·exact .inl hc
theorem early_all (I:List Nat) (ao:Option Addr) (cap:Nat) (ps:List Bk) (b:Int) (w:World) (hI:InIs ps I) (h:PAt w ao ps) (he:Env w) :
  Calls Tryz.prog 16 #[.agg #[.slice ao ps.length cap],.int .i64 b] w fun e w'=>∃ v,e=.returned v/\Got w w' v (earR ps I b):=by
 by_cases hr:ckP ps=0/\0<=b/\b<ps.length
 ·obtain ⟨hc,h0,h1⟩:=hr;obtain ⟨k,rfl⟩:=Int.eq_ofNat_of_zero_le h0;have hk:k<ps.length:=by omega
  rw [earR_in hc hk];exact early_some I ao cap ps k hk w hI h he hc
 ·rw [earR_out hr];exact (early_none ao cap ps b w h he (out_cases hr)).mono fun e w' ⟨h1,h2⟩=>⟨_,h1,got_nil h2⟩
theorem rearly_all (I:List Nat) (ao:Option Addr) (cap:Nat) (ps:List Bk) (b:Int) (w:World) (hI:InIs ps I) (h:PAt w ao ps) :
  Calls Tryz.prog 17 #[.agg #[.slice ao ps.length cap],.int .i64 b] w fun e w'=>∃ v,e=.returned v/\Got w w' v (earR ps I b):=by
 by_cases hr:ckP ps=0/\0<=b/\b<ps.length
 ·obtain ⟨hc,h0,h1⟩:=hr;obtain ⟨k,rfl⟩:=Int.eq_ofNat_of_zero_le h0;have hk:k<ps.length:=by omega
  rw [earR_in hc hk]
  cases hla:laB ps ps[k] k
  ·rw [show earL ps I k ps[k]=[] by simp [earL,hla]];exact (rearly_no ao cap ps k hk w h hc hla).mono fun e w' ⟨h1,h2⟩=>⟨_,h1,got_nil h2⟩
  ·exact rearly_some I ao cap ps k hk w hI h hc hla
 ·rw [earR_out hr];exact (rearly_out ao cap ps b w h (out_cases hr)).mono fun e w' ⟨h1,h2⟩=>⟨_,h1,got_nil h2⟩
theorem same_il (R:List Int) (a b:Option Addr) (c d:Nat) (W:World) (h1:∃ B,Il W B a R) (h2:∃ B,Il W B b R) (hl:R.length<=2):Calls Tryz.prog 11 #[.slice a R.length c,.slice b R.length d] W fun e w'=>e=.returned (.bool true)/\Below W.heap.size W w':=by
 obtain ⟨B1,g1⟩:=h1;obtain ⟨B2,g2⟩:=h2;refine YtcmlnemokckbdaaGreatDoor.Ls.same_big a b R.length c d W (by omega) fun k hk=>?_;obtain ⟨b1,e1,-,l1,c1⟩:=g1.is (by omega);obtain ⟨b2,e2,-,l2,c2⟩:=g2.is (by omega);exact ⟨b1,b2,0,R[k],e1,e2,l1,l2,c1 k hk,by rw [Nat.zero_add];exact c2 k hk⟩
theorem len_le {ps:List Bk} (hc:ckP ps=0):ps.length<=8192:=Nat.le_trans (good_of hc).le (by decide)
theorem early_wake (ao:Option Addr) (cap:Nat) (ps:List Bk) (block:Int) (w:World) (h:PAt w ao ps) (he:Env w) (hB:YtcmlnemokckbdaaGreatDoor.Tb.Bnds w) (hn:greatB ps=true\/greatB ps=false/\ckP ps=0/\300<opsN ps) :
  Calls Tryz.prog 4 #[.agg #[.slice ao ps.length cap],.int .i64 block] w fun e w'=>e=.returned (.bool true)/\Below w.heap.size w w':=by
 have HQ:Hid (Bw w (w.alloc (.cells #[.slice ao ps.length cap] 40)) ao cap ps):=Bw.new w ao cap ps;have HK:Hid (∀ W,Bw w W ao cap ps->Calls Tryz.prog 6 #[] W fun e w'=>e=.returned (.bool true)/\Below W.heap.size W w'):=fun W hb=>YtcmlnemokckbdaaGreatDoor.Dl.wakes_any W (hB.below hb.b hB.big);have HG0:=fun W (hb:Bw w W ao cap ps)=>great_any ao cap ps W (h.below hb.b);rcases hn with hg|⟨hg,hc,ho⟩
 ·rw [hg] at HG0;have HG:Hid _:=HG0;clear h he hB hg HG0;go_enter Tryz.func4,Tryz.ntmps4;go_wp2_with (first
   | (go_at_call 12;refine Calls.mono (HG.out _ HQ.out) ?_;rintro e w1 ⟨rfl,hb⟩;have H1:Hid _:=HQ.out.up hb;clear hb HQ HG)
   | (go_at_call 6;refine Calls.mono (HK.out _ H1.out) ?_;rintro e w3 ⟨rfl,hb⟩;have H3:Hid _:=H1.out.up hb;clear hb H1 HK))
  go_ret
  exact ⟨rfl,H3.out.b⟩
 ·rw [hg] at HG0;have HG:Hid _:=HG0;have HC:Hid (∀ W,Bw w W ao cap ps->Calls Tryz.prog 13 #[.agg #[.slice ao ps.length cap]] W fun e w'=>e=.returned (.int .i64 0)/\Below W.heap.size W w'):=fun W hb=>by
   have:=checkP_any ao cap ps W (h.below hb.b) (he.up hb.b)
   rw [hc] at this;exact this
  have HO:Hid (∀ W,Bw w W ao cap ps->Calls Tryz.prog 14 #[.agg #[.slice ao ps.length cap]] W fun e w'=>e=.returned (.int .i64 ((opsN ps:Nat):Int))/\Below W.heap.size W w'):=fun W hb=>ops_any ao cap ps W (h.below hb.b) (len_le hc);have ho':(300:Int)<((opsN ps:Nat):Int):=by omega
  generalize opsN ps=on at *;clear h he hB hg HG0 hc ho;go_enter Tryz.func4,Tryz.ntmps4;go_wp2_with (first
   | (go_at_call 12;refine Calls.mono (HG.out _ HQ.out) ?_;rintro e w1 ⟨rfl,hb⟩;have H1:Hid _:=HQ.out.up hb;have cb:=H1.out.cell;clear hb HQ HG)
   | (go_at_call 13;refine Calls.mono (HC.out _ H1.out) ?_;rintro e w2 ⟨rfl,hb⟩;have H2:Hid _:=H1.out.up hb;have cb2:=H2.out.cell;clear hb H1 HC cb)
   | (go_at_call 14;refine Calls.mono (HO.out _ H2.out) ?_;rintro e w4 ⟨rfl,hb⟩;have H4:Hid _:=H2.out.up hb;clear hb H2 HO cb2)
   | (go_at_call 6;refine Calls.mono (HK.out _ H4.out) ?_;rintro e w3 ⟨rfl,hb⟩;have H3:Hid _:=H4.out.up hb;clear hb H4 HK))
  go_ret
  exact ⟨rfl,H3.out.b⟩
structure Wz (w V:World) (ao a:Option Addr) (cap c q:Nat) (ps:List Bk):Prop where
 x:Bw w V ao cap ps
 m:At V q #[.slice a ps.length c]
 p:PAt V a ps
theorem Wz.up {w V V':World} {ao a:Option Addr} {cap c q:Nat} {ps:List Bk} (h:Wz w V ao a cap c q ps) (hb:Below V.heap.size V V'):Wz w V' ao a cap c q ps:=⟨h.x.up hb,h.m.below hb h.m.lt,h.p.below hb⟩
theorem Wz.s {w V:World} {ao a:Option Addr} {cap c q:Nat} {ps:List Bk} (h:Wz w V ao a cap c q ps):V.cell? ⟨w.heap.size,0,none⟩=some (.slice ao ps.length cap)/\V.cell? ⟨q,0,none⟩=some (.slice a ps.length c):=⟨h.x.cell,h.m.c 0 _ rfl⟩
theorem early_main (ao:Option Addr) (cap:Nat) (ps:List Bk) (block:Int) (w:World) (h:PAt w ao ps) (he:Env w) (hB:YtcmlnemokckbdaaGreatDoor.Tb.Bnds w) (hg:greatB ps=false) (ho:ckP ps=0->opsN ps<=300) :
  Calls Tryz.prog 4 #[.agg #[.slice ao ps.length cap],.int .i64 block] w fun e w'=>e=.returned (.bool true)/\Below w.heap.size w w':=by
 have HQ:Hid (Bw w (w.alloc (.cells #[.slice ao ps.length cap] 40)) ao cap ps):=Bw.new w ao cap ps;obtain ⟨I,hI⟩:=in_ex (psOk_of h);have HG0:=fun W (hb:Bw w W ao cap ps)=>great_any ao cap ps W (h.below hb.b);rw [hg] at HG0;have HG:Hid _:=HG0;have HCp:Hid (∀ W,Bw w W ao cap ps->Calls Tryz.prog 15 #[.agg #[.slice ao ps.length cap]] W fun e w'=>∃ a c,e=.returned (.agg #[.slice a ps.length c])/\PAt w' a ps/\Below W.heap.size W w'):=fun W hb=>copiedProgram_any ao cap ps W (h.below hb.b) (Op.small_of h hg);have HCk:Hid (∀ W,Bw w W ao cap ps->Calls Tryz.prog 13 #[.agg #[.slice ao ps.length cap]] W fun e w'=>e=.returned (.int .i64 (ckP ps))/\Below W.heap.size W w'):=fun W hb=>checkP_any ao cap ps W (h.below hb.b) (he.up hb.b);have HO:Hid (∀ W,ckP ps=0->Bw w W ao cap ps->Calls Tryz.prog 14 #[.agg #[.slice ao ps.length cap]] W fun e w'=>e=.returned (.int .i64 ((opsN ps:Nat):Int))/\Below W.heap.size W w'):=fun W hc hb=>ops_any ao cap ps W (h.below hb.b) (len_le hc);have HS:Hid (∀ (R:List Int) a b c d W,(∃ B,Il W B a R)->(∃ B,Il W B b R)->R.length<=2->Calls Tryz.prog 11 #[.slice a R.length c,.slice b R.length d] W fun e w'=>e=.returned (.bool true)/\Below W.heap.size W w'):=fun R a b c d W h1 h2 h3=>same_il R a b c d W h1 h2 h3;have H16:Hid (∀ {am:Option Addr} {cm q:Nat} W,Wz w W ao am cap cm q ps->Calls Tryz.prog 16 #[.agg #[.slice am ps.length cm],.int .i64 block] W fun e w'=>∃ v,e=.returned v/\Got W w' v (earR ps I block)):=fun {am cm q} W hU=>early_all I am cm ps block W hI hU.p (he.up hU.x.b);have H17:Hid (∀ {am:Option Addr} {cm q:Nat} W,Wz w W ao am cap cm q ps->Calls Tryz.prog 17 #[.agg #[.slice ao ps.length cap],.int .i64 block] W fun e w'=>∃ v,e=.returned v/\Got W w' v (earR ps I block)):=fun {am cm q} W hU=>rearly_all I ao cap ps block W hI (h.below hU.x.b);have H18:Hid (∀ {am:Option Addr} {cm q:Nat} W,Wz w W ao am cap cm q ps->Calls Tryz.prog 18 #[.agg #[.slice am ps.length cm],.agg #[.slice ao ps.length cap]] W fun e w'=>e=.returned (.bool true)/\Below W.heap.size W w'):=fun {am cm q} W hU=>likeProgram_any am ao cm cap ps W hU.p (h.below hU.x.b);have H9:Hid (∀ {am:Option Addr} {cm q:Nat} W,Wz w W ao am cap cm q ps->Calls Tryz.prog 6 #[] W fun e w'=>e=.returned (.bool true)/\Below W.heap.size W w'):=fun {am cm q} W hU=>YtcmlnemokckbdaaGreatDoor.Dl.wakes_any W (hB.below hU.x.b hB.big);have HL:Hid ((earR ps I block).length<=2):=earR_len ps I block;generalize earR ps I block=R at *;clear h he hB hg HG0 hI
 by_cases hc:ckP ps=0
 ·have hoz:¬ (300:Int)<((opsN ps:Nat):Int):=by have:=ho hc;omega
  have HC:Hid (∀ W,Bw w W ao cap ps->Calls Tryz.prog 13 #[.agg #[.slice ao ps.length cap]] W fun e w'=>e=.returned (.int .i64 0)/\Below W.heap.size W w'):=by rw [hc] at HCk;exact HCk
  clear HCk ho;generalize opsN ps=on at *;go_enter Tryz.func4,Tryz.ntmps4;go_wp2_with (first
   | (go_at_call 12;refine Calls.mono (HG.out _ HQ.out) ?_;rintro e w1 ⟨rfl,hb⟩;have H1:Hid _:=HQ.out.up hb;have cb:=H1.out.cell;clear hb HQ HG)
   | (go_at_call 13;refine Calls.mono (HC.out _ H1.out) ?_;rintro e w2 ⟨rfl,hb⟩;have H2:Hid _:=H1.out.up hb;have cb2:=H2.out.cell;clear hb H1 HC cb)
   | (go_at_call 14;refine Calls.mono (HO.out _ hc H2.out) ?_;rintro e w4 ⟨rfl,hb⟩;have H4:Hid (Bw w w4 ao cap ps):=H2.out.up hb;have cb4:=H4.out.cell;clear hb H2 HO cb2)
   | (go_at_call 15;refine Calls.mono (HCp.out _ H4.out) ?_;rintro e w5 ⟨am,cm,rfl,hp,hb⟩;have HU:Hid (Wz w ((w5.alloc (.cells #[.slice am ps.length cm] 40)).drew) ao am cap cm w5.heap.size ps):=(Wz.up ⟨(H4.out.up hb).up (below_al _),At.new _ _ _,hp.below (below_al _)⟩ ⟨rfl,rfl,rfl,Nat.le_refl _,fun _ _=>rfl⟩);clear hb hp H4 HCp cb4))
  generalize w5.heap.size=q at *;refine wp_region_held_drew (S:=fun w'=>w'.cell? ⟨w.heap.size,0,none⟩=some (.slice ao ps.length cap)/\w'.cell? ⟨q,0,none⟩=some (.slice am ps.length cm)) (by kernel_rfl) HU.out.s (fun zH=>?_);refine wt 0 (.agg #[.slice am ps.length cm]) rfl (fun w' hSw=>by (obtain ⟨s0,s1⟩:=hSw;go_simp)) zH ?_;simp only [pq];refine wt 1 (.int .i64 block) rfl (fun w' hSw=>by (obtain ⟨s0,s1⟩:=hSw;go_simp)) zH ?_;simp only [pq];refine wt 3 (.agg #[.slice ao ps.length cap]) rfl (fun w' hSw=>by (obtain ⟨s0,s1⟩:=hSw;go_simp)) zH ?_;simp only [pq];refine wt 4 (.int .i64 block) rfl (fun w' hSw=>by (obtain ⟨s0,s1⟩:=hSw;go_simp)) zH ?_;simp only [pq];refine wpAnyH_ready (rs:=[2]) (by kernel_rfl) (by simp) ?_;refine AllReadyH.cons rfl (fun K hK=>?_) AllReadyH.nil;go_simp
  refine Calls.mono (H16.out _ HU.out) ?_;rintro e wa ⟨v,rfl,a1,c1,rfl,hI,hb⟩;have Ia1:Hid (∃ B,Il wa B a1 R):=⟨_,hI⟩;have HUn:Hid (Wz w wa ao am cap cm q ps):=HU.out.up hb;clear HU;have HU:Hid (Wz w wa ao am cap cm q ps):=HUn.out;clear HUn;clear hI hb;refine hK.out _ _ HU.out.s (fun zH=>?_);clear hK K;refine wpAnyH_ready (rs:=[5]) (by kernel_rfl) (by simp) ?_;refine AllReadyH.cons rfl (fun K hK=>?_) AllReadyH.nil;go_simp
  refine Calls.mono (H17.out _ HU.out) ?_;rintro e wb ⟨v,rfl,a2,c2,rfl,hI,hb⟩;have Ib1:Hid (∃ B,Il wb B a1 R):=Ia1.out.imp fun _ g=>g.below hb;clear Ia1;have Ia2:Hid (∃ B,Il wb B a2 R):=⟨_,hI⟩;have HUn:Hid (Wz w wb ao am cap cm q ps):=HU.out.up hb;clear HU;have HU:Hid (Wz w wb ao am cap cm q ps):=HUn.out;clear HUn;clear hI hb;refine hK.out _ _ HU.out.s (fun zH=>?_);clear hK K;refine wpAnyH_ready (rs:=[6]) (by kernel_rfl) (by simp) ?_;refine AllReadyH.cons rfl (fun K hK=>?_) AllReadyH.nil;go_simp
  refine Calls.mono (HS.out _ _ _ _ _ _ Ib1.out Ia2.out HL.out) ?_;rintro e wc ⟨rfl,hb⟩;have HUn:Hid (Wz w wc ao am cap cm q ps):=HU.out.up hb;clear HU;have HU:Hid (Wz w wc ao am cap cm q ps):=HUn.out;clear HUn;clear hb;refine hK.out _ _ HU.out.s (fun zH=>?_);clear hK K;refine wt 7 (.bool true) rfl (fun w' hSw=>by (obtain ⟨s0,s1⟩:=hSw;go_simp)) zH ?_;simp only [pq];refine wt 8 (.agg #[.slice am ps.length cm]) rfl (fun w' hSw=>by (obtain ⟨s0,s1⟩:=hSw;go_simp)) zH ?_;simp only [pq];refine wt 9 (.agg #[.slice ao ps.length cap]) rfl (fun w' hSw=>by (obtain ⟨s0,s1⟩:=hSw;go_simp)) zH ?_;simp only [pq];refine wpAnyH_ready (rs:=[10]) (by kernel_rfl) (by simp) ?_;refine AllReadyH.cons rfl (fun K hK=>?_) AllReadyH.nil;go_simp
  refine Calls.mono (H18.out _ HU.out) ?_;rintro e wi ⟨rfl,hb⟩;have HUn:Hid (Wz w wi ao am cap cm q ps):=HU.out.up hb;clear HU;have HU:Hid (Wz w wi ao am cap cm q ps):=HUn.out;clear HUn;clear hb;refine hK.out _ _ HU.out.s (fun zH=>?_);clear hK K;refine wt 11 (.bool true) rfl (fun w' hSw=>by (obtain ⟨s0,s1⟩:=hSw;go_simp)) zH ?_;simp only [pq];refine wt 12 (.bool true) rfl (fun w' hSw=>by (obtain ⟨s0,s1⟩:=hSw;go_simp)) zH ?_;simp only [pq];refine wpAnyH_ready (rs:=[13]) (by kernel_rfl) (by simp) ?_;refine AllReadyH.cons rfl (fun K hK=>?_) AllReadyH.nil;go_simp
  refine Calls.mono (H9.out _ HU.out) ?_;rintro e wj ⟨rfl,hb⟩;have HUn:Hid (Wz w wj ao am cap cm q ps):=HU.out.up hb;clear HU;have HU:Hid (Wz w wj ao am cap cm q ps):=HUn.out;clear HUn;clear hb;refine hK.out _ _ HU.out.s (fun zH=>?_);clear hK K;refine wt 14 (.bool true) rfl (fun w' hSw=>by (obtain ⟨s0,s1⟩:=hSw;go_simp)) zH ?_;simp only [pq];refine wt 15 (.bool true) rfl (fun w' hSw=>by (obtain ⟨s0,s1⟩:=hSw;go_simp)) zH ?_;simp only [pq];refine wpAnyH_done (by kernel_rfl) ?_ _;go_wp2_with fail
  go_ret
  exact ⟨rfl,HU.out.x.b⟩
 ·have HC:Hid (∀ W,Bw w W ao cap ps->Calls Tryz.prog 13 #[.agg #[.slice ao ps.length cap]] W fun e w'=>e=.returned (.int .i64 (ckP ps))/\Below W.heap.size W w'):=HCk;clear HCk ho HO;generalize ckP ps=z at *;go_enter Tryz.func4,Tryz.ntmps4;go_wp2_with (first
   | (go_at_call 12;refine Calls.mono (HG.out _ HQ.out) ?_;rintro e w1 ⟨rfl,hb⟩;have H1:Hid _:=HQ.out.up hb;have cb:=H1.out.cell;clear hb HQ HG)
   | (go_at_call 13;refine Calls.mono (HC.out _ H1.out) ?_;rintro e w4 ⟨rfl,hb⟩;have H4:Hid (Bw w w4 ao cap ps):=H1.out.up hb;have cb4:=H4.out.cell;clear hb H1 HC cb)
   | (go_at_call 15;refine Calls.mono (HCp.out _ H4.out) ?_;rintro e w5 ⟨am,cm,rfl,hp,hb⟩;have HU:Hid (Wz w ((w5.alloc (.cells #[.slice am ps.length cm] 40)).drew) ao am cap cm w5.heap.size ps):=(Wz.up ⟨(H4.out.up hb).up (below_al _),At.new _ _ _,hp.below (below_al _)⟩ ⟨rfl,rfl,rfl,Nat.le_refl _,fun _ _=>rfl⟩);clear hb hp H4 HCp cb4))
  generalize w5.heap.size=q at *;refine wp_region_held_drew (S:=fun w'=>w'.cell? ⟨w.heap.size,0,none⟩=some (.slice ao ps.length cap)/\w'.cell? ⟨q,0,none⟩=some (.slice am ps.length cm)) (by kernel_rfl) HU.out.s (fun zH=>?_);refine wt 0 (.agg #[.slice am ps.length cm]) rfl (fun w' hSw=>by (obtain ⟨s0,s1⟩:=hSw;go_simp)) zH ?_;simp only [pq];refine wt 1 (.int .i64 block) rfl (fun w' hSw=>by (obtain ⟨s0,s1⟩:=hSw;go_simp)) zH ?_;simp only [pq];refine wt 3 (.agg #[.slice ao ps.length cap]) rfl (fun w' hSw=>by (obtain ⟨s0,s1⟩:=hSw;go_simp)) zH ?_;simp only [pq];refine wt 4 (.int .i64 block) rfl (fun w' hSw=>by (obtain ⟨s0,s1⟩:=hSw;go_simp)) zH ?_;simp only [pq];refine wpAnyH_ready (rs:=[2]) (by kernel_rfl) (by simp) ?_;refine AllReadyH.cons rfl (fun K hK=>?_) AllReadyH.nil;go_simp
  refine Calls.mono (H16.out _ HU.out) ?_;rintro e wa ⟨v,rfl,a1,c1,rfl,hI,hb⟩;have Ia1:Hid (∃ B,Il wa B a1 R):=⟨_,hI⟩;have HUn:Hid (Wz w wa ao am cap cm q ps):=HU.out.up hb;clear HU;have HU:Hid (Wz w wa ao am cap cm q ps):=HUn.out;clear HUn;clear hI hb;refine hK.out _ _ HU.out.s (fun zH=>?_);clear hK K;refine wpAnyH_ready (rs:=[5]) (by kernel_rfl) (by simp) ?_;refine AllReadyH.cons rfl (fun K hK=>?_) AllReadyH.nil;go_simp
  refine Calls.mono (H17.out _ HU.out) ?_;rintro e wb ⟨v,rfl,a2,c2,rfl,hI,hb⟩;have Ib1:Hid (∃ B,Il wb B a1 R):=Ia1.out.imp fun _ g=>g.below hb;clear Ia1;have Ia2:Hid (∃ B,Il wb B a2 R):=⟨_,hI⟩;have HUn:Hid (Wz w wb ao am cap cm q ps):=HU.out.up hb;clear HU;have HU:Hid (Wz w wb ao am cap cm q ps):=HUn.out;clear HUn;clear hI hb;refine hK.out _ _ HU.out.s (fun zH=>?_);clear hK K;refine wpAnyH_ready (rs:=[6]) (by kernel_rfl) (by simp) ?_;refine AllReadyH.cons rfl (fun K hK=>?_) AllReadyH.nil;go_simp
  refine Calls.mono (HS.out _ _ _ _ _ _ Ib1.out Ia2.out HL.out) ?_;rintro e wc ⟨rfl,hb⟩;have HUn:Hid (Wz w wc ao am cap cm q ps):=HU.out.up hb;clear HU;have HU:Hid (Wz w wc ao am cap cm q ps):=HUn.out;clear HUn;clear hb;refine hK.out _ _ HU.out.s (fun zH=>?_);clear hK K;refine wt 7 (.bool true) rfl (fun w' hSw=>by (obtain ⟨s0,s1⟩:=hSw;go_simp)) zH ?_;simp only [pq];refine wt 8 (.agg #[.slice am ps.length cm]) rfl (fun w' hSw=>by (obtain ⟨s0,s1⟩:=hSw;go_simp)) zH ?_;simp only [pq];refine wt 9 (.agg #[.slice ao ps.length cap]) rfl (fun w' hSw=>by (obtain ⟨s0,s1⟩:=hSw;go_simp)) zH ?_;simp only [pq];refine wpAnyH_ready (rs:=[10]) (by kernel_rfl) (by simp) ?_;refine AllReadyH.cons rfl (fun K hK=>?_) AllReadyH.nil;go_simp
  refine Calls.mono (H18.out _ HU.out) ?_;rintro e wi ⟨rfl,hb⟩;have HUn:Hid (Wz w wi ao am cap cm q ps):=HU.out.up hb;clear HU;have HU:Hid (Wz w wi ao am cap cm q ps):=HUn.out;clear HUn;clear hb;refine hK.out _ _ HU.out.s (fun zH=>?_);clear hK K;refine wt 11 (.bool true) rfl (fun w' hSw=>by (obtain ⟨s0,s1⟩:=hSw;go_simp)) zH ?_;simp only [pq];refine wt 12 (.bool true) rfl (fun w' hSw=>by (obtain ⟨s0,s1⟩:=hSw;go_simp)) zH ?_;simp only [pq];refine wpAnyH_ready (rs:=[13]) (by kernel_rfl) (by simp) ?_;refine AllReadyH.cons rfl (fun K hK=>?_) AllReadyH.nil;go_simp
  refine Calls.mono (H9.out _ HU.out) ?_;rintro e wj ⟨rfl,hb⟩;have HUn:Hid (Wz w wj ao am cap cm q ps):=HU.out.up hb;clear HU;have HU:Hid (Wz w wj ao am cap cm q ps):=HUn.out;clear HUn;clear hb;refine hK.out _ _ HU.out.s (fun zH=>?_);clear hK K;refine wt 14 (.bool true) rfl (fun w' hSw=>by (obtain ⟨s0,s1⟩:=hSw;go_simp)) zH ?_;simp only [pq];refine wt 15 (.bool true) rfl (fun w' hSw=>by (obtain ⟨s0,s1⟩:=hSw;go_simp)) zH ?_;simp only [pq];refine wpAnyH_done (by kernel_rfl) ?_ _;go_wp2_with fail
  go_ret
  exact ⟨rfl,HU.out.x.b⟩
theorem law_early (ao:Option Addr) (cap:Nat) (ps:List Bk) (block:Int) (w:World) (h:PAt w ao ps) (he:Env w) (hB:YtcmlnemokckbdaaGreatDoor.Tb.Bnds w) :
  Calls Tryz.prog 4 #[.agg #[.slice ao ps.length cap],.int .i64 block] w fun e w'=>e=.returned (.bool true)/\Below w.heap.size w w':=by
 cases hg:greatB ps with
 | true=>exact early_wake ao cap ps block w h he hB (Or.inl hg)
 | false=>
  by_cases hn:ckP ps=0/\300<opsN ps
  ·exact early_wake ao cap ps block w h he hB (Or.inr ⟨hg,hn⟩)
  ·exact early_main ao cap ps block w h he hB hg (fun hc=>by omega)
end Go.Proofs.YtcmlnemokckbdaaGreatDoor.L8.El
