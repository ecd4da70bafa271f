/- Parts RFb RWh. -/
import Derived.Test.YtiejdpjgplikjaaGreatDoorN44
import Derived.Deep.RegionHeld
import Derived.Test.YtiejdpjgplikjaaGreatDoorN00
set_option maxRecDepth 20000
set_option maxHeartbeats 8000000
namespace Go.Proofs.YtiejdpjgplikjaaGreatDoor.R7.Ro
open Go.ChangeShapes Go.WideShapes Go.ChangeAt Go.RowKit
open YtiejdpjgplikjaaGreatDoor.R7.Op YtiejdpjgplikjaaGreatDoor.R7.So
theorem within_one (lo hi x:Int) (b cap:Nat) (w:World) (h:w.cell? ⟨b,0,none⟩=some (.int .i64 x)) (r:Bool) (hr:(decide (lo<=x)&&decide (x<=hi))=r) :
  Calls Tryz.prog 71 #[.int .i64 lo,.int .i64 hi,.slice (some ⟨b,0,none⟩) 1 cap] w fun e w'=>e=.returned (.bool r)/\w'=w:=by
 have:=within_any lo hi (some ⟨b,0,none⟩) 1 cap (fun _=>x) w ⟨w.heap.size,⟨fun _=>⟨b,0,rfl,World.block_lt_of_cell? w _ h,fun k hk=>by rw [show k=0 by omega];exact h⟩⟩⟩ (by omega)
 have e:wiB lo hi 1 (fun _=>x)=r:=by rw [<- hr];unfold wiB;simp
 rw [e] at this;exact this
theorem mayBe_E (a:Option Addr) (n cap:Nat) (E S:Int) (w:World) (hE:(decide (1<=E)&&decide (E<=65536))=false) :
  Calls Tryz.prog 37 #[.agg #[.int .i64 E,.slice a n cap,.int .i64 S]] w fun e w'=>e=.returned (.bool false)/\Below w.heap.size w w':=by
 have HU:Hid (Below w.heap.size w (w.alloc (.cells #[.int .i64 E,.slice a n cap,.int .i64 S] 29))):=(Below.refl _ _).alloc (Nat.le_refl _) _;have HA:Hid (At (w.alloc (.cells #[.int .i64 E,.slice a n cap,.int .i64 S] 29)) w.heap.size #[.int .i64 E,.slice a n cap,.int .i64 S]):=At.new _ _ _;have HE:Hid ((decide (1<=E)&&decide (E<=65536))=false):=hE;clear hE;go_enter Tryz.func37,Tryz.ntmps37;go_wp2_with fail
 generalize w.alloc (.cells #[.int .i64 E,.slice a n cap,.int .i64 S] 29)=V at *;have HC:Hid (∀ W,Below V.heap.size V W->W.cell? ⟨w.heap.size,0,none⟩=some (.int .i64 E)/\W.cell? ⟨w.heap.size,1,none⟩=some (.slice a n cap)/\W.cell? ⟨w.heap.size,2,none⟩=some (.int .i64 S)/\w.heap.size<W.heap.size):=fun W hW=>⟨(HA.out.below hW HA.out.lt).c 0 _ rfl,(HA.out.below hW HA.out.lt).c 1 _ rfl,(HA.out.below hW HA.out.lt).c 2 _ rfl,(HA.out.below hW HA.out.lt).lt⟩;clear HA;refine wp_region_held_drew (S:=fun W=>Below V.heap.size V W) (by kernel_rfl) (drew_up V) (fun zH=>?_);refine wg 0 (.pointer (some ⟨w.heap.size,0,none⟩)) rfl zH ?_;simp only [pq];refine wt 1 (.int .i64 E) rfl (fun w' hSw=>by (have y0:=(HC.out _ hSw).1;have y1:=(HC.out _ hSw).2.1;have y2:=(HC.out _ hSw).2.2.1;have yl:=(HC.out _ hSw).2.2.2;go_simp)) zH ?_;simp only [pq];refine wpAnyH_ready (rs:=[2]) (by kernel_rfl) (by simp) ?_;refine AllReadyH.cons rfl (fun K hK=>?_) AllReadyH.nil;go_simp
 refine hK.out _ _ ((drew_up V).alloc (by simp) _) (fun zH=>?_);clear hK K;refine wpAnyH_ready (rs:=[3]) (by kernel_rfl) (by simp) ?_;refine AllReadyH.cons rfl (fun K hK=>?_) AllReadyH.nil;go_simp
 refine Calls.mono (within_one _ _ _ _ _ _ (by simp) false HE.out) ?_;rintro e1 w1 ⟨rfl,rfl⟩
 skip
 refine hK.out _ _ ((drew_up V).alloc (by simp) _) (fun zH=>?_);clear hK K;refine wg 4 (.bool false) rfl zH ?_;simp only [pq];refine wn 5 rfl zH ?_;simp only [pq];refine wn 6 rfl zH ?_;simp only [pq];refine wn 7 rfl zH ?_;simp only [pq];refine wn 8 rfl zH ?_;simp only [pq];refine wn 9 rfl zH ?_;simp only [pq];refine wg 10 (.bool false) rfl zH ?_;simp only [pq];refine wg 11 (.bool false) rfl zH ?_;simp only [pq];refine wn 12 rfl zH ?_;simp only [pq];refine wn 13 rfl zH ?_;simp only [pq];refine wn 14 rfl zH ?_;simp only [pq];refine wg 15 (.bool false) rfl zH ?_;simp only [pq];refine wg 16 (.bool false) rfl zH ?_;simp only [pq];refine wn 17 rfl zH ?_;simp only [pq];refine wn 18 rfl zH ?_;simp only [pq];refine wn 19 rfl zH ?_;simp only [pq];refine wn 20 rfl zH ?_;simp only [pq];refine wn 21 rfl zH ?_;simp only [pq];refine wg 22 (.bool false) rfl zH ?_;simp only [pq];refine wg 23 (.bool false) rfl zH ?_;simp only [pq];refine wpAnyH_done (by kernel_rfl) ?_ _;clear zH;go_wp2_with fail
 go_ret
 exact ⟨rfl,HU.out.trans (((drew_up V).alloc (by simp) _).mono HU.out.size)⟩
theorem mayBe_L (a:Option Addr) (n cap:Nat) (E S:Int) (w:World) (hE:(decide (1<=E)&&decide (E<=65536))=true) (hL:(decide (0<=(n:Int))&&decide ((n:Int)<=64))=false) :
  Calls Tryz.prog 37 #[.agg #[.int .i64 E,.slice a n cap,.int .i64 S]] w fun e w'=>e=.returned (.bool false)/\Below w.heap.size w w':=by
 have HU:Hid (Below w.heap.size w (w.alloc (.cells #[.int .i64 E,.slice a n cap,.int .i64 S] 29))):=(Below.refl _ _).alloc (Nat.le_refl _) _;have HA:Hid (At (w.alloc (.cells #[.int .i64 E,.slice a n cap,.int .i64 S] 29)) w.heap.size #[.int .i64 E,.slice a n cap,.int .i64 S]):=At.new _ _ _;have HE:Hid ((decide (1<=E)&&decide (E<=65536))=true):=hE;clear hE;have HL:Hid ((decide (0<=(n:Int))&&decide ((n:Int)<=64))=false):=hL;clear hL;go_enter Tryz.func37,Tryz.ntmps37;go_wp2_with fail
 generalize w.alloc (.cells #[.int .i64 E,.slice a n cap,.int .i64 S] 29)=V at *;have HC:Hid (∀ W,Below V.heap.size V W->W.cell? ⟨w.heap.size,0,none⟩=some (.int .i64 E)/\W.cell? ⟨w.heap.size,1,none⟩=some (.slice a n cap)/\W.cell? ⟨w.heap.size,2,none⟩=some (.int .i64 S)/\w.heap.size<W.heap.size):=fun W hW=>⟨(HA.out.below hW HA.out.lt).c 0 _ rfl,(HA.out.below hW HA.out.lt).c 1 _ rfl,(HA.out.below hW HA.out.lt).c 2 _ rfl,(HA.out.below hW HA.out.lt).lt⟩;clear HA;refine wp_region_held_drew (S:=fun W=>Below V.heap.size V W) (by kernel_rfl) (drew_up V) (fun zH=>?_);refine wg 0 (.pointer (some ⟨w.heap.size,0,none⟩)) rfl zH ?_;simp only [pq];refine wt 1 (.int .i64 E) rfl (fun w' hSw=>by (have y0:=(HC.out _ hSw).1;have y1:=(HC.out _ hSw).2.1;have y2:=(HC.out _ hSw).2.2.1;have yl:=(HC.out _ hSw).2.2.2;go_simp)) zH ?_;simp only [pq];refine wpAnyH_ready (rs:=[2]) (by kernel_rfl) (by simp) ?_;refine AllReadyH.cons rfl (fun K hK=>?_) AllReadyH.nil;go_simp
 refine hK.out _ _ ((drew_up V).alloc (by simp) _) (fun zH=>?_);clear hK K;refine wpAnyH_ready (rs:=[3]) (by kernel_rfl) (by simp) ?_;refine AllReadyH.cons rfl (fun K hK=>?_) AllReadyH.nil;go_simp
 refine Calls.mono (within_one _ _ _ _ _ _ (by simp) true HE.out) ?_;rintro e1 w1 ⟨rfl,rfl⟩
 skip
 refine hK.out _ _ ((drew_up V).alloc (by simp) _) (fun zH=>?_);clear hK K;refine wg 4 (.bool true) rfl zH ?_;simp only [pq];refine wg 5 (.pointer (some ⟨w.heap.size,1,none⟩)) rfl zH ?_;simp only [pq];refine wt 6 (.slice a n cap) rfl (fun w' hSw=>by (have y0:=(HC.out _ hSw).1;have y1:=(HC.out _ hSw).2.1;have y2:=(HC.out _ hSw).2.2.1;have yl:=(HC.out _ hSw).2.2.2;go_simp)) zH ?_;simp only [pq];refine wg 7 (.int .i64 (n:Int)) rfl zH ?_;simp only [pq];refine wpAnyH_ready (rs:=[8]) (by kernel_rfl) (by simp) ?_;refine AllReadyH.cons rfl (fun K hK=>?_) AllReadyH.nil;go_simp
 refine hK.out _ _ (((drew_up V).alloc (by simp) _).alloc (by simp) _) (fun zH=>?_);clear hK K;refine wpAnyH_ready (rs:=[9]) (by kernel_rfl) (by simp) ?_;refine AllReadyH.cons rfl (fun K hK=>?_) AllReadyH.nil;go_simp
 refine Calls.mono (within_one _ _ _ _ _ _ (by simp) false HL.out) ?_;rintro e2 w2 ⟨rfl,rfl⟩
 skip
 refine hK.out _ _ (((drew_up V).alloc (by simp) _).alloc (by simp) _) (fun zH=>?_);clear hK K;refine wg 10 (.bool false) rfl zH ?_;simp only [pq];refine wg 11 (.bool false) rfl zH ?_;simp only [pq];refine wn 12 rfl zH ?_;simp only [pq];refine wn 13 rfl zH ?_;simp only [pq];refine wn 14 rfl zH ?_;simp only [pq];refine wg 15 (.bool false) rfl zH ?_;simp only [pq];refine wg 16 (.bool false) rfl zH ?_;simp only [pq];refine wn 17 rfl zH ?_;simp only [pq];refine wn 18 rfl zH ?_;simp only [pq];refine wn 19 rfl zH ?_;simp only [pq];refine wn 20 rfl zH ?_;simp only [pq];refine wn 21 rfl zH ?_;simp only [pq];refine wg 22 (.bool false) rfl zH ?_;simp only [pq];refine wg 23 (.bool false) rfl zH ?_;simp only [pq];refine wpAnyH_done (by kernel_rfl) ?_ _;clear zH;go_wp2_with fail
 go_ret
 exact ⟨rfl,HU.out.trans ((((drew_up V).alloc (by simp) _).alloc (by simp) _).mono HU.out.size)⟩
theorem mayBe_C (a:Option Addr) (n cap:Nat) (g:Nat->Int) (E S:Int) (w:World) (h:Nl w w.heap.size a n g) (hn:n<=64) (hE:(decide (1<=E)&&decide (E<=65536))=true) (hL:(decide (0<=(n:Int))&&decide ((n:Int)<=64))=true) (hW2:wiB 0 65536 n g=false) :
  Calls Tryz.prog 37 #[.agg #[.int .i64 E,.slice a n cap,.int .i64 S]] w fun e w'=>e=.returned (.bool false)/\Below w.heap.size w w':=by
 have HU:Hid (Below w.heap.size w (w.alloc (.cells #[.int .i64 E,.slice a n cap,.int .i64 S] 29))):=(Below.refl _ _).alloc (Nat.le_refl _) _;have HA:Hid (At (w.alloc (.cells #[.int .i64 E,.slice a n cap,.int .i64 S] 29)) w.heap.size #[.int .i64 E,.slice a n cap,.int .i64 S]):=At.new _ _ _;have HE:Hid ((decide (1<=E)&&decide (E<=65536))=true):=hE;clear hE;have HL:Hid ((decide (0<=(n:Int))&&decide ((n:Int)<=64))=true):=hL;clear hL;have HW:Hid (∀ W,Below (w.alloc (.cells #[.int .i64 E,.slice a n cap,.int .i64 S] 29)).heap.size (w.alloc (.cells #[.int .i64 E,.slice a n cap,.int .i64 S] 29)) W->Calls Tryz.prog 71 #[.int .i64 0,.int .i64 65536,.slice a n cap] W fun e w'=>e=.returned (.bool false)/\w'=W):=fun W hW=>by
  rw [<- hW2];exact within_any 0 65536 a n cap g W ⟨_,h.fr (Nat.le_refl _) (Fr.of (X:=Non) (HU.out.trans (hW.mono HU.out.size))) fun _ _ e=>e⟩ (by omega)
 clear h hW2;go_enter Tryz.func37,Tryz.ntmps37;go_wp2_with fail
 generalize w.alloc (.cells #[.int .i64 E,.slice a n cap,.int .i64 S] 29)=V at *;have HC:Hid (∀ W,Below V.heap.size V W->W.cell? ⟨w.heap.size,0,none⟩=some (.int .i64 E)/\W.cell? ⟨w.heap.size,1,none⟩=some (.slice a n cap)/\W.cell? ⟨w.heap.size,2,none⟩=some (.int .i64 S)/\w.heap.size<W.heap.size):=fun W hW=>⟨(HA.out.below hW HA.out.lt).c 0 _ rfl,(HA.out.below hW HA.out.lt).c 1 _ rfl,(HA.out.below hW HA.out.lt).c 2 _ rfl,(HA.out.below hW HA.out.lt).lt⟩;clear HA;refine wp_region_held_drew (S:=fun W=>Below V.heap.size V W) (by kernel_rfl) (drew_up V) (fun zH=>?_);refine wg 0 (.pointer (some ⟨w.heap.size,0,none⟩)) rfl zH ?_;simp only [pq];refine wt 1 (.int .i64 E) rfl (fun w' hSw=>by (have y0:=(HC.out _ hSw).1;have y1:=(HC.out _ hSw).2.1;have y2:=(HC.out _ hSw).2.2.1;have yl:=(HC.out _ hSw).2.2.2;go_simp)) zH ?_;simp only [pq];refine wpAnyH_ready (rs:=[2]) (by kernel_rfl) (by simp) ?_;refine AllReadyH.cons rfl (fun K hK=>?_) AllReadyH.nil;go_simp
 refine hK.out _ _ ((drew_up V).alloc (by simp) _) (fun zH=>?_);clear hK K;refine wpAnyH_ready (rs:=[3]) (by kernel_rfl) (by simp) ?_;refine AllReadyH.cons rfl (fun K hK=>?_) AllReadyH.nil;go_simp
 refine Calls.mono (within_one _ _ _ _ _ _ (by simp) true HE.out) ?_;rintro e1 w1 ⟨rfl,rfl⟩
 skip
 refine hK.out _ _ ((drew_up V).alloc (by simp) _) (fun zH=>?_);clear hK K;refine wg 4 (.bool true) rfl zH ?_;simp only [pq];refine wg 5 (.pointer (some ⟨w.heap.size,1,none⟩)) rfl zH ?_;simp only [pq];refine wt 6 (.slice a n cap) rfl (fun w' hSw=>by (have y0:=(HC.out _ hSw).1;have y1:=(HC.out _ hSw).2.1;have y2:=(HC.out _ hSw).2.2.1;have yl:=(HC.out _ hSw).2.2.2;go_simp)) zH ?_;simp only [pq];refine wg 7 (.int .i64 (n:Int)) rfl zH ?_;simp only [pq];refine wpAnyH_ready (rs:=[8]) (by kernel_rfl) (by simp) ?_;refine AllReadyH.cons rfl (fun K hK=>?_) AllReadyH.nil;go_simp
 refine hK.out _ _ (((drew_up V).alloc (by simp) _).alloc (by simp) _) (fun zH=>?_);clear hK K;refine wpAnyH_ready (rs:=[9]) (by kernel_rfl) (by simp) ?_;refine AllReadyH.cons rfl (fun K hK=>?_) AllReadyH.nil;go_simp
 refine Calls.mono (within_one _ _ _ _ _ _ (by simp) true HL.out) ?_;rintro e2 w2 ⟨rfl,rfl⟩
 skip
 refine hK.out _ _ (((drew_up V).alloc (by simp) _).alloc (by simp) _) (fun zH=>?_);clear hK K;refine wg 10 (.bool true) rfl zH ?_;simp only [pq];refine wg 11 (.bool true) rfl zH ?_;simp only [pq];refine wg 12 (.pointer (some ⟨w.heap.size,1,none⟩)) rfl zH ?_;simp only [pq];refine wt 13 (.slice a n cap) rfl (fun w' hSw=>by (have y0:=(HC.out _ hSw).1;have y1:=(HC.out _ hSw).2.1;have y2:=(HC.out _ hSw).2.2.1;have yl:=(HC.out _ hSw).2.2.2;go_simp)) zH ?_;simp only [pq];refine wpAnyH_ready (rs:=[14]) (by kernel_rfl) (by simp) ?_;refine AllReadyH.cons rfl (fun K hK=>?_) AllReadyH.nil;go_simp
 refine Calls.mono (HW.out _ (((drew_up V).alloc (by simp) _).alloc (by simp) _)) ?_;rintro e3 w3 ⟨rfl,rfl⟩
 skip
 refine hK.out _ _ (((drew_up V).alloc (by simp) _).alloc (by simp) _) (fun zH=>?_);clear hK K;refine wg 15 (.bool false) rfl zH ?_;simp only [pq];refine wg 16 (.bool false) rfl zH ?_;simp only [pq];refine wn 17 rfl zH ?_;simp only [pq];refine wn 18 rfl zH ?_;simp only [pq];refine wn 19 rfl zH ?_;simp only [pq];refine wn 20 rfl zH ?_;simp only [pq];refine wn 21 rfl zH ?_;simp only [pq];refine wg 22 (.bool false) rfl zH ?_;simp only [pq];refine wg 23 (.bool false) rfl zH ?_;simp only [pq];refine wpAnyH_done (by kernel_rfl) ?_ _;clear zH;go_wp2_with fail
 go_ret
 exact ⟨rfl,HU.out.trans ((((drew_up V).alloc (by simp) _).alloc (by simp) _).mono HU.out.size)⟩
theorem mayBe_S (a:Option Addr) (n cap:Nat) (g:Nat->Int) (E S:Int) (w:World) (h:Nl w w.heap.size a n g) (hn:n<=64) (hE:(decide (1<=E)&&decide (E<=65536))=true) (hL:(decide (0<=(n:Int))&&decide ((n:Int)<=64))=true) (hW2:wiB 0 65536 n g=true) (hE1:1<=E) (hE2:E<=65536) (st:Int) (hst:stg n g E=st) :
  Calls Tryz.prog 37 #[.agg #[.int .i64 E,.slice a n cap,.int .i64 S]] w fun e w'=>e=.returned (.bool (S==st))/\Below w.heap.size w w':=by
 have HU:Hid (Below w.heap.size w (w.alloc (.cells #[.int .i64 E,.slice a n cap,.int .i64 S] 29))):=(Below.refl _ _).alloc (Nat.le_refl _) _;have HA:Hid (At (w.alloc (.cells #[.int .i64 E,.slice a n cap,.int .i64 S] 29)) w.heap.size #[.int .i64 E,.slice a n cap,.int .i64 S]):=At.new _ _ _;have HE:Hid ((decide (1<=E)&&decide (E<=65536))=true):=hE;clear hE;have HL:Hid ((decide (0<=(n:Int))&&decide ((n:Int)<=64))=true):=hL;clear hL;have HW:Hid (∀ W,Below (w.alloc (.cells #[.int .i64 E,.slice a n cap,.int .i64 S] 29)).heap.size (w.alloc (.cells #[.int .i64 E,.slice a n cap,.int .i64 S] 29)) W->Calls Tryz.prog 71 #[.int .i64 0,.int .i64 65536,.slice a n cap] W fun e w'=>e=.returned (.bool true)/\w'=W):=fun W hW=>by
  rw [<- hW2];exact within_any 0 65536 a n cap g W ⟨_,h.fr (Nat.le_refl _) (Fr.of (X:=Non) (HU.out.trans (hW.mono HU.out.size))) fun _ _ e=>e⟩ (by omega)
 have HS:Hid (∀ W,Below (w.alloc (.cells #[.int .i64 E,.slice a n cap,.int .i64 S] 29)).heap.size (w.alloc (.cells #[.int .i64 E,.slice a n cap,.int .i64 S] 29)) W->Calls Tryz.prog 72 #[.agg #[.int .i64 E,.slice a n cap,.int .i64 S]] W fun e w'=>e=.returned (.int .i64 st)/\Below W.heap.size W w'):=fun W hW=>by
  rw [<- hst];exact stages_any a n cap g E S W ⟨fun h0=>by
   obtain ⟨b,f,e,hb,hx⟩:=h.is h0;have hU:=HU.out.trans (hW.mono HU.out.size);exact ⟨b,f,e,Nat.lt_of_lt_of_le hb hU.size,fun k hk=>by rw [(bcell hU).1 _ _ hb];exact hx k hk⟩⟩ (by omega) (wiB_all hW2) hE1 hE2
 clear h hW2 hE1 hE2 hst;go_enter Tryz.func37,Tryz.ntmps37;go_wp2_with fail
 generalize w.alloc (.cells #[.int .i64 E,.slice a n cap,.int .i64 S] 29)=V at *;have HC:Hid (∀ W,Below V.heap.size V W->W.cell? ⟨w.heap.size,0,none⟩=some (.int .i64 E)/\W.cell? ⟨w.heap.size,1,none⟩=some (.slice a n cap)/\W.cell? ⟨w.heap.size,2,none⟩=some (.int .i64 S)/\w.heap.size<W.heap.size):=fun W hW=>⟨(HA.out.below hW HA.out.lt).c 0 _ rfl,(HA.out.below hW HA.out.lt).c 1 _ rfl,(HA.out.below hW HA.out.lt).c 2 _ rfl,(HA.out.below hW HA.out.lt).lt⟩;clear HA;refine wp_region_held_drew (S:=fun W=>Below V.heap.size V W) (by kernel_rfl) (drew_up V) (fun zH=>?_);refine wg 0 (.pointer (some ⟨w.heap.size,0,none⟩)) rfl zH ?_;simp only [pq];refine wt 1 (.int .i64 E) rfl (fun w' hSw=>by (have y0:=(HC.out _ hSw).1;have y1:=(HC.out _ hSw).2.1;have y2:=(HC.out _ hSw).2.2.1;have yl:=(HC.out _ hSw).2.2.2;go_simp)) zH ?_;simp only [pq];refine wpAnyH_ready (rs:=[2]) (by kernel_rfl) (by simp) ?_;refine AllReadyH.cons rfl (fun K hK=>?_) AllReadyH.nil;go_simp
 refine hK.out _ _ ((drew_up V).alloc (by simp) _) (fun zH=>?_);clear hK K;refine wpAnyH_ready (rs:=[3]) (by kernel_rfl) (by simp) ?_;refine AllReadyH.cons rfl (fun K hK=>?_) AllReadyH.nil;go_simp
 refine Calls.mono (within_one _ _ _ _ _ _ (by simp) true HE.out) ?_;rintro e1 w1 ⟨rfl,rfl⟩
 skip
 refine hK.out _ _ ((drew_up V).alloc (by simp) _) (fun zH=>?_);clear hK K;refine wg 4 (.bool true) rfl zH ?_;simp only [pq];refine wg 5 (.pointer (some ⟨w.heap.size,1,none⟩)) rfl zH ?_;simp only [pq];refine wt 6 (.slice a n cap) rfl (fun w' hSw=>by (have y0:=(HC.out _ hSw).1;have y1:=(HC.out _ hSw).2.1;have y2:=(HC.out _ hSw).2.2.1;have yl:=(HC.out _ hSw).2.2.2;go_simp)) zH ?_;simp only [pq];refine wg 7 (.int .i64 (n:Int)) rfl zH ?_;simp only [pq];refine wpAnyH_ready (rs:=[8]) (by kernel_rfl) (by simp) ?_;refine AllReadyH.cons rfl (fun K hK=>?_) AllReadyH.nil;go_simp
 refine hK.out _ _ (((drew_up V).alloc (by simp) _).alloc (by simp) _) (fun zH=>?_);clear hK K;refine wpAnyH_ready (rs:=[9]) (by kernel_rfl) (by simp) ?_;refine AllReadyH.cons rfl (fun K hK=>?_) AllReadyH.nil;go_simp
 refine Calls.mono (within_one _ _ _ _ _ _ (by simp) true HL.out) ?_;rintro e2 w2 ⟨rfl,rfl⟩
 skip
 refine hK.out _ _ (((drew_up V).alloc (by simp) _).alloc (by simp) _) (fun zH=>?_);clear hK K;refine wg 10 (.bool true) rfl zH ?_;simp only [pq];refine wg 11 (.bool true) rfl zH ?_;simp only [pq];refine wg 12 (.pointer (some ⟨w.heap.size,1,none⟩)) rfl zH ?_;simp only [pq];refine wt 13 (.slice a n cap) rfl (fun w' hSw=>by (have y0:=(HC.out _ hSw).1;have y1:=(HC.out _ hSw).2.1;have y2:=(HC.out _ hSw).2.2.1;have yl:=(HC.out _ hSw).2.2.2;go_simp)) zH ?_;simp only [pq];refine wpAnyH_ready (rs:=[14]) (by kernel_rfl) (by simp) ?_;refine AllReadyH.cons rfl (fun K hK=>?_) AllReadyH.nil;go_simp
 refine Calls.mono (HW.out _ (((drew_up V).alloc (by simp) _).alloc (by simp) _)) ?_;rintro e3 w3 ⟨rfl,rfl⟩
 skip
 refine hK.out _ _ (((drew_up V).alloc (by simp) _).alloc (by simp) _) (fun zH=>?_);clear hK K;refine wg 15 (.bool true) rfl zH ?_;simp only [pq];refine wg 16 (.bool true) rfl zH ?_;simp only [pq];refine wg 17 (.pointer (some ⟨w.heap.size,2,none⟩)) rfl zH ?_;simp only [pq];refine wt 18 (.int .i64 S) rfl (fun w' hSw=>by (have y0:=(HC.out _ hSw).1;have y1:=(HC.out _ hSw).2.1;have y2:=(HC.out _ hSw).2.2.1;have yl:=(HC.out _ hSw).2.2.2;go_simp)) zH ?_;simp only [pq];refine wt 19 (.agg #[.int .i64 E,.slice a n cap,.int .i64 S]) rfl (fun w' hSw=>by (have y0:=(HC.out _ hSw).1;have y1:=(HC.out _ hSw).2.1;have y2:=(HC.out _ hSw).2.2.1;have yl:=(HC.out _ hSw).2.2.2;go_simp)) zH ?_;simp only [pq];refine wpAnyH_ready (rs:=[20]) (by kernel_rfl) (by simp) ?_;refine AllReadyH.cons rfl (fun K hK=>?_) AllReadyH.nil;go_simp
 refine Calls.mono (HS.out _ (((drew_up V).alloc (by simp) _).alloc (by simp) _)) ?_;rintro e4 w4 ⟨rfl,hb4⟩;have HB4:Hid (Below V.heap.size V w4):=(((drew_up V).alloc (by simp) _).alloc (by simp) _).trans (hb4.mono (by simp;omega));refine hK.out _ _ HB4.out (fun zH=>?_);clear hK K;refine wg 21 (.bool (S==st)) rfl zH ?_;simp only [pq];refine wg 22 (.bool (S==st)) rfl zH ?_;simp only [pq];refine wg 23 (.bool (S==st)) rfl zH ?_;simp only [pq];refine wpAnyH_done (by kernel_rfl) ?_ _;clear zH;go_wp2_with fail
 go_ret
 exact ⟨rfl,HU.out.trans (HB4.out.mono HU.out.size)⟩
theorem mayBe_any (a:Option Addr) (n cap:Nat) (g:Nat->Int) (E S:Int) (w:World) (h:Nl w w.heap.size a n g) :
  Calls Tryz.prog 37 #[.agg #[.int .i64 E,.slice a n cap,.int .i64 S]] w fun e w'=>e=.returned (.bool (frB n E S g))/\Below w.heap.size w w':=by
 have hl:(decide (0<=(n:Int))&&decide ((n:Int)<=64))=decide (n<=64):=by
  by_cases h:n<=64
  ·rw [decide_eq_true h,decide_eq_true (by omega),decide_eq_true (by omega)];rfl
  ·rw [decide_eq_false h,decide_eq_false (show ¬ (n:Int)<=64 by omega),Bool.and_false]
 unfold frB
 cases hE:(decide (1<=E)&&decide (E<=65536))
 ·exact mayBe_E a n cap E S w hE
 ·cases hL:decide (n<=64)
  ·rw [Bool.true_and,Bool.false_and,Bool.false_and];exact mayBe_L a n cap E S w hE (hl.trans hL)
  ·have hn:=of_decide_eq_true hL
   cases hW:wiB 0 65536 n g
   ·rw [Bool.true_and,Bool.true_and,Bool.false_and];exact mayBe_C a n cap g E S w h hn hE (hl.trans hL) hW
   ·have e:(true&&true&&true&&decide (S=stg n g E))=(S==stg n g E):=by
     rfl
    rw [e];simp only [Bool.and_eq_true,decide_eq_true_eq] at hE;exact mayBe_S a n cap g E S w h hn (by rw [decide_eq_true hE.1,decide_eq_true hE.2];rfl) (hl.trans hL) hW hE.1 hE.2 _ rfl
end Go.Proofs.YtiejdpjgplikjaaGreatDoor.R7.Ro
namespace Go.Proofs.YtiejdpjgplikjaaGreatDoor.R7.Ro
open Go.ChangeShapes Go.WideShapes Go.ChangeAt Go.RowKit
open YtiejdpjgplikjaaGreatDoor.R7.Op YtiejdpjgplikjaaGreatDoor.R7.So
open YtiejdpjgplikjaaGreatDoor.R7.Sp (Pr)
theorem Nl.up {W W':World} {a:Option Addr} {n:Nat} {g:Nat->Int} (h:Nl W W.heap.size a n g) (hb:Below W.heap.size W W'):Nl W' W'.heap.size a n g:=⟨fun h0=>by
 obtain ⟨b,f,e,z,hx⟩:=h.is h0;exact ⟨b,f,e,Nat.lt_of_lt_of_le z hb.size,fun k hk=>by rw [(bcell hb).1 _ _ z];exact hx k hk⟩⟩
def whE (L:Nat) (E S:Int) (cy:Nat->Int) (n:Int):Int:=if frB L E S cy=true/\0<=n then (if (n+S)*E<=65536 then 0 else 3) else 2
def whN (L:Nat) (E S:Int) (cy:Nat->Int) (n:Int):Nat:=if whE L E S cy n=0/\0<n then ((n-1+S)*E).toNat else 0
def WhOut (w:World) (L:Nat) (E S:Int) (cy:Nat->Int) (n:Int) (r:Ending) (w':World):Prop:=
 ∃ v,r=.returned (.tuple #[v,.int .i64 (whE L E S cy n)])/\Below w.heap.size w w'/\Rd w' v (whN L E S cy n) (rowP E cy (evR L n.toNat))
theorem whE_2 {L:Nat} {E S:Int} {cy:Nat->Int} {n:Int} (h:¬ (frB L E S cy=true/\0<=n)):whE L E S cy n=2/\whN L E S cy n=0:=by
 have e:whE L E S cy n=2:=if_neg h;refine ⟨e,if_neg ?_⟩;rw [e];omega
theorem whE_3 {L:Nat} {E S:Int} {cy:Nat->Int} {n:Int} (h:frB L E S cy=true/\0<=n) (h2:¬ (n+S)*E<=65536):whE L E S cy n=3/\whN L E S cy n=0:=by
 have e:whE L E S cy n=3:=(if_pos h).trans (if_neg h2);refine ⟨e,if_neg ?_⟩;rw [e];omega
theorem whE_0 {L:Nat} {E S:Int} {cy:Nat->Int} {n:Int} (h:frB L E S cy=true/\0<=n) (h2:(n+S)*E<=65536):whE L E S cy n=0:=(if_pos h).trans (if_pos h2)
theorem whN_0 {L:Nat} {E S:Int} {cy:Nat->Int} {n:Int} (h:n=0):whN L E S cy n=0:=if_neg (by omega)
theorem whN_some {L:Nat} {E S:Int} {cy:Nat->Int} {n:Int} (h:whE L E S cy n=0) (h2:0<n) (hs:1<=S) (hE:1<=E):((whN L E S cy n:Nat):Int)=(n-1+S)*E:=by
 have e:whN L E S cy n=((n-1+S)*E).toNat:=if_pos ⟨h,h2⟩;rw [e,Int.toNat_of_nonneg (Int.mul_nonneg (by omega) (by omega))]
theorem long_iff {E S n:Int} (hE:1<=E):n<=65536 / E-S↔(n+S)*E<=65536:=by
 rw [<- Int.le_ediv_iff_mul_le (show 0<E by omega)];omega
theorem wh_rows {w:World} {L:Nat} {E S:Int} {cy:Nat->Int} {n:Int} {f:FuncId} {args:Array Value} (hf:frB L E S cy=true) (hn:0<=n) (hl:(n+S)*E<=65536)
  (h0:n=0->Calls Tryz.prog f args w fun e w'=>e=.returned (.slice none 0 0)/\Below w.heap.size w w')
  (h1:∀ N:Nat,0<n->n<=65536->(N:Int)=(n-1+S)*E->N<=65536->Calls Tryz.prog f args w fun e w'=>∃ v,e=.returned v/\Below w.heap.size w w'/\Rd w' v N (rowP E cy (evR L n.toNat))) :
  Calls Tryz.prog f args w fun e w'=>∃ v,e=.returned v/\Below w.heap.size w w'/\Rd w' v (whN L E S cy n) (rowP E cy (evR L n.toNat)):=by
 have hF:=frB_fair hf;have e0:=whE_0 ⟨hf,hn⟩ hl
 by_cases h:n=0
 ·rw [whN_0 h];exact (h0 h).mono fun e w' g=>⟨_,g.1,g.2,Rd.nil _ _⟩
 ·have hN:=whN_some e0 (by omega) hF.s1 hF.e1;have hs:=hF.s1;have he:=hF.e1;have h3:(n+S)*1<=(n+S)*E:=Int.mul_le_mul_of_nonneg_left he (by omega);have h4:(n-1+S)*E<=(n+S)*E:=Int.mul_le_mul_of_nonneg_right (by omega) (by omega);exact h1 _ (by omega) (by omega) hN (by omega)
theorem whole_any (E S:Int) (pa:Option Addr) (L pc:Nat) (cy:Nat->Int) (n:Int) (w:World) (hA:Nl w w.heap.size pa L cy) (hn1 : -9223372036854775808<=n) (hn2:n<=9223372036854775807) :
  Calls Tryz.prog 14 #[.agg #[.int .i64 E,.slice pa L pc,.int .i64 S],.int .i64 n] w (WhOut w L E S cy n):=by
 have HU:Hid (Below w.heap.size w (w.alloc (.cells #[.int .i64 E,.slice pa L pc,.int .i64 S] 29))):=(Below.refl _ _).alloc (Nat.le_refl _) _;have HB:Hid (At (w.alloc (.cells #[.int .i64 E,.slice pa L pc,.int .i64 S] 29)) w.heap.size #[.int .i64 E,.slice pa L pc,.int .i64 S]):=At.new _ _ _;have HM:Hid (∀ W,Below w.heap.size w W->Calls Tryz.prog 37 #[.agg #[.int .i64 E,.slice pa L pc,.int .i64 S]] W fun e w'=>e=.returned (.bool (frB L E S cy))/\Below W.heap.size W w'):=fun W hW=>mayBe_any pa L pc cy E S W (hA.up hW);unfold WhOut
 by_cases hf:frB L E S cy=true/\0<=n
 ·obtain ⟨hf1,hf2⟩:=hf;have hF:=frB_fair hf1;have e1:=hF.e1;have e2:=hF.e2;have s1:=hF.s1;have s2:=hF.s2;have d0:0<=(65536:Int) / E:=Int.ediv_nonneg (by omega) (by omega);have d1:(65536:Int) / E<=65536:=Int.ediv_le_self _ (by omega);have d3:¬ E=0:=by omega
  by_cases hl:¬ (n+S)*E<=65536
  ·obtain ⟨x1,x2⟩:=whE_3 ⟨hf1,hf2⟩ hl;have HR:Hid (whE L E S cy n=3/\whN L E S cy n=0):=⟨x1,x2⟩;have hq:65536 / E-S<n:=by
    have:=long_iff (E:=E) (S:=S) (n:=n) e1
    omega
   generalize hdq:(65536:Int) / E=q at *;have hqq:decide (n>q-S)=true:=decide_eq_true (by omega);clear hA hF hl;go_enter Tryz.func14,Tryz.ntmps14;go_wp2_with (first|(go_at_call 37;refine Calls.mono (HM.out _ HU.out) ?_;rintro e w1 ⟨rfl,hb⟩;rw [hf1];have HX:Hid (Below w.heap.size w w1/\At w1 w.heap.size #[.int .i64 E,.slice pa L pc,.int .i64 S]):=⟨HU.out.trans (hb.mono HU.out.size),HB.out.below hb HB.out.lt⟩;have c0:w1.cell? ⟨w.heap.size,0,none⟩=some (.int .i64 E):=HX.out.2.c 0 _ rfl;have c1:w1.cell? ⟨w.heap.size,1,none⟩=some (.slice pa L pc):=HX.out.2.c 1 _ rfl;have c2:w1.cell? ⟨w.heap.size,2,none⟩=some (.int .i64 S):=HX.out.2.c 2 _ rfl;have cl:=HX.out.2.lt;clear hb HM HU HB))
   go_quiet (fail)
   have HX2:Hid (Below w.heap.size w (w1.drewN nq)/\At (w1.drewN nq) w.heap.size #[.int .i64 E,.slice pa L pc,.int .i64 S]):=⟨HX.out.1.trans ⟨rfl,rfl,rfl,Nat.le_refl _,fun _ _=>rfl⟩,HX.out.2.c,HX.out.2.f,HX.out.2.lt⟩;clear HX c0 c1 c2 cl;generalize w1.drewN nq=w3 at *;have c0:w3.cell? ⟨w.heap.size,0,none⟩=some (.int .i64 E):=HX2.out.2.c 0 _ rfl;have c1:w3.cell? ⟨w.heap.size,1,none⟩=some (.slice pa L pc):=HX2.out.2.c 1 _ rfl;have c2:w3.cell? ⟨w.heap.size,2,none⟩=some (.int .i64 S):=HX2.out.2.c 2 _ rfl;have cl:=HX2.out.2.lt;go_wp2_with fail
   go_ret2
   exact ⟨_,by rw [HR.out.1];rfl,HX2.out.1,by rw [HR.out.2];exact Rd.nil _ _⟩
  ·have hl:(n+S)*E<=65536:=Classical.not_not.1 hl;have HR:Hid (whE L E S cy n=0):=whE_0 ⟨hf1,hf2⟩ hl;have HY:Hid (∀ W,Below w.heap.size w W->Calls Tryz.prog 38 #[.agg #[.int .i64 E,.slice pa L pc,.int .i64 S],.int .i64 n] W fun e w'=>∃ v,e=.returned v/\Below W.heap.size W w'/\Rd w' v (whN L E S cy n) (rowP E cy (evR L n.toNat))):=fun W hW=>wh_rows hf1 hf2 hl (fun h=>by rw [h];exact rowsOf_none E S pa L pc W) fun N h1 h2 h3 h4=>by
    have h:=rowsOf_some E S pa L pc cy n.toNat N W (hA.up hW) hF (by omega) (by omega) (by rw [Int.toNat_of_nonneg hf2];exact h3) h4;rw [Int.toNat_of_nonneg hf2] at h;exact h
   have hq:¬ 65536 / E-S<n:=by
    have:=long_iff (E:=E) (S:=S) (n:=n) e1
    omega
   generalize hdq:(65536:Int) / E=q at *;have hqq:decide (n>q-S)=false:=decide_eq_false (by omega);clear hA hF hl;go_enter Tryz.func14,Tryz.ntmps14;go_wp2_with (first|(go_at_call 37;refine Calls.mono (HM.out _ HU.out) ?_;rintro e w1 ⟨rfl,hb⟩;rw [hf1];have HX:Hid (Below w.heap.size w w1/\At w1 w.heap.size #[.int .i64 E,.slice pa L pc,.int .i64 S]):=⟨HU.out.trans (hb.mono HU.out.size),HB.out.below hb HB.out.lt⟩;have c0:w1.cell? ⟨w.heap.size,0,none⟩=some (.int .i64 E):=HX.out.2.c 0 _ rfl;have c1:w1.cell? ⟨w.heap.size,1,none⟩=some (.slice pa L pc):=HX.out.2.c 1 _ rfl;have c2:w1.cell? ⟨w.heap.size,2,none⟩=some (.int .i64 S):=HX.out.2.c 2 _ rfl;have cl:=HX.out.2.lt;clear hb HM HU HB))
   go_quiet (fail)
   have HX2:Hid (Below w.heap.size w (w1.drewN nq)/\At (w1.drewN nq) w.heap.size #[.int .i64 E,.slice pa L pc,.int .i64 S]):=⟨HX.out.1.trans ⟨rfl,rfl,rfl,Nat.le_refl _,fun _ _=>rfl⟩,HX.out.2.c,HX.out.2.f,HX.out.2.lt⟩;clear HX c0 c1 c2 cl;generalize w1.drewN nq=w3 at *;have c0:w3.cell? ⟨w.heap.size,0,none⟩=some (.int .i64 E):=HX2.out.2.c 0 _ rfl;have c1:w3.cell? ⟨w.heap.size,1,none⟩=some (.slice pa L pc):=HX2.out.2.c 1 _ rfl;have c2:w3.cell? ⟨w.heap.size,2,none⟩=some (.int .i64 S):=HX2.out.2.c 2 _ rfl;have cl:=HX2.out.2.lt;go_wp2_with (first|(go_at_call 38;refine Calls.mono (HY.out _ HX2.out.1) ?_;rintro e w4 ⟨v,rfl,hb,hr⟩;have HZ:Hid (Below w.heap.size w w4/\Rd w4 v (whN L E S cy n) (rowP E cy (evR L n.toNat))):=⟨HX2.out.1.trans (hb.mono HX2.out.1.size),hr⟩;clear hb hr))
   go_ret2
   exact ⟨_,by rw [HR.out];rfl,HZ.out.1,HZ.out.2⟩
 ·obtain ⟨x1,x2⟩:=whE_2 hf;have HR:Hid (whE L E S cy n=2/\whN L E S cy n=0):=⟨x1,x2⟩
  by_cases hfb:frB L E S cy=true
  ·have hn0:n<0:=by
    by_cases h:0<=n
    ·exact absurd ⟨hfb,h⟩ hf
    ·omega
   have hn3:decide (n<0)=true:=decide_eq_true hn0;clear hA x1 x2 hf;go_enter Tryz.func14,Tryz.ntmps14;go_wp2_with (first|(go_at_call 37;refine Calls.mono (HM.out _ HU.out) ?_;rintro e w1 ⟨rfl,hb⟩;rw [hfb];have HX:Hid (Below w.heap.size w w1/\At w1 w.heap.size #[.int .i64 E,.slice pa L pc,.int .i64 S]):=⟨HU.out.trans (hb.mono HU.out.size),HB.out.below hb HB.out.lt⟩;clear hb HM HU HB))
   go_ret2
   exact ⟨_,by rw [HR.out.1];rfl,HX.out.1,by rw [HR.out.2];exact Rd.nil _ _⟩
  ·have hfb:frB L E S cy=false:=by simpa using hfb
   clear hA x1 x2 hf;go_enter Tryz.func14,Tryz.ntmps14;go_wp2_with (first|(go_at_call 37;refine Calls.mono (HM.out _ HU.out) ?_;rintro e w1 ⟨rfl,hb⟩;rw [hfb];have HX:Hid (Below w.heap.size w w1/\At w1 w.heap.size #[.int .i64 E,.slice pa L pc,.int .i64 S]):=⟨HU.out.trans (hb.mono HU.out.size),HB.out.below hb HB.out.lt⟩;clear hb HM HU HB))
   go_ret2
   exact ⟨_,by rw [HR.out.1];rfl,HX.out.1,by rw [HR.out.2];exact Rd.nil _ _⟩
end Go.Proofs.YtiejdpjgplikjaaGreatDoor.R7.Ro
