/- Parts Je Hp. -/
import Derived.Test.YtcmlnemokckbdaaDoorN24
import Derived.Test.YtcmlnemokckbdaaDoorN10
import Derived.Deep.RegionHeld3
import Derived.BigQuiet
set_option maxRecDepth 20000
set_option maxHeartbeats 8000000
namespace Go.Proofs.YtcmlnemokckbdaaDoor.Dl
open Go.ChangeShapes Go.WideShapes Go.ChangeAt Go.RowKit Go.Great
open YtcmlnemokckbdaaDoor.Op YtcmlnemokckbdaaDoor.So YtcmlnemokckbdaaDoor.Dp YtcmlnemokckbdaaDoor.Ls
open YtcmlnemokckbdaaDoor.Tb (Tab TabAt Bnds)
def tW:Tab:=⟨fun _=>1,fun k=>if k=1 then 3 else if k=2 then 2 else 1,fun _=>1,2⟩
def oW:O:=⟨12,1,2,3,0⟩
def xW (a:Int):Bk:=⟨[oW],1,a,[],0,0⟩
def yW:Bk:=⟨[],3,0,[],0,0⟩
theorem w1_er:erI tW (xW 1) 1 (fun _=>0)=0:=by kernel_rfl
theorem w1_at : atI tW (xW 1) (fun _=>0)=3/\loI tW (xW 1) (fun _=>0)=6:=⟨by kernel_rfl,by kernel_rfl⟩
theorem w2_er:erI tW (xW 2) 1 (fun _=>0)=0:=by kernel_rfl
theorem w2_at : atI tW (xW 2) (fun _=>0)=0/\loI tW (xW 2) (fun _=>0)=3:=⟨by kernel_rfl,by kernel_rfl⟩
theorem w3_er:erI tW (xW 2) 1 (fun _=>-1)=160:=by kernel_rfl
theorem w4_er:erI tW yW 0 (fun _=>0)=0:=by kernel_rfl
theorem w4_at : atI tW yW (fun _=>0) = -1/\loI tW yW (fun _=>0)=0:=⟨by kernel_rfl,by kernel_rfl⟩
theorem oW_ok:∀ o∈[oW],o.Ok:=fun o h=>by
 simp only [List.mem_singleton] at h;subst h;exact ⟨by decide,by decide,by decide,by decide,by decide,by decide,by decide,by decide,by decide,by decide⟩
theorem oW_at {w:World} {b:Nat} (h:At w b #[.int .i8 12,.int .u8 1,.int .u8 2,.int .u8 3,.int .i64 0]):OpsAt w (some ⟨b,0,none⟩) [oW]:=by
 refine ⟨oW_ok,by decide,fun _=>⟨b,0,rfl,h.lt,fun i hi=>?_⟩⟩;have hi:i<1:=hi
 match i,hi with
 | 0,_=>exact ⟨h.c 0 _ rfl,h.c 1 _ rfl,h.c 2 _ rfl,h.c 3 _ rfl,h.c 4 _ rfl⟩
theorem cW_nl {w:World} {b:Nat} {c:Int} (h:At w b #[.int .i64 c]) (hc : -1<=c/\c<=0):Nl w (some ⟨b,0,none⟩) 1 (fun _=>c):=⟨fun _=>⟨b,0,rfl,h.lt,fun k hk=>by
 obtain rfl:k=0:=by omega
 exact h.c 0 _ rfl⟩,fun k hk=>by omega⟩
theorem nlNone (W:World) (g:Nat->Int):Nl W none 0 g:=⟨fun h=>by omega,fun k hk=>by omega⟩
structure Wk (w W:World) (a:Int):Prop where
 t:At W w.heap.size #[.int .i64 1,.int .i64 1,.int .i64 1,.int .i64 1,.int .i64 1,.int .i64 3,.int .i64 2,.int .i64 1,.int .i64 1,.int .i64 1,.int .i64 1,.int .i64 1,.int .i64 2]
 o:At W (w.heap.size+1) #[.int .i8 12,.int .u8 1,.int .u8 2,.int .u8 3,.int .i64 0]
 b:At W (w.heap.size+2) #[.slice (some ⟨w.heap.size+1,0,none⟩) 1 1,.int .i8 1,.int .u8 a,.slice none 0 0,.int .i64 0,.int .i64 0]
 up:Below w.heap.size w W
theorem Wk.next {w W W':World} {a:Int} (h:Wk w W a) (g:Below W.heap.size W W'):Wk w W' a:=⟨h.t.below g h.t.lt,h.o.below g h.o.lt,h.b.below g h.b.lt,h.up.trans (g.mono h.up.size)⟩
theorem Wk.set {w W:World} {a:Int} (h:Wk w W a) (c:Int):Wk w (W.setCell ⟨w.heap.size+2,2,none⟩ (.int .u8 c)) c:=by
 have g:Below (w.heap.size+2) W (W.setCell ⟨w.heap.size+2,2,none⟩ (.int .u8 c)):=(Below.refl (w.heap.size+2) W).setCell (by show w.heap.size+2<=w.heap.size+2;exact Nat.le_refl _) _;exact ⟨h.t.below g (by omega),h.o.below g (by omega),at_set (k:=2) h.b (by simp) _,h.up.trans (g.mono (by omega))⟩
theorem wk_new (w:World):Wk w (((w.alloc (.cells #[.int .i64 1,.int .i64 1,.int .i64 1,.int .i64 1,.int .i64 1,.int .i64 3,.int .i64 2,.int .i64 1,.int .i64 1,.int .i64 1,.int .i64 1,.int .i64 1,.int .i64 2] 28)).alloc (.cells #[.int .i8 12,.int .u8 1,.int .u8 2,.int .u8 3,.int .i64 0] 39)).alloc (.cells #[.slice (some ⟨w.heap.size+1,0,none⟩) 1 1,.int .i8 1,.int .u8 1,.slice none 0 0,.int .i64 0,.int .i64 0] 25)) 1:=by
 have h1:=At.new w #[.int .i64 1,.int .i64 1,.int .i64 1,.int .i64 1,.int .i64 1,.int .i64 3,.int .i64 2,.int .i64 1,.int .i64 1,.int .i64 1,.int .i64 1,.int .i64 1,.int .i64 2] 28;have h2:=At.new (w.alloc (.cells #[.int .i64 1,.int .i64 1,.int .i64 1,.int .i64 1,.int .i64 1,.int .i64 3,.int .i64 2,.int .i64 1,.int .i64 1,.int .i64 1,.int .i64 1,.int .i64 1,.int .i64 2] 28)) #[.int .i8 12,.int .u8 1,.int .u8 2,.int .u8 3,.int .i64 0] 39;have h3:=At.new ((w.alloc (.cells #[.int .i64 1,.int .i64 1,.int .i64 1,.int .i64 1,.int .i64 1,.int .i64 3,.int .i64 2,.int .i64 1,.int .i64 1,.int .i64 1,.int .i64 1,.int .i64 1,.int .i64 2] 28)).alloc (.cells #[.int .i8 12,.int .u8 1,.int .u8 2,.int .u8 3,.int .i64 0] 39)) #[.slice (some ⟨w.heap.size+1,0,none⟩) 1 1,.int .i8 1,.int .u8 1,.slice none 0 0,.int .i64 0,.int .i64 0] 25;rw [show (w.alloc (.cells #[.int .i64 1,.int .i64 1,.int .i64 1,.int .i64 1,.int .i64 1,.int .i64 3,.int .i64 2,.int .i64 1,.int .i64 1,.int .i64 1,.int .i64 1,.int .i64 1,.int .i64 2] 28)).heap.size=w.heap.size+1 by simp] at h2;rw [show ((w.alloc (.cells #[.int .i64 1,.int .i64 1,.int .i64 1,.int .i64 1,.int .i64 1,.int .i64 3,.int .i64 2,.int .i64 1,.int .i64 1,.int .i64 1,.int .i64 1,.int .i64 1,.int .i64 2] 28)).alloc (.cells #[.int .i8 12,.int .u8 1,.int .u8 2,.int .u8 3,.int .i64 0] 39)).heap.size=w.heap.size+2 by simp] at h3;exact ⟨(h1.alloc _).alloc _,h2.alloc _,h3,by go_grown⟩
theorem wakes_any (w:World) (hG:Bnds w):Calls Tryd.prog 4 #[] w fun e w'=>e=.returned (.bool true)/\Below w.heap.size w w':=by
 have HG:Hid (Bnds w):=hG;have HE1:Hid (∀ W cb,Wk w W 1->At W cb #[.int .i64 0]->Calls Tryd.prog 6 #[.agg #[.slice (some ⟨w.heap.size+1,0,none⟩) 1 1,.int .i8 1,.int .u8 1,.slice none 0 0,.int .i64 0,.int .i64 0],.agg #[.int .i64 1,.int .i64 1,.int .i64 1,.int .i64 1,.int .i64 1,.int .i64 3,.int .i64 2,.int .i64 1,.int .i64 1,.int .i64 1,.int .i64 1,.int .i64 1,.int .i64 2],.slice (some ⟨cb,0,none⟩) 1 1] W fun e w'=>e=.returned (.tuple #[.int .i64 3,.int .i64 6,.int .i64 0])/\Below W.heap.size W w'):=fun W cb h hc=>by
  have:=end_any (xW 1) ⟨some ⟨w.heap.size+1,0,none⟩,1,none,0⟩ tW (some ⟨cb,0,none⟩) 1 1 (fun _=>0) W (oW_at h.o) (Nat.le_refl 1) (cW_nl hc (by omega)) (by decide) (HG.out.below h.up HG.out.big) (by decide)
  rw [w1_er,if_pos rfl,if_pos rfl,w1_at.1,w1_at.2] at this;exact this
 have HE2:Hid (∀ W cb,Wk w W 2->At W cb #[.int .i64 0]->Calls Tryd.prog 6 #[.agg #[.slice (some ⟨w.heap.size+1,0,none⟩) 1 1,.int .i8 1,.int .u8 2,.slice none 0 0,.int .i64 0,.int .i64 0],.agg #[.int .i64 1,.int .i64 1,.int .i64 1,.int .i64 1,.int .i64 1,.int .i64 3,.int .i64 2,.int .i64 1,.int .i64 1,.int .i64 1,.int .i64 1,.int .i64 1,.int .i64 2],.slice (some ⟨cb,0,none⟩) 1 1] W fun e w'=>e=.returned (.tuple #[.int .i64 0,.int .i64 3,.int .i64 0])/\Below W.heap.size W w'):=fun W cb h hc=>by
  have:=end_any (xW 2) ⟨some ⟨w.heap.size+1,0,none⟩,1,none,0⟩ tW (some ⟨cb,0,none⟩) 1 1 (fun _=>0) W (oW_at h.o) (Nat.le_refl 1) (cW_nl hc (by omega)) (by decide) (HG.out.below h.up HG.out.big) (by decide)
  rw [w2_er,if_pos rfl,if_pos rfl,w2_at.1,w2_at.2] at this;exact this
 have HE3:Hid (∀ W cb,Wk w W 2->At W cb #[.int .i64 (-1)]->Calls Tryd.prog 6 #[.agg #[.slice (some ⟨w.heap.size+1,0,none⟩) 1 1,.int .i8 1,.int .u8 2,.slice none 0 0,.int .i64 0,.int .i64 0],.agg #[.int .i64 1,.int .i64 1,.int .i64 1,.int .i64 1,.int .i64 1,.int .i64 3,.int .i64 2,.int .i64 1,.int .i64 1,.int .i64 1,.int .i64 1,.int .i64 1,.int .i64 2],.slice (some ⟨cb,0,none⟩) 1 1] W fun e w'=>e=.returned (.tuple #[.int .i64 0,.int .i64 0,.int .i64 160])/\Below W.heap.size W w'):=fun W cb h hc=>by
  have:=end_any (xW 2) ⟨some ⟨w.heap.size+1,0,none⟩,1,none,0⟩ tW (some ⟨cb,0,none⟩) 1 1 (fun _=>-1) W (oW_at h.o) (Nat.le_refl 1) (cW_nl hc (by omega)) (by decide) (HG.out.below h.up HG.out.big) (by decide)
  rw [w3_er,if_neg (by decide),if_neg (by decide)] at this;exact this
 have HE4:Hid (∀ W,Wk w W 2->Calls Tryd.prog 6 #[.agg #[.slice none 0 0,.int .i8 3,.int .u8 0,.slice none 0 0,.int .i64 0,.int .i64 0],.agg #[.int .i64 1,.int .i64 1,.int .i64 1,.int .i64 1,.int .i64 1,.int .i64 3,.int .i64 2,.int .i64 1,.int .i64 1,.int .i64 1,.int .i64 1,.int .i64 1,.int .i64 2],.slice none 0 0] W fun e w'=>e=.returned (.tuple #[.int .i64 (-1),.int .i64 0,.int .i64 0])/\Below W.heap.size W w'):=fun W h=>by
  have:=end_any yW ⟨none,0,none,0⟩ tW none 0 0 (fun _=>0) W (opsAt_none W) (by decide) (nlNone W _) (by decide) (HG.out.below h.up HG.out.big) (by decide)
  rw [w4_er,if_pos rfl,if_pos rfl,w4_at.1,w4_at.2] at this;exact this
 have HS:Hid (Wk w (((w.alloc (.cells #[.int .i64 1,.int .i64 1,.int .i64 1,.int .i64 1,.int .i64 1,.int .i64 3,.int .i64 2,.int .i64 1,.int .i64 1,.int .i64 1,.int .i64 1,.int .i64 1,.int .i64 2] 28)).alloc (.cells #[.int .i8 12,.int .u8 1,.int .u8 2,.int .u8 3,.int .i64 0] 39)).alloc (.cells #[.slice (some ⟨w.heap.size+1,0,none⟩) 1 1,.int .i8 1,.int .u8 1,.slice none 0 0,.int .i64 0,.int .i64 0] 25)) 1):=wk_new w;clear hG HG;go_enter Tryd.func4,Tryd.ntmps4;go_upto_region 3 with fail
 generalize (((w.alloc (.cells #[.int .i64 1,.int .i64 1,.int .i64 1,.int .i64 1,.int .i64 1,.int .i64 3,.int .i64 2,.int .i64 1,.int .i64 1,.int .i64 1,.int .i64 1,.int .i64 1,.int .i64 2] 28)).alloc (.cells #[.int .i8 12,.int .u8 1,.int .u8 2,.int .u8 3,.int .i64 0] 39)).alloc (.cells #[.slice (some ⟨w.heap.size+1,0,none⟩) 1 1,.int .i8 1,.int .u8 1,.slice none 0 0,.int .i64 0,.int .i64 0] 25))=W0 at *;have t0:=HS.out.t.c 0 _ rfl;have t1:=HS.out.t.c 1 _ rfl;have t2:=HS.out.t.c 2 _ rfl;have t3:=HS.out.t.c 3 _ rfl;have t4:=HS.out.t.c 4 _ rfl;have t5:=HS.out.t.c 5 _ rfl;have t6:=HS.out.t.c 6 _ rfl;have t7:=HS.out.t.c 7 _ rfl;have t8:=HS.out.t.c 8 _ rfl;have t9:=HS.out.t.c 9 _ rfl;have t10:=HS.out.t.c 10 _ rfl;have t11:=HS.out.t.c 11 _ rfl;have t12:=HS.out.t.c 12 _ rfl;have tl:=HS.out.t.lt;have b0:=HS.out.b.c 0 _ rfl;have b1:=HS.out.b.c 1 _ rfl;have b2:=HS.out.b.c 2 _ rfl;have b3:=HS.out.b.c 3 _ rfl;have b4:=HS.out.b.c 4 _ rfl;have b5:=HS.out.b.c 5 _ rfl;have bl:=HS.out.b.lt;have HA:Hid (Wk w (W0.alloc (.cells #[.int .i64 0] 3)) 1/\At (W0.alloc (.cells #[.int .i64 0] 3)) W0.heap.size #[.int .i64 0]):=⟨HS.out.next ((Below.refl _ _).alloc (Nat.le_refl _) _),At.new _ _ _⟩;go_upto_region 4 with (first
  | (go_at_call 6;refine Calls.mono (HE1.out _ _ HA.out.1 HA.out.2) ?_;rintro e w1 ⟨rfl,hb1⟩;have HX:Hid (Wk w w1 1):=HA.out.1.next hb1;clear hb1 HS HA HE1 t0 t1 t2 t3 t4 t5 t6 t7 t8 t9 t10 t11 t12 tl b0 b1 b2 b3 b4 b5 bl))
 rename World=>w1;have HX2:Hid (Wk w (w1.setCell ⟨w.heap.size+2,2,none⟩ (.int .u8 2)) 2):=HX.out.set 2;have r1:=HX.out.b.c 2 _ rfl;have r2:=HX.out.b.f 2;have r3:=HX.out.b.lt;go_upto_region 5 with fail
 generalize w1.setCell ⟨w.heap.size+2,2,none⟩ (.int .u8 2)=W1 at *;clear HX r1 r2 r3;have t0:=HX2.out.t.c 0 _ rfl;have t1:=HX2.out.t.c 1 _ rfl;have t2:=HX2.out.t.c 2 _ rfl;have t3:=HX2.out.t.c 3 _ rfl;have t4:=HX2.out.t.c 4 _ rfl;have t5:=HX2.out.t.c 5 _ rfl;have t6:=HX2.out.t.c 6 _ rfl;have t7:=HX2.out.t.c 7 _ rfl;have t8:=HX2.out.t.c 8 _ rfl;have t9:=HX2.out.t.c 9 _ rfl;have t10:=HX2.out.t.c 10 _ rfl;have t11:=HX2.out.t.c 11 _ rfl;have t12:=HX2.out.t.c 12 _ rfl;have tl:=HX2.out.t.lt;have b0:=HX2.out.b.c 0 _ rfl;have b1:=HX2.out.b.c 1 _ rfl;have b2:=HX2.out.b.c 2 _ rfl;have b3:=HX2.out.b.c 3 _ rfl;have b4:=HX2.out.b.c 4 _ rfl;have b5:=HX2.out.b.c 5 _ rfl;have bl:=HX2.out.b.lt;have HA:Hid (Wk w (W1.alloc (.cells #[.int .i64 0] 3)) 2/\At (W1.alloc (.cells #[.int .i64 0] 3)) W1.heap.size #[.int .i64 0]):=⟨HX2.out.next ((Below.refl _ _).alloc (Nat.le_refl _) _),At.new _ _ _⟩;go_upto_region 6 with (first
  | (go_at_call 6;refine Calls.mono (HE2.out _ _ HA.out.1 HA.out.2) ?_;rintro e w2 ⟨rfl,hb1⟩;have HX:Hid (Wk w w2 2):=HA.out.1.next hb1;clear hb1 HX2 HA HE2 t0 t1 t2 t3 t4 t5 t6 t7 t8 t9 t10 t11 t12 tl b0 b1 b2 b3 b4 b5 bl))
 rename World=>w2;have t0:=HX.out.t.c 0 _ rfl;have t1:=HX.out.t.c 1 _ rfl;have t2:=HX.out.t.c 2 _ rfl;have t3:=HX.out.t.c 3 _ rfl;have t4:=HX.out.t.c 4 _ rfl;have t5:=HX.out.t.c 5 _ rfl;have t6:=HX.out.t.c 6 _ rfl;have t7:=HX.out.t.c 7 _ rfl;have t8:=HX.out.t.c 8 _ rfl;have t9:=HX.out.t.c 9 _ rfl;have t10:=HX.out.t.c 10 _ rfl;have t11:=HX.out.t.c 11 _ rfl;have t12:=HX.out.t.c 12 _ rfl;have tl:=HX.out.t.lt;have b0:=HX.out.b.c 0 _ rfl;have b1:=HX.out.b.c 1 _ rfl;have b2:=HX.out.b.c 2 _ rfl;have b3:=HX.out.b.c 3 _ rfl;have b4:=HX.out.b.c 4 _ rfl;have b5:=HX.out.b.c 5 _ rfl;have bl:=HX.out.b.lt;have HA:Hid (Wk w (w2.alloc (.cells #[.int .i64 (-1)] 3)) 2/\At (w2.alloc (.cells #[.int .i64 (-1)] 3)) w2.heap.size #[.int .i64 (-1)]):=⟨HX.out.next ((Below.refl _ _).alloc (Nat.le_refl _) _),At.new _ _ _⟩;go_upto_region 7 with (first
  | (go_at_call 6;refine Calls.mono (HE3.out _ _ HA.out.1 HA.out.2) ?_;rintro e w3 ⟨rfl,hb1⟩;have HY:Hid (Wk w w3 2):=HA.out.1.next hb1;clear hb1 HX HA HE3 t0 t1 t2 t3 t4 t5 t6 t7 t8 t9 t10 t11 t12 tl b0 b1 b2 b3 b4 b5 bl))
 rename World=>w3;have t0:=HY.out.t.c 0 _ rfl;have t1:=HY.out.t.c 1 _ rfl;have t2:=HY.out.t.c 2 _ rfl;have t3:=HY.out.t.c 3 _ rfl;have t4:=HY.out.t.c 4 _ rfl;have t5:=HY.out.t.c 5 _ rfl;have t6:=HY.out.t.c 6 _ rfl;have t7:=HY.out.t.c 7 _ rfl;have t8:=HY.out.t.c 8 _ rfl;have t9:=HY.out.t.c 9 _ rfl;have t10:=HY.out.t.c 10 _ rfl;have t11:=HY.out.t.c 11 _ rfl;have t12:=HY.out.t.c 12 _ rfl;have tl:=HY.out.t.lt;have b0:=HY.out.b.c 0 _ rfl;have b1:=HY.out.b.c 1 _ rfl;have b2:=HY.out.b.c 2 _ rfl;have b3:=HY.out.b.c 3 _ rfl;have b4:=HY.out.b.c 4 _ rfl;have b5:=HY.out.b.c 5 _ rfl;have bl:=HY.out.b.lt;go_wp2_with (first
  | (go_at_call 6;refine Calls.mono (HE4.out _ HY.out) ?_;rintro e w4 ⟨rfl,hb1⟩;have HZ:Hid (Wk w w4 2):=HY.out.next hb1;clear hb1 HY HE4 t0 t1 t2 t3 t4 t5 t6 t7 t8 t9 t10 t11 t12 tl b0 b1 b2 b3 b4 b5 bl))
 go_ret
 exact ⟨rfl,HZ.out.up⟩
end Go.Proofs.YtcmlnemokckbdaaDoor.Dl
namespace Go.Proofs.YtcmlnemokckbdaaDoor.Dp
open Go.ChangeShapes Go.WideShapes Go.ChangeAt Go.RowKit
open YtcmlnemokckbdaaDoor.Op YtcmlnemokckbdaaDoor.So
open YtcmlnemokckbdaaDoor.Tb (Tab TabAt Bnds)
def R3 (W:World) (b:Nat) (x y z:Int):Prop:=b<W.heap.size/\W.cell? ⟨b,0,none⟩=some (.int .i64 x)/\W.cell? ⟨b,1,none⟩=some (.int .i64 y)/\W.cell? ⟨b,2,none⟩=some (.int .i64 z)
theorem R3.up {W W':World} {b:Nat} {x y z:Int} (h:R3 W b x y z) (g:Below W.heap.size W W'):R3 W' b x y z:=
 ⟨Nat.lt_of_lt_of_le h.1 g.size,by rw [(bcell g).1 _ _ h.1];exact h.2.1,by rw [(bcell g).1 _ _ h.1];exact h.2.2.1,by rw [(bcell g).1 _ _ h.1];exact h.2.2.2⟩
end Go.Proofs.YtcmlnemokckbdaaDoor.Dp
