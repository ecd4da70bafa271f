/- Parts Tb. -/
import Derived.Test.YtiejdpjgplikjaaGreatDoorN37
import Derived.Test.YtiejdpjgplikjaaGreatDoorN39
import Derived.Test.YtiejdpjgplikjaaGreatDoorN36
set_option maxRecDepth 20000
set_option maxHeartbeats 16000000
namespace Go.Proofs.YtiejdpjgplikjaaGreatDoor.Tp
open Go.ChangeShapes Go.WideShapes Go.ChangeAt Go.RowKit
open YtiejdpjgplikjaaGreatDoor.Op YtiejdpjgplikjaaGreatDoor.So YtiejdpjgplikjaaGreatDoor.Dp YtiejdpjgplikjaaGreatDoor.Bn
open YtiejdpjgplikjaaGreatDoor.Ls (clN clN_at clN_lt Nl arC arC_all arC_yes arC_no areCycles_any)
open YtiejdpjgplikjaaGreatDoor.Tb (Tab TabAt Bnds)
open YtiejdpjgplikjaaGreatDoor.Mo
open YtiejdpjgplikjaaGreatDoor.Ls (cyL cyL_is sysL sysL_ok ordC lis_parts hvU)
open YtiejdpjgplikjaaGreatDoor.ListWay (way placed sch_is okB)
theorem few_any (n:Int) (w:World) (h0 : -9223372036854775808<=n) (h1:n<=9223372036854775807):Calls Tryz.prog 13 #[.int .i64 n,.int .i64 12] w fun e w'=>∃ m:Nat,m<=12/\e=.returned (.int .i64 m)/\Below w.heap.size w w':=by
 by_cases h:12<n
 ·go_enter Tryz.func13,Tryz.ntmps13;go_wp2_with fail
  go_ret
  refine ⟨n.toNat % 12,by omega,?_,Below.refl _ _⟩
  first
   | exact congrArg (fun z=>Ending.returned (Value.int .i64 z)) (show n%12=((n.toNat % 12:Nat):Int) by omega)
   | exact congrArg (fun z=>Ending.returned (Value.int .i64 z)) (show max n 0%12=((n.toNat % 12:Nat):Int) by omega)
 ·go_enter Tryz.func13,Tryz.ntmps13;go_wp2_with fail
  go_ret
  refine ⟨n.toNat,by omega,?_,Below.refl _ _⟩
  first
   | rfl
   | exact congrArg (fun z=>Ending.returned (Value.int .i64 z)) (show max n 0=(n.toNat : Int) by omega)
def tO:Tab:=⟨fun _=>1,fun k=>if k=2 then 4 else 1,fun _=>1,0⟩
theorem xO_rg:rgE tO xB=0:=by kernel_rfl
theorem xO_lis:lisE tO xB=0:=by kernel_rfl
theorem xO_of:ofE tO xB=[⟨0,1,4,0,0⟩]:=by kernel_rfl
theorem xO_hv:hvU tO xB=true:=by kernel_rfl
theorem xO_ord:ordC (hts (latN tO xB) [⟨0,1,4,0,0⟩]) 2=[0,1]:=by kernel_rfl
abbrev sO:ListWay.Sys:=sysL tO xB [⟨0,1,4,0,0⟩]
abbrev cO2:Nat->Int:=ListWay.upd cB1 1 4
theorem wO:way sO [0,1] 6=(cO2,4):=by
 have w1:way sO [0,1] 1=(cB1,0):=stp_yes (by decide) (by kernel_rfl);have w2:way sO [0,1] 2=(cB1,1):=by show ListWay.stp _ _ (way sO [0,1] 1)=_;rw [w1];exact stp_no (by decide) (by kernel_rfl)
 have w3:way sO [0,1] 3=(cB1,2):=by show ListWay.stp _ _ (way sO [0,1] 2)=_;rw [w2];exact stp_no (by decide) (by kernel_rfl)
 have w4:way sO [0,1] 4=(cB1,3):=by show ListWay.stp _ _ (way sO [0,1] 3)=_;rw [w3];exact stp_no (by decide) (by kernel_rfl)
 have w5:way sO [0,1] 5=(cB1,4):=by show ListWay.stp _ _ (way sO [0,1] 4)=_;rw [w4];exact stp_no (by decide) (by kernel_rfl)
 show ListWay.stp _ _ (way sO [0,1] 5)=_;rw [w5];exact stp_yes (by decide) (by kernel_rfl)
theorem cO_is:cyL tO xB=cO2:=by
 have ho:∀ i,i∈([0,1]:List Nat)↔i<sO.n:=fun i=>by
  show i∈([0,1]:List Nat)↔i<2;simp
  omega
 have hE:EOk xB.length [⟨0,1,4,0,0⟩]:=by
  have:=(lis_parts xB_ok xO_lis).1
  rw [xO_of] at this;exact this
 unfold cyL;rw [xO_of];have h3:xB.length=2:=rfl;rw [h3,xO_ord];have hp:placed sO (way sO [0,1] 6).1=sO.n:=by rw [wO];decide
 have:=sch_is (sysL_ok (lis_all xO_lis).1 xO_hv hE) ho hp
 rw [wO] at this;exact this.symm
theorem drO:drn tO xB (cyL tO xB) xB.length=5:=by
 rw [cO_is]
 kernel_rfl
theorem fdO {w:World} {b:Nat} (h:At w b xBC):mcB tO xB 2 (fdP tO xB).2 (fdP tO xB).1 (stg 2 (fdP tO xB).2 (fdP tO xB).1)=true/\1<=(fdP tO xB).1/\(fdP tO xB).1<=5:=by
 have h1:=fdP_ok (xB_at h) xO_rg;rw [drO] at h1;have h2:=(mc_parts h1.1).2.1;have e:tO.d=0:=rfl;exact ⟨h1.1,by omega,h1.2.1⟩
theorem plain_any (w:World):Calls Tryz.prog 32 #[] w fun e w'=>e=.returned (.agg #[.int .i64 1,.int .i64 1,.int .i64 1,.int .i64 1,.int .i64 1,.int .i64 1,.int .i64 1,.int .i64 1,.int .i64 1,.int .i64 1,.int .i64 1,.int .i64 1,.int .i64 0])/\Below w.heap.size w w':=by
 go_enter Tryz.func32,Tryz.ntmps32;go_wp2_with fail
 refine bodyPost_ret (v:=.agg #[.int .i64 1,.int .i64 1,.int .i64 1,.int .i64 1,.int .i64 1,.int .i64 1,.int .i64 1,.int .i64 1,.int .i64 1,.int .i64 1,.int .i64 1,.int .i64 1,.int .i64 0]) (by simp [results,Tryz.results32,go_sem]) rfl ⟨rfl,?_⟩
 go_grown
structure Ov (w W:World) (tb:Nat):Prop where
 t:At W tb #[.int .i64 1,.int .i64 1,.int .i64 1,.int .i64 1,.int .i64 1,.int .i64 1,.int .i64 4,.int .i64 1,.int .i64 1,.int .i64 1,.int .i64 1,.int .i64 1,.int .i64 0]
 l:At W w.heap.size xBC
 up:Below w.heap.size w W
theorem Ov.next {w W W':World} {tb:Nat} (h:Ov w W tb) (g:Below W.heap.size W W'):Ov w W' tb:=⟨h.t.below g h.t.lt,h.l.below g h.l.lt,h.up.trans (g.mono h.up.size)⟩
theorem set4 {W:World} {b:Nat} (h:At W b #[.int .i64 1,.int .i64 1,.int .i64 1,.int .i64 1,.int .i64 1,.int .i64 1,.int .i64 1,.int .i64 1,.int .i64 1,.int .i64 1,.int .i64 1,.int .i64 1,.int .i64 0]):At (W.setCell ⟨b,6,none⟩ (.int .i64 4)) b #[.int .i64 1,.int .i64 1,.int .i64 1,.int .i64 1,.int .i64 1,.int .i64 1,.int .i64 4,.int .i64 1,.int .i64 1,.int .i64 1,.int .i64 1,.int .i64 1,.int .i64 0]:=by
 refine ⟨fun j v e=>?_,fun j=>by rw [World.frozen?_setCell];exact h.f j,by simpa using h.lt⟩
 by_cases hj:j=6
 ·subst hj;rw [World.cell?_setCell_same _ _ _ (h.c 6 _ rfl)];exact e
 ·rw [World.cell?_setCell_other _ _ _ _ (by intro q;simp only [Addr.mk.injEq] at q;omega)];refine h.c j v ?_;rw [<- e]
  match j,hj with
  | 0,_=>rfl
  | 1,_=>rfl
  | 2,_=>rfl
  | 3,_=>rfl
  | 4,_=>rfl
  | 5,_=>rfl
  | 7,_=>rfl
  | 8,_=>rfl
  | 9,_=>rfl
  | 10,_=>rfl
  | 11,_=>rfl
  | 12,_=>rfl
  | j+13,_=>rfl
theorem overlaps_any (w:World) (hG:Bnds w):Calls Tryz.prog 11 #[] w fun e w'=>e=.returned (.bool true)/\Below w.heap.size w w':=by
 have HP:Hid (∀ W,Calls Tryz.prog 32 #[] W fun e w'=>e=.returned (.agg #[.int .i64 1,.int .i64 1,.int .i64 1,.int .i64 1,.int .i64 1,.int .i64 1,.int .i64 1,.int .i64 1,.int .i64 1,.int .i64 1,.int .i64 1,.int .i64 1,.int .i64 0])/\Below W.heap.size W w'):=fun W=>plain_any W;have HX:Hid (∃ (E:Int) (g:Nat->Int) (S:Int),1<=E/\E<=5/\(∀ W tb,Ov w W tb->Calls Tryz.prog 6 #[.slice (some ⟨w.heap.size,0,none⟩) 2 2,.agg #[.int .i64 1,.int .i64 1,.int .i64 1,.int .i64 1,.int .i64 1,.int .i64 1,.int .i64 4,.int .i64 1,.int .i64 1,.int .i64 1,.int .i64 1,.int .i64 1,.int .i64 0]] W fun e w'=>∃ ra rc,e=.returned (.tuple #[.agg #[.int .i64 E,.slice ra 2 rc,.int .i64 S],.int .i64 0])/\Nl w' ra 2 g/\Below W.heap.size W w')/\∀ W tb a c,Ov w W tb->Nl W a 2 g->Calls Tryz.prog 9 #[.slice (some ⟨w.heap.size,0,none⟩) 2 2,.agg #[.int .i64 1,.int .i64 1,.int .i64 1,.int .i64 1,.int .i64 1,.int .i64 1,.int .i64 4,.int .i64 1,.int .i64 1,.int .i64 1,.int .i64 1,.int .i64 1,.int .i64 0],.agg #[.int .i64 E,.slice a 2 c,.int .i64 S]] W fun e w'=>e=.returned (.bool true)/\Below W.heap.size W w'):=by
  have hx:=fdO (At.new w xBC 55);refine ⟨(fdP tO xB).1,(fdP tO xB).2,stg 2 (fdP tO xB).2 (fdP tO xB).1,hx.2.1,hx.2.2,fun W tb h=>?_,fun W tb a c h hn=>?_⟩
  ·exact find_is (some ⟨w.heap.size,0,none⟩) 2 xB tO W (xB_at h.l) (by decide) (hG.below h.up hG.big) xO_rg
  ·have:=check_any a (some ⟨w.heap.size,0,none⟩) 2 c 2 xB tO (fdP tO xB).2 (fdP tO xB).1 (stg 2 (fdP tO xB).2 (fdP tO xB).1) W hn (xB_at h.l) (by decide) (hG.below h.up hG.big) (by omega)
   rw [hx.1] at this;exact this
 obtain ⟨E,g,S,e1,e5,hF,hC⟩:=HX.out;have HF:Hid _:=hF;have HC:Hid _:=hC;clear hG hF hC HX;go_enter Tryz.func11,Tryz.ntmps11;go_upto_region 3 with (first
  | (go_at_call 32;refine Calls.mono (HP.out _) ?_;rintro e w1 ⟨rfl,b1⟩;have HB0:Hid (At (w1.alloc (.cells #[.int .i64 1,.int .i64 1,.int .i64 1,.int .i64 1,.int .i64 1,.int .i64 1,.int .i64 1,.int .i64 1,.int .i64 1,.int .i64 1,.int .i64 1,.int .i64 1,.int .i64 0] 25)) w1.heap.size #[.int .i64 1,.int .i64 1,.int .i64 1,.int .i64 1,.int .i64 1,.int .i64 1,.int .i64 1,.int .i64 1,.int .i64 1,.int .i64 1,.int .i64 1,.int .i64 1,.int .i64 0]/\At (w1.alloc (.cells #[.int .i64 1,.int .i64 1,.int .i64 1,.int .i64 1,.int .i64 1,.int .i64 1,.int .i64 1,.int .i64 1,.int .i64 1,.int .i64 1,.int .i64 1,.int .i64 1,.int .i64 0] 25)) w.heap.size xBC/\Below w.heap.size w (w1.alloc (.cells #[.int .i64 1,.int .i64 1,.int .i64 1,.int .i64 1,.int .i64 1,.int .i64 1,.int .i64 1,.int .i64 1,.int .i64 1,.int .i64 1,.int .i64 1,.int .i64 1,.int .i64 0] 25))/\w.heap.size<=w1.heap.size):=(by
    have a1:=(At.new w xBC 55).below b1 (by simp);have b0:Below w.heap.size w w1:=((Below.refl w.heap.size w).alloc (Nat.le_refl _) (.cells xBC 55)).trans (b1.mono (by simp));exact ⟨At.new _ _ _,a1.alloc _,b0.alloc b0.size _,b0.size⟩);clear b1 HP))
 generalize w1.alloc (.cells #[.int .i64 1,.int .i64 1,.int .i64 1,.int .i64 1,.int .i64 1,.int .i64 1,.int .i64 1,.int .i64 1,.int .i64 1,.int .i64 1,.int .i64 1,.int .i64 1,.int .i64 0] 25)=X0 at *;generalize w1.heap.size=tb at *;have c6:=HB0.out.1.c 6 _ rfl;have z6:=HB0.out.1.f 6;have l6:=HB0.out.1.lt;go_upto_region 4 with fail
 have HB1:Hid (Ov w (X0.setCell ⟨tb,6,none⟩ (.int .i64 4)) tb):=by
  by_cases hne:tb=w.heap.size
  ·exfalso
   have h1:=HB0.out.1.c 0 _ rfl;rw [hne] at h1;have h2:=HB0.out.2.1.c 0 _ rfl;rw [h2] at h1
   cases h1
  ·have hx:=HB0.out.2.2.2;refine ⟨set4 HB0.out.1,?_,HB0.out.2.2.1.setCell hx _⟩;have bb:Below tb X0 (X0.setCell ⟨tb,6,none⟩ (.int .i64 4)):=(Below.refl tb X0).setCell (p:=⟨tb,6,none⟩) (Nat.le_refl _) _;exact HB0.out.2.1.below bb (by omega)
 clear c6 z6 l6 HB0;generalize X0.setCell ⟨tb,6,none⟩ (.int .i64 4)=X1 at *;have tf:=HB1.out.t;have tf0:=tf.c 0 _ rfl;have tf1:=tf.c 1 _ rfl;have tf2:=tf.c 2 _ rfl;have tf3:=tf.c 3 _ rfl;have tf4:=tf.c 4 _ rfl;have tf5:=tf.c 5 _ rfl;have tf6:=tf.c 6 _ rfl;have tf7:=tf.c 7 _ rfl;have tf8:=tf.c 8 _ rfl;have tf9:=tf.c 9 _ rfl;have tf10:=tf.c 10 _ rfl;have tf11:=tf.c 11 _ rfl;have tf12:=tf.c 12 _ rfl;have tfl:=tf.lt;clear tf;go_upto_region 5 with (first
  | (go_at_call 6;refine Calls.mono (HF.out _ _ HB1.out) ?_;rintro e w2 ⟨ra,rc,rfl,n2,b2⟩;have HB2:Hid (Ov w (w2.alloc (.cells #[.int .i64 E,.slice ra 2 rc,.int .i64 S] 29)) tb/\Nl (w2.alloc (.cells #[.int .i64 E,.slice ra 2 rc,.int .i64 S] 29)) ra 2 g/\At (w2.alloc (.cells #[.int .i64 E,.slice ra 2 rc,.int .i64 S] 29)) w2.heap.size #[.int .i64 E,.slice ra 2 rc,.int .i64 S]):=(by
    have g:Below w2.heap.size w2 (w2.alloc (.cells #[.int .i64 E,.slice ra 2 rc,.int .i64 S] 29)):=(Below.refl _ _).alloc (Nat.le_refl _) _;exact ⟨(HB1.out.next b2).next g,n2.up g,At.new _ _ _⟩);clear b2 n2 HF HB1 tf0 tf1 tf2 tf3 tf4 tf5 tf6 tf7 tf8 tf9 tf10 tf11 tf12 tfl))
 generalize w2.alloc (.cells #[.int .i64 E,.slice ra 2 rc,.int .i64 S] 29)=X2 at *;generalize w2.heap.size=pb at *;have tf:=HB2.out.1.t;have tf0:=tf.c 0 _ rfl;have tf1:=tf.c 1 _ rfl;have tf2:=tf.c 2 _ rfl;have tf3:=tf.c 3 _ rfl;have tf4:=tf.c 4 _ rfl;have tf5:=tf.c 5 _ rfl;have tf6:=tf.c 6 _ rfl;have tf7:=tf.c 7 _ rfl;have tf8:=tf.c 8 _ rfl;have tf9:=tf.c 9 _ rfl;have tf10:=tf.c 10 _ rfl;have tf11:=tf.c 11 _ rfl;have tf12:=tf.c 12 _ rfl;have tfl:=tf.lt;clear tf;have p0:=HB2.out.2.2.c 0 _ rfl;have p1:=HB2.out.2.2.c 1 _ rfl;have p2:=HB2.out.2.2.c 2 _ rfl;have pl:=HB2.out.2.2.lt;go_wp2_with (first
  | (go_at_call 9;refine Calls.mono (HC.out _ _ _ _ HB2.out.1 HB2.out.2.1) ?_;rintro e w3 ⟨rfl,b3⟩;have HB3:Hid (Below w.heap.size w w3):=(HB2.out.1.next b3).up;clear b3 HC))
 go_ret
 exact ⟨rfl,HB3.out⟩
end Go.Proofs.YtiejdpjgplikjaaGreatDoor.Tp
