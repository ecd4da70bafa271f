/- Parts Yi Yj. -/
import Derived.Test.YtiejdpjgplikjaaGreatDoorN39
import Derived.Test.YtiejdpjgplikjaaGreatDoorN48
set_option maxRecDepth 20000
set_option maxHeartbeats 16000000
namespace Go.Proofs.YtiejdpjgplikjaaGreatDoor.Mo
open Go.ChangeShapes Go.WideShapes Go.ChangeAt Go.RowKit
open YtiejdpjgplikjaaGreatDoor.Op YtiejdpjgplikjaaGreatDoor.So YtiejdpjgplikjaaGreatDoor.Dp YtiejdpjgplikjaaGreatDoor.Bn
open YtiejdpjgplikjaaGreatDoor.Ls (clN clN_at clN_lt Nl arC arC_all arC_yes arC_no areCycles_any)
open YtiejdpjgplikjaaGreatDoor.Rv (RAt Few frB tkF tk_few take_any evOk NwOut ring_ok tn addK)
open YtiejdpjgplikjaaGreatDoor.Tb (Tab TabAt Bnds)
open YtiejdpjgplikjaaGreatDoor.Ls (cyL cyL_is sysL sysL_ok ordC lis_parts hvU)
open YtiejdpjgplikjaaGreatDoor.ListWay (way placed sch_is okB)
def xB:List O:=[⟨15,1,2,0,0⟩,⟨2,3,3,1,0⟩]
abbrev xBC:Array Value:=#[.int .i8 15,.int .u8 1,.int .u8 2,.int .u8 0,.int .i64 0,.int .i8 2,.int .u8 3,.int .u8 3,.int .u8 1,.int .i64 0]
theorem xB_ok:∀ o∈xB,o.Ok:=fun o h=>by
 simp only [xB,List.mem_cons,List.not_mem_nil,or_false] at h;rcases h with rfl|rfl <;> constructor <;> decide
theorem xB_at {w:World} {b:Nat} (h:At w b xBC):OpsAt w (some ⟨b,0,none⟩) xB:=by
 refine ⟨xB_ok,by decide,fun _=>⟨b,0,rfl,h.lt,fun i hi=>?_⟩⟩;have hi:i<2:=hi
 match i,hi with
 | 0,_=>exact ⟨h.c 0 _ rfl,h.c 1 _ rfl,h.c 2 _ rfl,h.c 3 _ rfl,h.c 4 _ rfl⟩
 | 1,_=>exact ⟨h.c 5 _ rfl,h.c 6 _ rfl,h.c 7 _ rfl,h.c 8 _ rfl,h.c 9 _ rfl⟩
theorem xB_rg:rgE tW xB=0:=by kernel_rfl
theorem xB_le:leE tW xB=2:=by kernel_rfl
theorem xB_lis:lisE tW xB=0:=by kernel_rfl
theorem xB_of:ofE tW xB=[⟨0,1,2,0,0⟩]:=by kernel_rfl
theorem xB_hv:hvU tW xB=true:=by kernel_rfl
theorem xB_ord:ordC (hts (latN tW xB) [⟨0,1,2,0,0⟩]) 2=[0,1]:=by kernel_rfl
theorem xW_lis:lisE tW xW=0:=by kernel_rfl
theorem xW_of:ofE tW xW=[]:=by kernel_rfl
theorem xW_hv:hvU tW xW=true:=by kernel_rfl
theorem xW_ord:ordC (hts (latN tW xW) []) 1=[0]:=by kernel_rfl
theorem stp_yes {s:ListWay.Sys} {ord:List Nat} {c:Nat->Int} {y:Int} {i:Nat} (h1:placed s c<s.n) (h2:ord.find? (okB s c y)=some i):ListWay.stp s ord (c,y)=(ListWay.upd c i y,y):=by
 unfold ListWay.stp;simp only [h1,if_true,h2]
theorem stp_no {s:ListWay.Sys} {ord:List Nat} {c:Nat->Int} {y:Int} (h1:placed s c<s.n) (h2:ord.find? (okB s c y)=none):ListWay.stp s ord (c,y)=(c,y+1):=by
 unfold ListWay.stp;simp only [h1,if_true,h2]
abbrev sB:ListWay.Sys:=sysL tW xB [⟨0,1,2,0,0⟩]
abbrev cB0:Nat->Int:=fun _=>-1
abbrev cB1:Nat->Int:=ListWay.upd cB0 0 0
abbrev cB2:Nat->Int:=ListWay.upd cB1 1 2
theorem wB:way sB [0,1] 4=(cB2,2):=by
 have w1:way sB [0,1] 1=(cB1,0):=stp_yes (by decide) (by kernel_rfl);have w2:way sB [0,1] 2=(cB1,1):=by show ListWay.stp _ _ (way sB [0,1] 1)=_;rw [w1];exact stp_no (by decide) (by kernel_rfl)
 have w3:way sB [0,1] 3=(cB1,2):=by show ListWay.stp _ _ (way sB [0,1] 2)=_;rw [w2];exact stp_no (by decide) (by kernel_rfl)
 show ListWay.stp _ _ (way sB [0,1] 3)=_;rw [w3];exact stp_yes (by decide) (by kernel_rfl)
theorem cB_is:cyL tW xB=cB2:=by
 have ho:∀ i,i∈([0,1]:List Nat)↔i<sB.n:=fun i=>by
  show i∈([0,1]:List Nat)↔i<2;simp
  omega
 have hE:EOk xB.length [⟨0,1,2,0,0⟩]:=by
  have:=(lis_parts xB_ok xB_lis).1
  rw [xB_of] at this;exact this
 unfold cyL;rw [xB_of];have h3:xB.length=2:=rfl;rw [h3,xB_ord];have hp:placed sB (way sB [0,1] 4).1=sB.n:=by rw [wB];decide
 have:=sch_is (sysL_ok (lis_all xB_lis).1 xB_hv hE) ho hp
 rw [wB] at this;exact this.symm
abbrev sW:ListWay.Sys:=sysL tW xW []
abbrev cW1:Nat->Int:=ListWay.upd cB0 0 0
theorem wW:way sW [0] 1=(cW1,0):=stp_yes (by decide) (by kernel_rfl)
theorem cW_is:cyL tW xW=cW1:=by
 have ho:∀ i,i∈([0]:List Nat)↔i<sW.n:=fun i=>by
  show i∈([0]:List Nat)↔i<1;simp
 have hE:EOk xW.length []:=by
  have:=(lis_parts xW_ok xW_lis).1
  rw [xW_of] at this;exact this
 unfold cyL;rw [xW_of];have h3:xW.length=1:=rfl;rw [h3,xW_ord];have hp:placed sW (way sW [0] 1).1=sW.n:=by rw [wW];decide
 have:=sch_is (sysL_ok (lis_all xW_lis).1 xW_hv hE) ho hp
 rw [wW] at this;exact this.symm
theorem xB_dr:drn tW xB cB2 2=3:=by kernel_rfl
theorem xB_kg:kgB tW xB cB2 2=true:=by kernel_rfl
theorem xW_dr:drn tW xW cW1 1=3:=by kernel_rfl
theorem ck_two:mcB tW xB 2 cB2 2 2=true:=by kernel_rfl
theorem ck_bad:mcB tW xB 2 cB2 2 1=false:=by kernel_rfl
theorem st_two:stg 2 cB2 2=2:=by kernel_rfl
theorem st_one:stg 1 cW1 3=1:=by kernel_rfl
theorem findB (b:Nat) (w:World) (h:At w b xBC) (hG:Bnds w):Calls Tryz.prog 6 #[.slice (some ⟨b,0,none⟩) 2 2,.agg #[.int .i64 1,.int .i64 1,.int .i64 1,.int .i64 1,.int .i64 1,.int .i64 3,.int .i64 2,.int .i64 1,.int .i64 1,.int .i64 1,.int .i64 1,.int .i64 1,.int .i64 1]] w fun e w'=>∃ ra rc,e=.returned (.tuple #[.agg #[.int .i64 2,.slice ra 2 rc,.int .i64 2],.int .i64 0])/\Nl w' ra 2 cB2/\Below w.heap.size w w':=by
 have hf:=find_ok (some ⟨b,0,none⟩) 2 xB tW (fun _=>none) w (xB_at h) (by decide) hG xB_rg (fun W bb ea ec a cc b1 b2 E q1 q2 q3 q4 q5 q6=>by
  rw [cB_is] at q5 q6;have q5:E<3:=by rw [show xB.length=2 from rfl,xB_dr] at q5;exact q5
  rw [xB_le] at q4;obtain rfl:E=2:=by omega
  rw [xB_kg] at q6
  cases q6) (fun E c _ _ h=>by cases h)
 have e:fpP (kgB tW xB (cyL tW xB)) (fun _=>none) (cyL tW xB) (drn tW xB (cyL tW xB) xB.length) (drn tW xB (cyL tW xB) xB.length-leE tW xB).toNat (leE tW xB)=(2,cB2):=by
  rw [cB_is,xB_le,show xB.length=2 from rfl,xB_dr];exact fp_yes (by decide) xB_kg
 rw [e] at hf;refine hf.mono ?_;rintro e w' ⟨ra,rc,h1,h2,h3⟩;have st2:stg xB.length cB2 2=2:=st_two;simp only [st2] at h1;exact ⟨ra,rc,h1,h2,h3⟩
theorem findW (b:Nat) (w:World) (h:At w b xWC) (hG:Bnds w):Calls Tryz.prog 6 #[.slice (some ⟨b,0,none⟩) 1 1,.agg #[.int .i64 1,.int .i64 1,.int .i64 1,.int .i64 1,.int .i64 1,.int .i64 3,.int .i64 2,.int .i64 1,.int .i64 1,.int .i64 1,.int .i64 1,.int .i64 1,.int .i64 1]] w fun e w'=>∃ ra rc,e=.returned (.tuple #[.agg #[.int .i64 3,.slice ra 1 rc,.int .i64 1],.int .i64 0])/\Nl w' ra 1 cW1/\Below w.heap.size w w':=by
 have hf:=find_ok (some ⟨b,0,none⟩) 1 xW tW (fun _=>none) w (xW_at h) (by decide) hG xW_rg (fun W bb ea ec a cc b1 b2 E q1 q2 q3 q4 q5 q6=>by
  rw [cW_is] at q5;have q5:E<3:=by rw [show xW.length=1 from rfl,xW_dr] at q5;exact q5
  rw [xW_le] at q4
  omega) (fun E c _ _ h=>by cases h)
 have e:fpP (kgB tW xW (cyL tW xW)) (fun _=>none) (cyL tW xW) (drn tW xW (cyL tW xW) xW.length) (drn tW xW (cyL tW xW) xW.length-leE tW xW).toNat (leE tW xW)=(3,cW1):=by
  rw [cW_is,xW_le,show xW.length=1 from rfl,xW_dr];rfl
 rw [e] at hf;refine hf.mono ?_;rintro e w' ⟨ra,rc,h1,h2,h3⟩;have st2:stg xW.length cW1 3=1:=st_one;simp only [st2] at h1;exact ⟨ra,rc,h1,h2,h3⟩
theorem one_any (w:World):Calls Tryz.prog 16 #[] w fun e w'=>e=.returned (.agg #[.int .i64 1,.int .i64 1,.int .i64 1,.int .i64 1,.int .i64 1,.int .i64 3,.int .i64 2,.int .i64 1,.int .i64 1,.int .i64 1,.int .i64 1,.int .i64 1,.int .i64 1])/\Below w.heap.size w w':=by
 go_enter Tryz.func16,Tryz.ntmps16;go_wp2_with fail
 refine bodyPost_ret (v:=.agg #[.int .i64 1,.int .i64 1,.int .i64 1,.int .i64 1,.int .i64 1,.int .i64 3,.int .i64 2,.int .i64 1,.int .i64 1,.int .i64 1,.int .i64 1,.int .i64 1,.int .i64 1]) (by simp [results,Tryz.results16,go_sem]) rfl ⟨rfl,?_⟩
 go_grown
theorem nl2 {W:World} {b:Nat} (h:At W b #[.int .i64 0,.int .i64 2]):Nl W (some ⟨b,0,none⟩) 2 cB2:=by
 refine ⟨fun _=>⟨b,0,rfl,h.lt,fun k hk=>?_⟩,fun k hk=>?_⟩
 ·match k,hk with
  | 0,_=>exact h.c 0 _ rfl
  | 1,_=>exact h.c 1 _ rfl
 ·match k,hk with
  | 0,_=>decide
  | 1,_=>decide
structure Wk (w W:World) (tb lb:Nat):Prop where
 t:At W tb #[.int .i64 1,.int .i64 1,.int .i64 1,.int .i64 1,.int .i64 1,.int .i64 3,.int .i64 2,.int .i64 1,.int .i64 1,.int .i64 1,.int .i64 1,.int .i64 1,.int .i64 1]
 l:At W lb xBC
 up:Below w.heap.size w W
theorem Wk.next {w W W':World} {tb lb:Nat} (h:Wk w W tb lb) (g:Below W.heap.size W W'):Wk w W' tb lb:=⟨h.t.below g h.t.lt,h.l.below g h.l.lt,h.up.trans (g.mono h.up.size)⟩
end Go.Proofs.YtiejdpjgplikjaaGreatDoor.Mo
namespace Go.Proofs.YtiejdpjgplikjaaGreatDoor.Mo
open Go.ChangeShapes Go.WideShapes Go.ChangeAt Go.RowKit
open YtiejdpjgplikjaaGreatDoor.Op YtiejdpjgplikjaaGreatDoor.So YtiejdpjgplikjaaGreatDoor.Dp YtiejdpjgplikjaaGreatDoor.Bn
open YtiejdpjgplikjaaGreatDoor.Ls (clN clN_at clN_lt Nl arC arC_all arC_yes arC_no areCycles_any)
open YtiejdpjgplikjaaGreatDoor.Rv (RAt Few frB tkF tk_few take_any evOk NwOut ring_ok tn addK)
open YtiejdpjgplikjaaGreatDoor.Tb (Tab TabAt Bnds)
theorem wakes_any (w:World) (hG:Bnds w):Calls Tryz.prog 5 #[] w fun e w'=>e=.returned (.bool true)/\Below w.heap.size w w':=by
 have HOn:Hid (∀ W,Calls Tryz.prog 16 #[] W fun e w'=>e=.returned (.agg #[.int .i64 1,.int .i64 1,.int .i64 1,.int .i64 1,.int .i64 1,.int .i64 3,.int .i64 2,.int .i64 1,.int .i64 1,.int .i64 1,.int .i64 1,.int .i64 1,.int .i64 1])/\Below W.heap.size W w'):=fun W=>one_any W;have HFb:Hid (∀ W tb lb,Wk w W tb lb->Calls Tryz.prog 6 #[.slice (some ⟨lb,0,none⟩) 2 2,.agg #[.int .i64 1,.int .i64 1,.int .i64 1,.int .i64 1,.int .i64 1,.int .i64 3,.int .i64 2,.int .i64 1,.int .i64 1,.int .i64 1,.int .i64 1,.int .i64 1,.int .i64 1]] W fun e w'=>∃ ra rc,e=.returned (.tuple #[.agg #[.int .i64 2,.slice ra 2 rc,.int .i64 2],.int .i64 0])/\Nl w' ra 2 cB2/\Below W.heap.size W w'):=fun W tb lb h=>findB lb W h.l (hG.below h.up hG.big);have HFw:Hid (∀ W lb,At W lb xWC->Below w.heap.size w W->Calls Tryz.prog 6 #[.slice (some ⟨lb,0,none⟩) 1 1,.agg #[.int .i64 1,.int .i64 1,.int .i64 1,.int .i64 1,.int .i64 1,.int .i64 3,.int .i64 2,.int .i64 1,.int .i64 1,.int .i64 1,.int .i64 1,.int .i64 1,.int .i64 1]] W fun e w'=>∃ ra rc,e=.returned (.tuple #[.agg #[.int .i64 3,.slice ra 1 rc,.int .i64 1],.int .i64 0])/\Nl w' ra 1 cW1/\Below W.heap.size W w'):=fun W lb h hb=>findW lb W h (hG.below hb hG.big);have HCy:Hid (∀ W tb lb a c,Wk w W tb lb->Nl W a 2 cB2->Calls Tryz.prog 9 #[.slice (some ⟨lb,0,none⟩) 2 2,.agg #[.int .i64 1,.int .i64 1,.int .i64 1,.int .i64 1,.int .i64 1,.int .i64 3,.int .i64 2,.int .i64 1,.int .i64 1,.int .i64 1,.int .i64 1,.int .i64 1,.int .i64 1],.agg #[.int .i64 2,.slice a 2 c,.int .i64 2]] W fun e w'=>e=.returned (.bool true)/\Below W.heap.size W w'):=fun W tb lb a c h hn=>by
  have:=check_any a (some ⟨lb,0,none⟩) 2 c 2 xB tW cB2 2 2 W hn (xB_at h.l) (by decide) (hG.below h.up hG.big) (by omega)
  rw [ck_two] at this;exact this
 have HCn:Hid (∀ W tb lb a c,Wk w W tb lb->Nl W a 2 cB2->Calls Tryz.prog 9 #[.slice (some ⟨lb,0,none⟩) 2 2,.agg #[.int .i64 1,.int .i64 1,.int .i64 1,.int .i64 1,.int .i64 1,.int .i64 3,.int .i64 2,.int .i64 1,.int .i64 1,.int .i64 1,.int .i64 1,.int .i64 1,.int .i64 1],.agg #[.int .i64 2,.slice a 2 c,.int .i64 1]] W fun e w'=>e=.returned (.bool false)/\Below W.heap.size W w'):=fun W tb lb a c h hn=>by
  have:=check_any a (some ⟨lb,0,none⟩) 2 c 2 xB tW cB2 2 1 W hn (xB_at h.l) (by decide) (hG.below h.up hG.big) (by omega)
  rw [ck_bad] at this;exact this
 clear hG;go_enter Tryz.func5,Tryz.ntmps5;go_upto_region 3 with (first
  | (go_at_call 16;refine Calls.mono (HOn.out _) ?_;rintro e w1 ⟨rfl,b1⟩;have HB0:Hid (Wk w ((w1.alloc (.cells #[.int .i64 1,.int .i64 1,.int .i64 1,.int .i64 1,.int .i64 1,.int .i64 3,.int .i64 2,.int .i64 1,.int .i64 1,.int .i64 1,.int .i64 1,.int .i64 1,.int .i64 1] 25)).alloc (.cells xBC 55)) w1.heap.size (w1.heap.size+1)):=(by
    have a1:=At.new w1 #[.int .i64 1,.int .i64 1,.int .i64 1,.int .i64 1,.int .i64 1,.int .i64 3,.int .i64 2,.int .i64 1,.int .i64 1,.int .i64 1,.int .i64 1,.int .i64 1,.int .i64 1] 25;have a2:=At.new (w1.alloc (.cells #[.int .i64 1,.int .i64 1,.int .i64 1,.int .i64 1,.int .i64 1,.int .i64 3,.int .i64 2,.int .i64 1,.int .i64 1,.int .i64 1,.int .i64 1,.int .i64 1,.int .i64 1] 25)) xBC 55;rw [show (w1.alloc (.cells #[.int .i64 1,.int .i64 1,.int .i64 1,.int .i64 1,.int .i64 1,.int .i64 3,.int .i64 2,.int .i64 1,.int .i64 1,.int .i64 1,.int .i64 1,.int .i64 1,.int .i64 1] 25)).heap.size=w1.heap.size+1 by simp] at a2;exact ⟨a1.alloc _,a2,(b1.alloc b1.size _).alloc (by have:=b1.size;simp;omega) _⟩);clear b1 HOn))
 generalize (w1.alloc (.cells #[.int .i64 1,.int .i64 1,.int .i64 1,.int .i64 1,.int .i64 1,.int .i64 3,.int .i64 2,.int .i64 1,.int .i64 1,.int .i64 1,.int .i64 1,.int .i64 1,.int .i64 1] 25)).alloc (.cells xBC 55)=X0 at *;generalize w1.heap.size+1=lb at *;generalize w1.heap.size=tb at *;have tf:=HB0.out.t;have tf0:=tf.c 0 _ rfl;have tf1:=tf.c 1 _ rfl;have tf2:=tf.c 2 _ rfl;have tf3:=tf.c 3 _ rfl;have tf4:=tf.c 4 _ rfl;have tf5:=tf.c 5 _ rfl;have tf6:=tf.c 6 _ rfl;have tf7:=tf.c 7 _ rfl;have tf8:=tf.c 8 _ rfl;have tf9:=tf.c 9 _ rfl;have tf10:=tf.c 10 _ rfl;have tf11:=tf.c 11 _ rfl;have tf12:=tf.c 12 _ rfl;have tfl:=tf.lt;clear tf;go_upto_region 4 with (first
  | (go_at_call 6;refine Calls.mono (HFb.out _ _ _ HB0.out) ?_;rintro e w2 ⟨ra,rc,rfl,n2,b2⟩;have HB2:Hid (Wk w (w2.alloc (.cells #[.int .i64 2,.slice ra 2 rc,.int .i64 2] 29)) tb lb/\Nl (w2.alloc (.cells #[.int .i64 2,.slice ra 2 rc,.int .i64 2] 29)) ra 2 cB2/\At (w2.alloc (.cells #[.int .i64 2,.slice ra 2 rc,.int .i64 2] 29)) w2.heap.size #[.int .i64 2,.slice ra 2 rc,.int .i64 2]):=(by
    have g:Below w2.heap.size w2 (w2.alloc (.cells #[.int .i64 2,.slice ra 2 rc,.int .i64 2] 29)):=(Below.refl _ _).alloc (Nat.le_refl _) _;exact ⟨(HB0.out.next b2).next g,n2.up g,At.new _ _ _⟩);clear b2 n2 HFb HB0 tf0 tf1 tf2 tf3 tf4 tf5 tf6 tf7 tf8 tf9 tf10 tf11 tf12 tfl))
 generalize w2.alloc (.cells #[.int .i64 2,.slice ra 2 rc,.int .i64 2] 29)=X2 at *;generalize w2.heap.size=pb at *;have HB3:Hid (Wk w (X2.alloc (.cells xWC 55)) tb lb/\Nl (X2.alloc (.cells xWC 55)) ra 2 cB2/\At (X2.alloc (.cells xWC 55)) pb #[.int .i64 2,.slice ra 2 rc,.int .i64 2]/\At (X2.alloc (.cells xWC 55)) X2.heap.size xWC):=by
  have g:Below X2.heap.size X2 (X2.alloc (.cells xWC 55)):=(Below.refl _ _).alloc (Nat.le_refl _) _;exact ⟨HB2.out.1.next g,HB2.out.2.1.up g,HB2.out.2.2.below g HB2.out.2.2.lt,At.new _ _ _⟩
 clear HB2;have tf:=HB3.out.1.t;have tf0:=tf.c 0 _ rfl;have tf1:=tf.c 1 _ rfl;have tf2:=tf.c 2 _ rfl;have tf3:=tf.c 3 _ rfl;have tf4:=tf.c 4 _ rfl;have tf5:=tf.c 5 _ rfl;have tf6:=tf.c 6 _ rfl;have tf7:=tf.c 7 _ rfl;have tf8:=tf.c 8 _ rfl;have tf9:=tf.c 9 _ rfl;have tf10:=tf.c 10 _ rfl;have tf11:=tf.c 11 _ rfl;have tf12:=tf.c 12 _ rfl;have tfl:=tf.lt;clear tf;go_upto_region 5 with (first
  | (go_at_call 6;refine Calls.mono (HFw.out _ _ HB3.out.2.2.2 HB3.out.1.up) ?_;rintro e w3 ⟨sa,sc,rfl,n3,b3⟩;have HB4:Hid (Wk w (w3.alloc (.cells #[.int .i64 3,.slice sa 1 sc,.int .i64 1] 29)) tb lb/\Nl (w3.alloc (.cells #[.int .i64 3,.slice sa 1 sc,.int .i64 1] 29)) ra 2 cB2/\At (w3.alloc (.cells #[.int .i64 3,.slice sa 1 sc,.int .i64 1] 29)) pb #[.int .i64 2,.slice ra 2 rc,.int .i64 2]/\At (w3.alloc (.cells #[.int .i64 3,.slice sa 1 sc,.int .i64 1] 29)) w3.heap.size #[.int .i64 3,.slice sa 1 sc,.int .i64 1]):=(by
    have g:Below w3.heap.size w3 (w3.alloc (.cells #[.int .i64 3,.slice sa 1 sc,.int .i64 1] 29)):=(Below.refl _ _).alloc (Nat.le_refl _) _;exact ⟨(HB3.out.1.next b3).next g,(HB3.out.2.1.up b3).up g,(HB3.out.2.2.1.below b3 HB3.out.2.2.1.lt).below g (Nat.lt_of_lt_of_le HB3.out.2.2.1.lt b3.size),At.new _ _ _⟩);clear b3 n3 HFw HB3 tf0 tf1 tf2 tf3 tf4 tf5 tf6 tf7 tf8 tf9 tf10 tf11 tf12 tfl))
 generalize w3.alloc (.cells #[.int .i64 3,.slice sa 1 sc,.int .i64 1] 29)=X3 at *;generalize w3.heap.size=qb at *;have HB5:Hid (∃ Y,Y=(((X3.alloc (.cells #[.int .i64 0,.int .i64 2] 3)).alloc (.cells #[.int .i64 2,.slice (some ⟨X3.heap.size,0,none⟩) 2 2,.int .i64 2] 29)).alloc (.cells #[.int .i64 0,.int .i64 2] 3)).alloc (.cells #[.int .i64 2,.slice (some ⟨X3.heap.size+1+1,0,none⟩) 2 2,.int .i64 1] 29)/\Wk w Y tb lb/\Nl Y ra 2 cB2/\At Y pb #[.int .i64 2,.slice ra 2 rc,.int .i64 2]/\At Y qb #[.int .i64 3,.slice sa 1 sc,.int .i64 1]/\At Y (X3.heap.size+1) #[.int .i64 2,.slice (some ⟨X3.heap.size,0,none⟩) 2 2,.int .i64 2]/\At Y (X3.heap.size+1+1+1) #[.int .i64 2,.slice (some ⟨X3.heap.size+1+1,0,none⟩) 2 2,.int .i64 1]/\Nl Y (some ⟨X3.heap.size,0,none⟩) 2 cB2/\Nl Y (some ⟨X3.heap.size+1+1,0,none⟩) 2 cB2):=by
  refine ⟨_,rfl,?_⟩;have a1:=At.new X3 #[.int .i64 0,.int .i64 2] 3;have a2:=At.new (X3.alloc (.cells #[.int .i64 0,.int .i64 2] 3)) #[.int .i64 2,.slice (some ⟨X3.heap.size,0,none⟩) 2 2,.int .i64 2] 29;have z1:(X3.alloc (.cells #[.int .i64 0,.int .i64 2] 3)).heap.size=X3.heap.size+1:=by simp
  rw [z1] at a2;have a3:=At.new ((X3.alloc (.cells #[.int .i64 0,.int .i64 2] 3)).alloc (.cells #[.int .i64 2,.slice (some ⟨X3.heap.size,0,none⟩) 2 2,.int .i64 2] 29)) #[.int .i64 0,.int .i64 2] 3;rw [show ((X3.alloc (.cells #[.int .i64 0,.int .i64 2] 3)).alloc (.cells #[.int .i64 2,.slice (some ⟨X3.heap.size,0,none⟩) 2 2,.int .i64 2] 29)).heap.size=X3.heap.size+1+1 by simp] at a3;have a4:=At.new (((X3.alloc (.cells #[.int .i64 0,.int .i64 2] 3)).alloc (.cells #[.int .i64 2,.slice (some ⟨X3.heap.size,0,none⟩) 2 2,.int .i64 2] 29)).alloc (.cells #[.int .i64 0,.int .i64 2] 3)) #[.int .i64 2,.slice (some ⟨X3.heap.size+1+1,0,none⟩) 2 2,.int .i64 1] 29;rw [show (((X3.alloc (.cells #[.int .i64 0,.int .i64 2] 3)).alloc (.cells #[.int .i64 2,.slice (some ⟨X3.heap.size,0,none⟩) 2 2,.int .i64 2] 29)).alloc (.cells #[.int .i64 0,.int .i64 2] 3)).heap.size=X3.heap.size+1+1+1 by simp] at a4;have g:Below X3.heap.size X3 ((((X3.alloc (.cells #[.int .i64 0,.int .i64 2] 3)).alloc (.cells #[.int .i64 2,.slice (some ⟨X3.heap.size,0,none⟩) 2 2,.int .i64 2] 29)).alloc (.cells #[.int .i64 0,.int .i64 2] 3)).alloc (.cells #[.int .i64 2,.slice (some ⟨X3.heap.size+1+1,0,none⟩) 2 2,.int .i64 1] 29)):=by go_grown
  exact ⟨HB4.out.1.next g,HB4.out.2.1.up g,HB4.out.2.2.1.below g HB4.out.2.2.1.lt,HB4.out.2.2.2.below g HB4.out.2.2.2.lt,(a2.alloc _).alloc _,a4,nl2 (((a1.alloc _).alloc _).alloc _),nl2 (a3.alloc _)⟩
 clear HB4;go_upto_region 7 with fail
 obtain ⟨Y,hY,hY2⟩:=HB5.out;have HB6:Hid (Wk w Y tb lb/\Nl Y ra 2 cB2/\At Y pb #[.int .i64 2,.slice ra 2 rc,.int .i64 2]/\At Y qb #[.int .i64 3,.slice sa 1 sc,.int .i64 1]/\At Y (X3.heap.size+1) #[.int .i64 2,.slice (some ⟨X3.heap.size,0,none⟩) 2 2,.int .i64 2]/\At Y (X3.heap.size+1+1+1) #[.int .i64 2,.slice (some ⟨X3.heap.size+1+1,0,none⟩) 2 2,.int .i64 1]/\Nl Y (some ⟨X3.heap.size,0,none⟩) 2 cB2/\Nl Y (some ⟨X3.heap.size+1+1,0,none⟩) 2 cB2):=hY2;clear hY2 HB5;rw [<- hY];clear hY;generalize X3.heap.size+1+1+1=vb at *;generalize X3.heap.size+1+1=vc at *;generalize X3.heap.size+1=ub at *;generalize X3.heap.size=uc at *;have tf:=HB6.out.1.t;have tf0:=tf.c 0 _ rfl;have tf1:=tf.c 1 _ rfl;have tf2:=tf.c 2 _ rfl;have tf3:=tf.c 3 _ rfl;have tf4:=tf.c 4 _ rfl;have tf5:=tf.c 5 _ rfl;have tf6:=tf.c 6 _ rfl;have tf7:=tf.c 7 _ rfl;have tf8:=tf.c 8 _ rfl;have tf9:=tf.c 9 _ rfl;have tf10:=tf.c 10 _ rfl;have tf11:=tf.c 11 _ rfl;have tf12:=tf.c 12 _ rfl;have tfl:=tf.lt;have p0:=HB6.out.2.2.1.c 0 _ rfl;have p1:=HB6.out.2.2.1.c 1 _ rfl;have p2:=HB6.out.2.2.1.c 2 _ rfl;have pl:=HB6.out.2.2.1.lt;clear tf;go_wp2_with (first
  | (go_at_call 9;refine Calls.mono (HCy.out _ _ _ _ _ HB6.out.1 HB6.out.2.1) ?_;rintro e w4 ⟨rfl,b4⟩;have HB7:Hid (Wk w w4 tb lb/\At w4 qb #[.int .i64 3,.slice sa 1 sc,.int .i64 1]/\At w4 ub #[.int .i64 2,.slice (some ⟨uc,0,none⟩) 2 2,.int .i64 2]/\At w4 vb #[.int .i64 2,.slice (some ⟨vc,0,none⟩) 2 2,.int .i64 1]/\Nl w4 (some ⟨uc,0,none⟩) 2 cB2/\Nl w4 (some ⟨vc,0,none⟩) 2 cB2):=(by
    obtain ⟨h1,h2,h3,h4,h5,h6,h7,h8⟩:=HB6.out;exact ⟨h1.next b4,h4.below b4 h4.lt,h5.below b4 h5.lt,h6.below b4 h6.lt,h7.up b4,h8.up b4⟩);clear b4 HB6 tf0 tf1 tf2 tf3 tf4 tf5 tf6 tf7 tf8 tf9 tf10 tf11 tf12 tfl p0 p1 p2 pl;have tf0:=HB7.out.1.t.c 0 _ rfl;have tf1:=HB7.out.1.t.c 1 _ rfl;have tf2:=HB7.out.1.t.c 2 _ rfl;have tf3:=HB7.out.1.t.c 3 _ rfl;have tf4:=HB7.out.1.t.c 4 _ rfl;have tf5:=HB7.out.1.t.c 5 _ rfl;have tf6:=HB7.out.1.t.c 6 _ rfl;have tf7:=HB7.out.1.t.c 7 _ rfl;have tf8:=HB7.out.1.t.c 8 _ rfl;have tf9:=HB7.out.1.t.c 9 _ rfl;have tf10:=HB7.out.1.t.c 10 _ rfl;have tf11:=HB7.out.1.t.c 11 _ rfl;have tf12:=HB7.out.1.t.c 12 _ rfl;have tfl:=HB7.out.1.t.lt;have q0:=HB7.out.2.1.c 0 _ rfl;have ql:=HB7.out.2.1.lt;have p0:=HB7.out.2.2.1.c 0 _ rfl;have p1:=HB7.out.2.2.1.c 1 _ rfl;have p2:=HB7.out.2.2.1.c 2 _ rfl;have pl:=HB7.out.2.2.1.lt)
  | (go_at_call 9;refine Calls.mono (HCy.out _ _ _ _ _ HB7.out.1 HB7.out.2.2.2.2.1) ?_;rintro e w5 ⟨rfl,b5⟩;have HB8:Hid (Wk w w5 tb lb/\At w5 vb #[.int .i64 2,.slice (some ⟨vc,0,none⟩) 2 2,.int .i64 1]/\Nl w5 (some ⟨vc,0,none⟩) 2 cB2):=(by
    obtain ⟨h1,h2,h3,h4,h5,h6⟩:=HB7.out;exact ⟨h1.next b5,h4.below b5 h4.lt,h6.up b5⟩);clear b5 HB7 HCy tf0 tf1 tf2 tf3 tf4 tf5 tf6 tf7 tf8 tf9 tf10 tf11 tf12 tfl p0 p1 p2 pl q0 ql;have tf0:=HB8.out.1.t.c 0 _ rfl;have tf1:=HB8.out.1.t.c 1 _ rfl;have tf2:=HB8.out.1.t.c 2 _ rfl;have tf3:=HB8.out.1.t.c 3 _ rfl;have tf4:=HB8.out.1.t.c 4 _ rfl;have tf5:=HB8.out.1.t.c 5 _ rfl;have tf6:=HB8.out.1.t.c 6 _ rfl;have tf7:=HB8.out.1.t.c 7 _ rfl;have tf8:=HB8.out.1.t.c 8 _ rfl;have tf9:=HB8.out.1.t.c 9 _ rfl;have tf10:=HB8.out.1.t.c 10 _ rfl;have tf11:=HB8.out.1.t.c 11 _ rfl;have tf12:=HB8.out.1.t.c 12 _ rfl;have tfl:=HB8.out.1.t.lt;have p0:=HB8.out.2.1.c 0 _ rfl;have p1:=HB8.out.2.1.c 1 _ rfl;have p2:=HB8.out.2.1.c 2 _ rfl;have pl:=HB8.out.2.1.lt)
  | (go_at_call 9;refine Calls.mono (HCn.out _ _ _ _ _ HB8.out.1 HB8.out.2.2) ?_;rintro e w6 ⟨rfl,b6⟩;have HB9:Hid (Below w.heap.size w w6):=(HB8.out.1.next b6).up;clear b6 HB8 HCn tf0 tf1 tf2 tf3 tf4 tf5 tf6 tf7 tf8 tf9 tf10 tf11 tf12 tfl p0 p1 p2 pl))
 go_ret
 exact ⟨rfl,HB9.out⟩
end Go.Proofs.YtiejdpjgplikjaaGreatDoor.Mo
