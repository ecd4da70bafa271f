/- Parts Yd Wh. -/
import Derived.Test.YtiejdpjgplikjaaGreatDoorN22
import Derived.Test.YtiejdpjgplikjaaGreatDoorN16
import Derived.WalkMore
import Derived.Test.YtiejdpjgplikjaaGreatDoorN00
set_option maxRecDepth 20000
set_option maxHeartbeats 32000000
namespace Go.Proofs.YtiejdpjgplikjaaGreatDoor.Mo
open Go.ChangeShapes Go.WideShapes Go.ChangeAt Go.RowKit
open YtiejdpjgplikjaaGreatDoor.Op YtiejdpjgplikjaaGreatDoor.So YtiejdpjgplikjaaGreatDoor.Dp YtiejdpjgplikjaaGreatDoor.Bn
open YtiejdpjgplikjaaGreatDoor.Ls (clN clN_at clN_lt Nl arC arC_all arC_yes arC_no areCycles_any)
open YtiejdpjgplikjaaGreatDoor.Rv (RAt Few frB tkF tk_few take_any evOk NwOut ring_ok tn addK)
open YtiejdpjgplikjaaGreatDoor.Tb (Tab TabAt Bnds)
theorem edges_any (ao:Option Addr) (cap:Nat) (xs:List O) (t:Tab) (w:World) (h:OpsAt w ao xs) (hcap:xs.length<=cap) (hG:Bnds w) (he:lisE t xs=0) :
  Calls Tryz.prog 30 #[.slice ao xs.length cap,t.val] w fun e w'=>∃ a c,e=.returned (.slice a (loopE t xs).length c)/\EOwn w.heap.size w' a c (loopE t xs)/\Below w.heap.size w w':=by
 have HL:Hid (∀ W,Below w.heap.size w W->Calls Tryz.prog 12 #[.slice ao xs.length cap,t.val] W (EdOut W 0 (loopE t xs))):=fun W hb=>by
  have:=loop_any ao cap xs t W (h.below hb) hcap (hG.below hb hG.big)
  unfold erE at this;rw [if_pos he,he] at this;exact this
 have hlen:=h.len;clear h hcap hG he;unfold EdOut at HL;generalize loopE t xs=es at *;unfold Tab.val at *;go_enter Tryz.func30,Tryz.ntmps30;go_wp2_with (first
  | (go_at_call 12;refine Calls.mono (HL.out _ (by go_grown)) ?_;rintro e w2 ⟨ea,ec,rfl,ho,hb⟩;have HT:Hid (EOwn w.heap.size w2 ea ec es/\Below w.heap.size w w2):=⟨rowB ho (by simp),Below.trans (by go_grown) (hb.mono (by simp))⟩;clear ho hb HL))
 go_ret
 exact ⟨ea,ec,rfl,HT.out.1,HT.out.2⟩
def mcB (t:Tab) (xs:List O) (n:Nat) (g:Nat->Int) (E S:Int):Bool:=decide (rgE t xs=0)&&decide (1+t.d<=E)&&decide (E<=65536)&&decide (n=xs.length)&&arC n g&&decide (S<=31)&&decide (S=stg n g E)&&(kpB (loopE t xs) g E&&kuB t xs g E)
theorem mc_parts {t:Tab} {xs:List O} {n:Nat} {g:Nat->Int} {E S:Int} (h:mcB t xs n g E S=true):rgE t xs=0/\1+t.d<=E/\E<=65536/\n=xs.length/\arC n g=true/\S<=31/\S=stg n g E/\kpB (loopE t xs) g E=true/\kuB t xs g E=true:=by
 unfold mcB at h;simp only [Bool.and_eq_true,decide_eq_true_eq] at h;obtain ⟨⟨⟨⟨⟨⟨⟨h1,h2⟩,h3⟩,h4⟩,h5⟩,h6⟩,h7⟩,h8,h9⟩:=h;exact ⟨h1,h2,h3,h4,h5,h6,h7,h8,h9⟩
theorem mc_no {t:Tab} {xs:List O} {n:Nat} {g:Nat->Int} {E S:Int} (h:¬ (rgE t xs=0/\1+t.d<=E/\E<=65536/\n=xs.length/\arC n g=true/\S<=31/\S=stg n g E)):mcB t xs n g E S=false:=by
 cases e:mcB t xs n g E S
 ·rfl
 ·obtain ⟨h1,h2,h3,h4,h5,h6,h7,-,-⟩:=mc_parts e;exact absurd ⟨h1,h2,h3,h4,h5,h6,h7⟩ h
theorem mc_last {t:Tab} {xs:List O} {n:Nat} {g:Nat->Int} {E S:Int} (h1:rgE t xs=0) (h2:1+t.d<=E) (h3:E<=65536) (h4:n=xs.length) (h5:arC n g=true) (h6:S<=31) (h7:S=stg n g E):mcB t xs n g E S=(kpB (loopE t xs) g E&&kuB t xs g E):=by
 unfold mcB;rw [decide_eq_true h1,decide_eq_true h2,decide_eq_true h3,decide_eq_true h4,h5,decide_eq_true h6,decide_eq_true h7];rfl
structure Cx (w W:World) (t:Tab) (E:Int) (a:Option Addr) (n ccap:Nat) (S:Int):Prop where
 t:TabAt W w.heap.size t
 p:At W (w.heap.size+1) #[.int .i64 E,.slice a n ccap,.int .i64 S]
 up:Below w.heap.size w W
theorem Cx.next {w W W':World} {t:Tab} {E:Int} {a:Option Addr} {n ccap:Nat} {S:Int} (h:Cx w W t E a n ccap S) (g:Below W.heap.size W W'):Cx w W' t E a n ccap S:=⟨h.t.below g h.t.lt,h.p.below g h.p.lt,h.up.trans (g.mono h.up.size)⟩
theorem cx_new (w:World) (t:Tab) (E S:Int) (a:Option Addr) (n ccap:Nat):Cx w ((w.alloc (.cells t.cells 25)).alloc (.cells #[.int .i64 E,.slice a n ccap,.int .i64 S] 29)) t E a n ccap S:=by
 have a1:=Tb.tabAt_new w t 25;have a2:=At.new (w.alloc (.cells t.cells 25)) #[.int .i64 E,.slice a n ccap,.int .i64 S] 29;rw [show (w.alloc (.cells t.cells 25)).heap.size=w.heap.size+1 by simp] at a2;exact ⟨a1.below ((Below.refl _ _).alloc (Nat.le_refl _) _) a1.lt,a2,by go_grown⟩
theorem cx_start (w:World) (t:Tab) (E S:Int) (a:Option Addr) (n ccap:Nat) {W:World} (hb:Below ((w.alloc (.cells t.cells 25)).alloc (.cells #[.int .i64 E,.slice a n ccap,.int .i64 S] 29)).heap.size ((w.alloc (.cells t.cells 25)).alloc (.cells #[.int .i64 E,.slice a n ccap,.int .i64 S] 29)) W):Cx w W t E a n ccap S:=(cx_new w t E S a n ccap).next hb
theorem check_any (a ao:Option Addr) (n ccap cap:Nat) (xs:List O) (t:Tab) (g:Nat->Int) (E S:Int) (w:World) (hg:Nl w a n g) (h:OpsAt w ao xs) (hcap:xs.length<=cap) (hG:Bnds w) (hnn:n<=9000000000000000000) :
  Calls Tryz.prog 9 #[.slice ao xs.length cap,t.val,.agg #[.int .i64 E,.slice a n ccap,.int .i64 S]] w fun e w'=>e=.returned (.bool (mcB t xs n g E S))/\Below w.heap.size w w':=by
 have HU:Hid (∀ W,Below w.heap.size w W->Calls Tryz.prog 26 #[.slice ao xs.length cap,.agg #[.int .i64 (t.u 0),.int .i64 (t.u 1),.int .i64 (t.u 2),.int .i64 (t.u 3),.int .i64 (t.l 0),.int .i64 (t.l 1),.int .i64 (t.l 2),.int .i64 (t.l 3),.int .i64 (t.b 0),.int .i64 (t.b 1),.int .i64 (t.b 2),.int .i64 (t.b 3),.int .i64 t.d]] W fun e w'=>e=.returned (.tuple #[.int .i64 (unE t xs),.int .i64 (rgE t xs)])/\Below W.heap.size W w'):=fun W hb=>units_any ao cap xs t W (h.below hb) hcap (hG.below hb hG.big);have hlen:=h.len;have hni:(n:Int)<=9000000000000000000:=by omega
 have hli:(xs.length:Int)<=8796093022208:=by omega
 by_cases he:rgE t xs=0
 ·obtain ⟨ht,hn64,hlis,hhu⟩:=rg_ok he;obtain ⟨⟨d0,d4⟩,-⟩:=tab_in ht;rw [he] at HU;generalize unE t xs=un at HU
  by_cases c1:E<1+t.d
  ·rw [mc_no fun q=>by omega];clear h hcap hG hg he;unfold Tab.val;go_enter Tryz.func9,Tryz.ntmps9;go_wp2_with (first
    | (go_at_call 26;refine Calls.mono (HU.out _ (by go_grown)) ?_;rintro e w1 ⟨rfl,b1⟩;have HT:Hid (Cx w w1 t E a n ccap S):=cx_start w t E S a n ccap b1;clear b1 HU;have k2:=HT.out.t;have qu0:=k2.cu 0 (by decide);have qu1:=k2.cu 1 (by decide);have qu2:=k2.cu 2 (by decide);have qu3:=k2.cu 3 (by decide);have ql0:=k2.cl 0 (by decide);have ql1:=k2.cl 1 (by decide);have ql2:=k2.cl 2 (by decide);have ql3:=k2.cl 3 (by decide);have qb0:=k2.cb 0 (by decide);have qb1:=k2.cb 1 (by decide);have qb2:=k2.cb 2 (by decide);have qb3:=k2.cb 3 (by decide);have qd:=k2.cd;have qz:=k2.lt;clear k2;have p0:=HT.out.p.c 0 _ rfl;have p1:=HT.out.p.c 1 _ rfl;have p2:=HT.out.p.c 2 _ rfl;have pz:=HT.out.p.lt))
   go_ret
   exact ⟨rfl,HT.out.up⟩
  ·have c1':1+t.d<=E:=by omega
   by_cases c2:65536<E
   ·rw [mc_no fun q=>by omega];clear h hcap hG hg he;unfold Tab.val;go_enter Tryz.func9,Tryz.ntmps9;go_wp2_with (first
     | (go_at_call 26;refine Calls.mono (HU.out _ (by go_grown)) ?_;rintro e w1 ⟨rfl,b1⟩;have HT:Hid (Cx w w1 t E a n ccap S):=cx_start w t E S a n ccap b1;clear b1 HU;have k2:=HT.out.t;have qu0:=k2.cu 0 (by decide);have qu1:=k2.cu 1 (by decide);have qu2:=k2.cu 2 (by decide);have qu3:=k2.cu 3 (by decide);have ql0:=k2.cl 0 (by decide);have ql1:=k2.cl 1 (by decide);have ql2:=k2.cl 2 (by decide);have ql3:=k2.cl 3 (by decide);have qb0:=k2.cb 0 (by decide);have qb1:=k2.cb 1 (by decide);have qb2:=k2.cb 2 (by decide);have qb3:=k2.cb 3 (by decide);have qd:=k2.cd;have qz:=k2.lt;clear k2;have p0:=HT.out.p.c 0 _ rfl;have p1:=HT.out.p.c 1 _ rfl;have p2:=HT.out.p.c 2 _ rfl;have pz:=HT.out.p.lt))
    go_ret
    exact ⟨rfl,HT.out.up⟩
   ·have c2':E<=65536:=by omega
    by_cases c3:n=xs.length
    ·subst c3;have HA:Hid (∀ W,Below w.heap.size w W->Calls Tryz.prog 27 #[.slice a xs.length ccap] W fun e w'=>e=.returned (.bool (arC xs.length g))/\Below W.heap.size W w'):=fun W hb=>areCycles_any a xs.length ccap g W (hg.up hb) (by omega)
     cases c4:arC xs.length g
     ·rw [mc_no fun q=>by rw [q.2.2.2.2.1] at c4;cases c4];rw [c4] at HA;clear h hcap hG hg he;generalize xs.length=n at *;unfold Tab.val;go_enter Tryz.func9,Tryz.ntmps9;go_wp2_with (first
       | (go_at_call 26;refine Calls.mono (HU.out _ (by go_grown)) ?_;rintro e w1 ⟨rfl,b1⟩;have HT:Hid (Cx w w1 t E a n ccap S):=cx_start w t E S a n ccap b1;clear b1 HU;have k2:=HT.out.t;have qu0:=k2.cu 0 (by decide);have qu1:=k2.cu 1 (by decide);have qu2:=k2.cu 2 (by decide);have qu3:=k2.cu 3 (by decide);have ql0:=k2.cl 0 (by decide);have ql1:=k2.cl 1 (by decide);have ql2:=k2.cl 2 (by decide);have ql3:=k2.cl 3 (by decide);have qb0:=k2.cb 0 (by decide);have qb1:=k2.cb 1 (by decide);have qb2:=k2.cb 2 (by decide);have qb3:=k2.cb 3 (by decide);have qd:=k2.cd;have qz:=k2.lt;clear k2;have p0:=HT.out.p.c 0 _ rfl;have p1:=HT.out.p.c 1 _ rfl;have p2:=HT.out.p.c 2 _ rfl;have pz:=HT.out.p.lt)
       | (go_at_call 27;refine Calls.mono (HA.out _ HT.out.up) ?_;rintro e w2 ⟨rfl,b2⟩;have HT2:Hid (Cx w w2 t E a n ccap S):=HT.out.next b2;clear b2 HA HT qu0 qu1 qu2 qu3 ql0 ql1 ql2 ql3 qb0 qb1 qb2 qb3 qd qz p0 p1 p2 pz))
      go_ret
      exact ⟨rfl,HT2.out.up⟩
     ·rw [c4] at HA;have hgr:=arC_all c4;have hwr1:IntKind.i64.wrap (1+t.d)=1+t.d:=by rw [IntKind.wrap_i64];omega
      have HS:Hid (∀ W,Below w.heap.size w W->Calls Tryz.prog 28 #[.slice a xs.length ccap,.int .i64 E] W fun e w'=>e=.returned (.int .i64 (stg xs.length g E))/\Below W.heap.size W w'):=fun W hb=>stages_any a xs.length ccap g E W (hg.up hb) (by omega) hgr (by omega) c2';have HEg:Hid (∀ W,Below w.heap.size w W->Calls Tryz.prog 30 #[.slice ao xs.length cap,.agg #[.int .i64 (t.u 0),.int .i64 (t.u 1),.int .i64 (t.u 2),.int .i64 (t.u 3),.int .i64 (t.l 0),.int .i64 (t.l 1),.int .i64 (t.l 2),.int .i64 (t.l 3),.int .i64 (t.b 0),.int .i64 (t.b 1),.int .i64 (t.b 2),.int .i64 (t.b 3),.int .i64 t.d]] W fun e w'=>∃ a c,e=.returned (.slice a (loopE t xs).length c)/\EOwn W.heap.size w' a c (loopE t xs)/\Below W.heap.size W w'):=fun W hb=>edges_any ao cap xs t W (h.below hb) hcap (hG.below hb hG.big) hlis;have HKe:Hid (∀ W ea ec,Below w.heap.size w W->Es W ea (loopE t xs)->Calls Tryz.prog 29 #[.agg #[.int .i64 E,.slice a xs.length ccap,.int .i64 S],.slice ea (loopE t xs).length ec] W fun e w'=>e=.returned (.bool (kpB (loopE t xs) g E))/\Below W.heap.size W w'):=fun W ea ec hb hs=>keepEdges_any a xs.length ccap g E S ea ec _ W (hg.up hb) hgr hs (loopE_ok h he) (loopE_len (by omega)) (by omega) (by omega) c2';have HKu:Hid (∀ W,Below w.heap.size w W->Calls Tryz.prog 31 #[.agg #[.int .i64 E,.slice a xs.length ccap,.int .i64 S],.slice ao xs.length cap,.agg #[.int .i64 (t.u 0),.int .i64 (t.u 1),.int .i64 (t.u 2),.int .i64 (t.u 3),.int .i64 (t.l 0),.int .i64 (t.l 1),.int .i64 (t.l 2),.int .i64 (t.l 3),.int .i64 (t.b 0),.int .i64 (t.b 1),.int .i64 (t.b 2),.int .i64 (t.b 3),.int .i64 t.d]] W fun e w'=>e=.returned (.bool (kuB t xs g E))/\Below W.heap.size W w'):=fun W hb=>keepUnits_any a ao ccap cap xs t g E S W (hg.up hb) hgr (h.below hb) (by omega) (hG.below hb hG.big) ht c1' c2';have HNo:Hid (¬ (S<=31/\S=stg xs.length g E)->mcB t xs xs.length g E S=false):=fun q=>mc_no fun p=>q p.2.2.2.2.2;have HLs:Hid (S<=31->S=stg xs.length g E->mcB t xs xs.length g E S=(kpB (loopE t xs) g E&&kuB t xs g E)):=fun q1 q2=>mc_last he c1' c2' rfl c4 q1 q2;have hst:1<=stg xs.length g E/\stg xs.length g E<=65537:=by
       have m0:=mxN_ge g xs.length;have m1:mxN g xs.length<=65536:=mxN_le (by omega) fun k hk=>(hgr k hk).2
       have:=Int.ediv_nonneg m0 (show (0:Int)<=E by omega)
       have:=Int.ediv_le_self E m0
       unfold stg;omega
      clear h hcap hG hg he hgr hhu hlis ht c4 hn64;generalize mcB t xs xs.length g E S=R at *;generalize stg xs.length g E=st at *;generalize kpB (loopE t xs) g E=be at *;generalize kuB t xs g E=bu at *;generalize loopE t xs=es at *;generalize es.length=M at *;generalize xs.length=n at *;obtain ⟨st0,st1⟩:=hst;unfold Tab.val;go_enter Tryz.func9,Tryz.ntmps9;go_upto_region 6 with (first
       | (go_at_call 26;refine Calls.mono (HU.out _ (by go_grown)) ?_;rintro e w1 ⟨rfl,b1⟩;have HT:Hid (Cx w w1 t E a n ccap S):=cx_start w t E S a n ccap b1;clear b1 HU;have k2:=HT.out.t;have qu0:=k2.cu 0 (by decide);have qu1:=k2.cu 1 (by decide);have qu2:=k2.cu 2 (by decide);have qu3:=k2.cu 3 (by decide);have ql0:=k2.cl 0 (by decide);have ql1:=k2.cl 1 (by decide);have ql2:=k2.cl 2 (by decide);have ql3:=k2.cl 3 (by decide);have qb0:=k2.cb 0 (by decide);have qb1:=k2.cb 1 (by decide);have qb2:=k2.cb 2 (by decide);have qb3:=k2.cb 3 (by decide);have qd:=k2.cd;have qz:=k2.lt;clear k2;have p0:=HT.out.p.c 0 _ rfl;have p1:=HT.out.p.c 1 _ rfl;have p2:=HT.out.p.c 2 _ rfl;have pz:=HT.out.p.lt)
       | (go_at_call 27;refine Calls.mono (HA.out _ HT.out.up) ?_;rintro e w2 ⟨rfl,b2⟩;have HT2:Hid (Cx w w2 t E a n ccap S):=HT.out.next b2;clear b2 HA HT qu0 qu1 qu2 qu3 ql0 ql1 ql2 ql3 qb0 qb1 qb2 qb3 qd qz p0 p1 p2 pz))
      by_cases c5:31<S
      ·have HR:Hid (false=R):=(HNo.out (by omega)).symm;have c5d:decide (31<S)=true:=decide_eq_true c5;refine wp_region_held_drew (S:=fun Z=>Cx w Z t E a n ccap S) (by kernel_rfl) (HT2.out.next (drew_up _)) (fun zH=>?_);refine wg 0 (.pointer (some ⟨w.heap.size+1,2,none⟩)) rfl zH ?_;simp only [pq];refine wt 1 (.int .i64 S) rfl (fun w' hSw=>by (have hSw:Cx w w' t E a n ccap S:=hSw;have y2:=hSw.p.c 2 _ rfl;have yl:=hSw.p.lt;go_simp)) zH ?_;simp only [pq];refine wg 2 (.bool true) rfl zH ?_;simp only [pq];refine wg 3 (.bool true) rfl zH ?_;simp only [pq];refine wn 4 rfl zH ?_;simp only [pq];refine wn 5 rfl zH ?_;simp only [pq];refine wn 6 rfl zH ?_;simp only [pq];refine wn 7 rfl zH ?_;simp only [pq];refine wn 8 rfl zH ?_;simp only [pq];refine wn 9 rfl zH ?_;simp only [pq];refine wn 10 rfl zH ?_;simp only [pq];refine wn 11 rfl zH ?_;simp only [pq];refine wg 12 (.bool true) rfl zH ?_;simp only [pq];refine wpAnyH_done (by kernel_rfl) ?_ _;clear zH;go_wp2_with fail
       go_ret
       exact ⟨ret_bool HR.out,(HT2.out.next (drew_up _)).up⟩
      ·have c5d:decide (31<S)=false:=decide_eq_false c5;refine wp_region_held_drew (S:=fun Z=>Cx w Z t E a n ccap S) (by kernel_rfl) (HT2.out.next (drew_up _)) (fun zH=>?_);refine wg 0 (.pointer (some ⟨w.heap.size+1,2,none⟩)) rfl zH ?_;simp only [pq];refine wt 1 (.int .i64 S) rfl (fun w' hSw=>by (have hSw:Cx w w' t E a n ccap S:=hSw;have y2:=hSw.p.c 2 _ rfl;have yl:=hSw.p.lt;go_simp)) zH ?_;simp only [pq];refine wg 2 (.bool false) rfl zH ?_;simp only [pq];refine wg 3 (.bool false) rfl zH ?_;simp only [pq];refine wg 4 (.pointer (some ⟨w.heap.size+1,2,none⟩)) rfl zH ?_;simp only [pq];refine wt 5 (.int .i64 S) rfl (fun w' hSw=>by (have hSw:Cx w w' t E a n ccap S:=hSw;have y2:=hSw.p.c 2 _ rfl;have yl:=hSw.p.lt;go_simp)) zH ?_;simp only [pq];refine wg 6 (.pointer (some ⟨w.heap.size+1,1,none⟩)) rfl zH ?_;simp only [pq];refine wt 7 (.slice a n ccap) rfl (fun w' hSw=>by (have hSw:Cx w w' t E a n ccap S:=hSw;have y1:=hSw.p.c 1 _ rfl;have yl:=hSw.p.lt;go_simp)) zH ?_;simp only [pq];refine wg 8 (.pointer (some ⟨w.heap.size+1,0,none⟩)) rfl zH ?_;simp only [pq];refine wt 9 (.int .i64 E) rfl (fun w' hSw=>by (have hSw:Cx w w' t E a n ccap S:=hSw;have y0:=hSw.p.c 0 _ rfl;have yl:=hSw.p.lt;go_simp)) zH ?_;simp only [pq];refine wpAnyH_ready (rs:=[10]) (by kernel_rfl) (by simp) ?_;refine AllReadyH.cons rfl (fun K hK=>?_) AllReadyH.nil;go_simp
       refine Calls.mono (HS.out _ (HT2.out.next (drew_up _)).up) ?_;rintro e w3 ⟨rfl,b3⟩;have HT3:Hid (Cx w w3 t E a n ccap S):=(HT2.out.next (drew_up _)).next b3;clear b3 HS HT2;refine hK.out _ _ HT3.out (fun zH=>?_);clear hK K
       by_cases c6:S=st
       ·subst c6;have HR:Hid (R=(be&&bu)):=HLs.out (by omega) rfl;refine wg 11 (.bool false) rfl zH ?_;simp only [pq];refine wg 12 (.bool false) rfl zH ?_;simp only [pq];refine wpAnyH_done (by kernel_rfl) ?_ _;clear zH;go_upto_region 8 with fail
        refine wp_region_held_drew (S:=fun Z=>Cx w Z t E a n ccap S) (by kernel_rfl) (HT3.out.next (drew_up _)) (fun zH=>?_);refine wt 0 (.agg #[.int .i64 E,.slice a n ccap,.int .i64 S]) rfl (fun w' hSw=>by (have hSw:Cx w w' t E a n ccap S:=hSw;have y0:=hSw.p.c 0 _ rfl;have y1:=hSw.p.c 1 _ rfl;have y2:=hSw.p.c 2 _ rfl;have yl:=hSw.p.lt;go_simp)) zH ?_;simp only [pq];refine wg 1 (.slice ao n cap) rfl zH ?_;simp only [pq];refine wt 2 (.agg #[.int .i64 (t.u 0),.int .i64 (t.u 1),.int .i64 (t.u 2),.int .i64 (t.u 3),.int .i64 (t.l 0),.int .i64 (t.l 1),.int .i64 (t.l 2),.int .i64 (t.l 3),.int .i64 (t.b 0),.int .i64 (t.b 1),.int .i64 (t.b 2),.int .i64 (t.b 3),.int .i64 t.d]) rfl (fun w' hSw=>by (have hSw:Cx w w' t E a n ccap S:=hSw;have k2:=hSw.t;have qu0:=k2.cu 0 (by decide);have qu1:=k2.cu 1 (by decide);have qu2:=k2.cu 2 (by decide);have qu3:=k2.cu 3 (by decide);have ql0:=k2.cl 0 (by decide);have ql1:=k2.cl 1 (by decide);have ql2:=k2.cl 2 (by decide);have ql3:=k2.cl 3 (by decide);have qb0:=k2.cb 0 (by decide);have qb1:=k2.cb 1 (by decide);have qb2:=k2.cb 2 (by decide);have qb3:=k2.cb 3 (by decide);have qd:=k2.cd;have qz:=k2.lt;clear k2;go_simp)) zH ?_;simp only [pq];refine wpAnyH_ready (rs:=[3]) (by kernel_rfl) (by simp) ?_;refine AllReadyH.cons rfl (fun K hK=>?_) AllReadyH.nil;go_simp
        refine Calls.mono (HEg.out _ (HT3.out.next (drew_up _)).up) ?_;rintro e w4 ⟨ea,ec,rfl,o4,b4⟩;have HT4:Hid (Cx w w4 t E a n ccap S/\Es w4 ea es):=⟨(HT3.out.next (drew_up _)).next b4,es_of o4⟩;clear b4 o4 HEg HT3;refine hK.out _ _ HT4.out.1 (fun zH=>?_);clear hK K;refine wpAnyH_ready (rs:=[4]) (by kernel_rfl) (by simp) ?_;refine AllReadyH.cons rfl (fun K hK=>?_) AllReadyH.nil;go_simp
        refine Calls.mono (HKe.out _ _ _ HT4.out.1.up HT4.out.2) ?_;rintro e w5 ⟨rfl,b5⟩;have HT5:Hid (Cx w w5 t E a n ccap S):=HT4.out.1.next b5;clear b5 HKe HT4;refine hK.out _ _ HT5.out (fun zH=>?_);clear hK K
        cases be
        ·have HR2:Hid (false=R):=by rw [HR.out];rfl
         refine wg 5 (.bool false) rfl zH ?_;simp only [pq];refine wn 6 rfl zH ?_;simp only [pq];refine wn 7 rfl zH ?_;simp only [pq];refine wn 8 rfl zH ?_;simp only [pq];refine wn 9 rfl zH ?_;simp only [pq];refine wg 10 (.bool false) rfl zH ?_;simp only [pq];refine wg 11 (.bool false) rfl zH ?_;simp only [pq];refine wpAnyH_done (by kernel_rfl) ?_ _;clear zH;go_wp2_with fail
         go_ret
         exact ⟨ret_bool HR2.out,HT5.out.up⟩
        ·have HR2:Hid (bu=R):=by rw [HR.out];cases bu <;> rfl
         refine wg 5 (.bool true) rfl zH ?_;simp only [pq];refine wt 6 (.agg #[.int .i64 E,.slice a n ccap,.int .i64 S]) rfl (fun w' hSw=>by (have hSw:Cx w w' t E a n ccap S:=hSw;have y0:=hSw.p.c 0 _ rfl;have y1:=hSw.p.c 1 _ rfl;have y2:=hSw.p.c 2 _ rfl;have yl:=hSw.p.lt;go_simp)) zH ?_;simp only [pq];refine wg 7 (.slice ao n cap) rfl zH ?_;simp only [pq];refine wt 8 (.agg #[.int .i64 (t.u 0),.int .i64 (t.u 1),.int .i64 (t.u 2),.int .i64 (t.u 3),.int .i64 (t.l 0),.int .i64 (t.l 1),.int .i64 (t.l 2),.int .i64 (t.l 3),.int .i64 (t.b 0),.int .i64 (t.b 1),.int .i64 (t.b 2),.int .i64 (t.b 3),.int .i64 t.d]) rfl (fun w' hSw=>by (have hSw:Cx w w' t E a n ccap S:=hSw;have k2:=hSw.t;have qu0:=k2.cu 0 (by decide);have qu1:=k2.cu 1 (by decide);have qu2:=k2.cu 2 (by decide);have qu3:=k2.cu 3 (by decide);have ql0:=k2.cl 0 (by decide);have ql1:=k2.cl 1 (by decide);have ql2:=k2.cl 2 (by decide);have ql3:=k2.cl 3 (by decide);have qb0:=k2.cb 0 (by decide);have qb1:=k2.cb 1 (by decide);have qb2:=k2.cb 2 (by decide);have qb3:=k2.cb 3 (by decide);have qd:=k2.cd;have qz:=k2.lt;clear k2;go_simp)) zH ?_;simp only [pq];refine wpAnyH_ready (rs:=[9]) (by kernel_rfl) (by simp) ?_;refine AllReadyH.cons rfl (fun K hK=>?_) AllReadyH.nil;go_simp
         refine Calls.mono (HKu.out _ HT5.out.up) ?_;rintro e w6 ⟨rfl,b6⟩;have HT6:Hid (Cx w w6 t E a n ccap S):=HT5.out.next b6;clear b6 HKu HT5;refine hK.out _ _ HT6.out (fun zH=>?_);clear hK K;refine wg 10 (.bool bu) rfl zH ?_;simp only [pq];refine wg 11 (.bool bu) rfl zH ?_;simp only [pq];refine wpAnyH_done (by kernel_rfl) ?_ _;clear zH;go_wp2_with fail
         go_ret
         exact ⟨ret_bool HR2.out,HT6.out.up⟩
       ·have HR:Hid (false=R):=(HNo.out fun q=>c6 q.2).symm;have c6':(S != st)=true:=by simpa using c6
        refine wg 11 (.bool true) rfl zH ?_;simp only [pq];refine wg 12 (.bool true) rfl zH ?_;simp only [pq];refine wpAnyH_done (by kernel_rfl) ?_ _;clear zH;go_wp2_with fail
        go_ret
        exact ⟨ret_bool HR.out,HT3.out.up⟩
    ·rw [mc_no fun q=>c3 q.2.2.2.1];have c3':((n:Int) != (xs.length:Int))=true:=by simp;omega
     clear h hcap hG hg he;unfold Tab.val;go_enter Tryz.func9,Tryz.ntmps9;go_wp2_with (first
      | (go_at_call 26;refine Calls.mono (HU.out _ (by go_grown)) ?_;rintro e w1 ⟨rfl,b1⟩;have HT:Hid (Cx w w1 t E a n ccap S):=cx_start w t E S a n ccap b1;clear b1 HU;have k2:=HT.out.t;have qu0:=k2.cu 0 (by decide);have qu1:=k2.cu 1 (by decide);have qu2:=k2.cu 2 (by decide);have qu3:=k2.cu 3 (by decide);have ql0:=k2.cl 0 (by decide);have ql1:=k2.cl 1 (by decide);have ql2:=k2.cl 2 (by decide);have ql3:=k2.cl 3 (by decide);have qb0:=k2.cb 0 (by decide);have qb1:=k2.cb 1 (by decide);have qb2:=k2.cb 2 (by decide);have qb3:=k2.cb 3 (by decide);have qd:=k2.cd;have qz:=k2.lt;clear k2;have p0:=HT.out.p.c 0 _ rfl;have p1:=HT.out.p.c 1 _ rfl;have p2:=HT.out.p.c 2 _ rfl;have pz:=HT.out.p.lt))
     go_ret
     exact ⟨rfl,HT.out.up⟩
 ·rw [mc_no fun q=>he q.1];have he':(rgE t xs != 0)=true:=by simpa using he
  clear h hcap hG hg;generalize rgE t xs=er at *;generalize unE t xs=un at HU;unfold Tab.val;go_enter Tryz.func9,Tryz.ntmps9;go_wp2_with (first
   | (go_at_call 26;refine Calls.mono (HU.out _ (by go_grown)) ?_;rintro e w1 ⟨rfl,b1⟩;have HT:Hid (Cx w w1 t E a n ccap S):=cx_start w t E S a n ccap b1;clear b1 HU))
  go_ret
  exact ⟨rfl,HT.out.up⟩
end Go.Proofs.YtiejdpjgplikjaaGreatDoor.Mo
namespace Go.Proofs.YtiejdpjgplikjaaGreatDoor.Ls
open Go.ChangeShapes Go.WideShapes Go.ChangeAt Go.RowKit
open YtiejdpjgplikjaaGreatDoor.Op YtiejdpjgplikjaaGreatDoor.So YtiejdpjgplikjaaGreatDoor.Dp YtiejdpjgplikjaaGreatDoor.ListWay
open YtiejdpjgplikjaaGreatDoor.Rv (RAt Few frB tkF tk_few take_any free_any evOk)
open YtiejdpjgplikjaaGreatDoor.Tb (Tab TabAt Bnds)
def lenOf:Value->Nat | .slice _ n _=>n|_=>0
theorem placeAll_ok {w W:World} {d:Dt} {ao:Option Addr} {cap:Nat} {t:Tab} {xs:List O} {es:List Ed} {lb:Nat} {ord:List Nat} (lcap:Nat) (h:Pz w W d ao cap t xs es lb ord (fun _=>-1)) (hd:ord.Nodup) (ho:∀ i,i∈ord↔i<xs.length) (hlb:w.heap.size<=lb/\lb<d.rb/\lb<d.mb) (ht:t.ok=true) (hu:hvU t xs=true) (hE:EOk xs.length es) (hl:es.length<=100000000) (hn:xs.length<=1024) (hlc:ord.length<=lcap) (hlc2:lcap<=1000000) :
  Calls Tryz.prog 43 #[.pointer (some ⟨d.wb,0,none⟩),.slice (some ⟨lb,0,none⟩) ord.length lcap] W fun e w'=>e=.returned (.tuple #[])/\Pz w w' d ao cap t xs es lb ord (sch (sysL t xs es) ord):=by
 have hok:=sysL_ok ht hu hE;obtain ⟨s,hs⟩:∃ s,sysL t xs es=s:=⟨_,rfl⟩;have HSy:Hid (sysL t xs es=s):=hs;have hsn:s.n=xs.length:=by rw [<- hs];rfl
 have ho':∀ i,i∈ord↔i<s.n:=by rw [hsn];exact ho
 rw [hs] at hok ⊢;have HOk:Hid (s.Ok):=hok;have HOr:Hid (ord.Nodup/\(∀ i,i∈ord↔i<s.n)):=⟨hd,ho'⟩;have HE:Hid (EOk xs.length es/\es.length<=100000000/\t.ok=true/\(∀ i,i∈ord↔i<xs.length)):=⟨hE,hl,ht,ho⟩;have HLb0:Hid (w.heap.size<=lb/\lb<d.rb/\lb<d.mb):=hlb;have hn':(xs.length:Int)<=1024:=by omega
 have hlw:∀ c:Nat->Int,(lft ord c).length<=lcap:=fun c=>Nat.le_trans (List.length_filter_le ..) hlc;have HLw:Hid (∀ c:Nat->Int,(lft ord c).length<=lcap):=hlw;have hlc3:(lcap:Int)<=1000000:=by omega
 have HP0:Hid (Pz w W d ao cap t xs es lb ord (fun _=>-1)):=h;have HSn:Hid (s.n=xs.length):=hsn;have hwy:∃ m f C Wt Ff,Wy w W d ao cap t xs es m f C Wt Ff:=by obtain ⟨m,Wt,Ff,h1,-⟩:=h.ex;exact ⟨_,_,_,_,_,h1⟩
 obtain ⟨m0,f0,C0,Wt0,Ff0,hwy0⟩:=hwy;have wl:=hwy0.at'.lt;have c1:W.cell? ⟨d.wb,1,none⟩=some (.pointer (some ⟨d.rb,0,none⟩)):=hwy0.at'.c 1 _ rfl;have hol:ord.length=(lft ord (fun _=>-1)).length:=by rw [lft_start]
 rw [hol];clear hs hok hsn ho' hd ho hE hl hn ht hu hlb h hwy0 hlw hol hlc hlc2;go_enter Tryz.func43,Tryz.ntmps43;go_wp2_with fail
 go_region
 go_wp2_with fail
 go_loopw [1,6] (fun lv cv wr=>∃ (c:Nat->Int) (y:Int),lv=.slice (some ⟨lb,0,none⟩) (lft ord c).length lcap/\cv=.int .i64 y/\Pz w wr d ao cap t xs es lb ord c/\(∃ y0,OnWay s ord c y0)/\(lft ord c≠[]->OnWay s ord c y)/\0<=y/\y<=8*(xs.length:Int)+1) (fun _ cv _=>(8*(xs.length:Int)+2-intOf cv).toNat)
 case atStart=>exact ⟨_,0,rfl,rfl,by first|exact HP0.out|exact HP0.out.next (drew_up _),⟨0,OnWay.start s ord⟩,fun _=>OnWay.start s ord,by omega,by omega⟩
 case round=>
  rename World=>wr;obtain ⟨c,y,rfl,rfl,hp,hw0,hw,hy0,hy1⟩:=hrel;have HP:Hid (Pz w wr d ao cap t xs es lb ord c):=hp;have HW0:Hid (∃ y0,OnWay s ord c y0):=hw0;have HWy:Hid (lft ord c≠[]->OnWay s ord c y):=hw;clear hp hw0 hw HP0 wl c1
  by_cases hlen:(lft ord c).length=0
  ·rw [hlen];have l0:¬ (0:Int)<((0:Nat):Int):=by omega
   go_wp2_with fail
   go_end0
   obtain ⟨y0,hy⟩:=HW0.out
   have:=hy.done HOk.out HOr.out.2 (lft_all HOr.out.2 (List.length_eq_zero_iff.1 hlen))
   rw [<- this];exact ⟨rfl,HP.out⟩
  ·have l0:(0:Int)<((lft ord c).length:Int):=by omega
   have HWz:Hid (OnWay s ord c y):=HWy.out (fun e=>hlen (by rw [e];rfl));go_wp2_with fail
   obtain ⟨J,hJ0⟩:∃ J:Act->World->Prop,J=fun a' w'=>∃ (c:Nat->Int) (u7 u8 u16 u17 u18 u19 u20 u21 u22 u23 u24 u25 u26 u27 u28 u29 u30 u31 u32 u33 u34 u35 u36 u37 u38 u39 u40 u41 u42 u43 u44 u45 u46 u47 u48 u49 u50 u51 u52 u53 u54:Value),a' = { tmps:=#[.pointer (some ⟨d.wb,0,none⟩),.slice (some ⟨lb,0,none⟩) (lft ord c).length lcap,undef,undef,.func (.func 83) #[.pointer (some ⟨d.wb,0,none⟩)] #[],.func (.func 84) #[.pointer (some ⟨d.rb,0,none⟩)] #[],.int .i64 y,u7,u8,.pointer (some ⟨d.wb,0,none⟩),.func (.func 83) #[.pointer (some ⟨d.wb,0,none⟩)] #[],.pointer (some ⟨d.wb,0,none⟩),.pointer (some ⟨d.wb,0,none⟩),.pointer (some ⟨d.wb,1,none⟩),.pointer (some ⟨d.rb,0,none⟩),.func (.func 84) #[.pointer (some ⟨d.rb,0,none⟩)] #[],u16,u17,u18,u19,u20,u21,u22,u23,u24,u25,u26,u27,u28,u29,u30,u31,u32,u33,u34,u35,u36,u37,u38,u39,u40,u41,u42,u43,u44,u45,u46,u47,u48,u49,u50,u51,u52,u53,u54],defers:=[] }/\Pz w w' d ao cap t xs es lb ord c/\OnWay s ord c y:=⟨_,rfl⟩;have hJ:Hid (J=fun a' w'=>∃ (c:Nat->Int) (u7 u8 u16 u17 u18 u19 u20 u21 u22 u23 u24 u25 u26 u27 u28 u29 u30 u31 u32 u33 u34 u35 u36 u37 u38 u39 u40 u41 u42 u43 u44 u45 u46 u47 u48 u49 u50 u51 u52 u53 u54:Value),a' = { tmps:=#[.pointer (some ⟨d.wb,0,none⟩),.slice (some ⟨lb,0,none⟩) (lft ord c).length lcap,undef,undef,.func (.func 83) #[.pointer (some ⟨d.wb,0,none⟩)] #[],.func (.func 84) #[.pointer (some ⟨d.rb,0,none⟩)] #[],.int .i64 y,u7,u8,.pointer (some ⟨d.wb,0,none⟩),.func (.func 83) #[.pointer (some ⟨d.wb,0,none⟩)] #[],.pointer (some ⟨d.wb,0,none⟩),.pointer (some ⟨d.wb,0,none⟩),.pointer (some ⟨d.wb,1,none⟩),.pointer (some ⟨d.rb,0,none⟩),.func (.func 84) #[.pointer (some ⟨d.rb,0,none⟩)] #[],u16,u17,u18,u19,u20,u21,u22,u23,u24,u25,u26,u27,u28,u29,u30,u31,u32,u33,u34,u35,u36,u37,u38,u39,u40,u41,u42,u43,u44,u45,u46,u47,u48,u49,u50,u51,u52,u53,u54],defers:=[] }/\Pz w w' d ao cap t xs es lb ord c/\OnWay s ord c y):=hJ0;clear hJ0;refine wp_scope_label 0 J (fun a' _=>lenOf (a'.tmps.getD 1 undef)) (by rw [hJ.out];exact ⟨c,_,_,_,_,_,_,_,_,_,_,_,_,_,_,_,_,_,_,_,_,_,_,_,_,_,_,_,_,_,_,_,_,_,_,_,_,_,_,_,_,_,rfl,HP.out,HWz.out⟩) ?_;clear HP HW0 HWy HWz l0 hlen;intro a' wz hj;rw [hJ.out] at hj;obtain ⟨c,u7,u8,u16,u17,u18,u19,u20,u21,u22,u23,u24,u25,u26,u27,u28,u29,u30,u31,u32,u33,u34,u35,u36,u37,u38,u39,u40,u41,u42,u43,u44,u45,u46,u47,u48,u49,u50,u51,u52,u53,u54,rfl,hp,hw⟩:=hj;have HWz:Hid (OnWay s ord c y):=hw;have hiv:=hw.inv HOk.out HOr.out.2;have hyp:y<=8*(xs.length:Int):=by
    have h1:=hiv.yp;have h2:=placed_le s c;have h3:=HSn.out;omega
   obtain ⟨m,Wt,Ff,hwy,hWO,hFO,hmm⟩:=hp.ex;have HSt:Hid (WOk s c Wt/\FOk s c Ff/\m<=4*placed s c/\Few (cntF s c)/\m<=4096):=by
    have h2:=placed_le s c;have h3:=HSn.out;have h4:=hp.fw;rw [HSy.out] at hWO hFO hmm h4;exact ⟨hWO,hFO,hmm,h4,by omega⟩
   have HWb:Hid (∀ j,0<=Wt j/\Wt j<=100000000):=fun j=>by
    have h1:=hWO.in j;have h2:(sysL t xs es).es.length=es.length:=List.length_map ..;have h3:=HE.out.2.1;rw [h2] at h1;omega
   have HFb:Hid (∀ j,0<=Ff j/\Ff j<=100000):=fun j=>by
    have h1:=HSt.out.2.1;have h2:=FOk.in' HOk.out h1 hiv j;omega
   have HPz:Hid (Pz w wz d ao cap t xs es lb ord c):=hp;obtain ⟨L,hL⟩:∃ L,lft ord c=L:=⟨_,rfl⟩;have HL:Hid (lft ord c=L):=hL;have HQ0:Hid (Wy w wz d ao cap t xs es m (cntF s c) (cyF c) Wt Ff/\Lf wz lb L):=by
    rw [HSy.out] at hwy;exact ⟨hwy,by rw [<- hL];exact hp.lf⟩
   have hLl:L.length<=lcap:=by rw [<- hL];exact HLw.out c
   have HLm:Hid (∀ k (hk:k<L.length),L[k]<xs.length/\c L[k]<0):=fun k hk=>by
    subst hL;exact ⟨(HE.out.2.2.2 _).1 (lft_mem hk).1,(lft_mem hk).2⟩
   rw [hL];clear hp hw hwy hWO hFO hmm hL;obtain ⟨C,hC⟩:∃ C,cyF c=C:=⟨_,rfl⟩;have HC:Hid (cyF c=C):=hC;obtain ⟨f,hf⟩:∃ f,cntF s c=f:=⟨_,rfl⟩;have HF:Hid (cntF s c=f):=hf;rw [hC,hf] at HQ0;clear hC hf;have hLi:(L.length:Int)<=1000000:=by omega
   go_wp2_with fail
   go_loopw [1,23] (fun lv v wr=>∃ k:Nat,k<=L.length/\lv=.slice (some ⟨lb,0,none⟩) L.length lcap/\v=.int .i64 k/\(∀ (j:Nat) (hj:j<L.length),j<k->rfB s c y L[j]=false)/\Wy w wr d ao cap t xs es m f C Wt Ff/\Lf wr lb L) (fun _ v _=>L.length-(intOf v).toNat)
   case atStart=>exact ⟨0,by omega,rfl,rfl,fun j _ hj=>by omega,HQ0.out⟩
   case round=>
    rename World=>wx;obtain ⟨k,hk,rfl,rfl,hno,hq⟩:=hrel;have HNo:Hid (∀ (j:Nat) (hj:j<L.length),j<k->rfB s c y L[j]=false):=hno;have HQ:Hid (Wy w wx d ao cap t xs es m f C Wt Ff/\Lf wx lb L):=hq;clear hno hq HQ0
    by_cases hlt:k<L.length
    ·have k0:(0:Int)<=(k:Int):=by omega
     have k1:(k:Int)<(L.length:Int):=by omega
     have q0:=HQ.out.2.c k hlt;have ql:=HQ.out.2.lt;obtain ⟨hin,hcn⟩:=HLm.out k hlt;have HNo2:Hid (rfB s c y L[k]=false->∀ (j:Nat) (hj:j<L.length),j<k+1->rfB s c y L[j]=false):=fun e j hj hjk=>by
      rcases Nat.lt_or_ge j k with h|h
      ·exact HNo.out j hj h
      ·obtain rfl:j=k:=by omega
       exact e
     have HFd:Hid (rfB s c y L[k]=true->ord.find? (okB s c y)=some L[k]):=fun e=>by
      rw [find_lft,HL.out];exact find_first hlt e fun j hj=>HNo.out j (by omega) hj
     have HAsk:Hid (((decide (Wt L[k]=0)&&decide (Ff L[k]<=y))&&frB t none f (clN xs L[k]:Int) y)=rfB s c y L[k]):=by
      have h1:=HSt.out.1;have h2:=HSt.out.2.1;rw [<- HSy.out] at h1 h2;have h3:=ask_is HE.out.2.2.1 h1 h2 L[k] hy0 (by omega);rw [HSy.out,HF.out] at h3;exact h3
     have HStp:Hid (∀ (w5 w6:World) (m5:Nat),Wy w w5 d ao cap t xs es m5 (tkF t none f (clN xs L[k]:Int) y) (updI C L[k] y) (plW ((frm es L[k]).map eg) Wt) (plF y ((frm es L[k]).map eg) Ff)->m5<=m+4->frB t none f (clN xs L[k]:Int) y=true->Fr (One lb) w5 w6->Lf w6 lb (L.eraseIdx k)->Pz w w6 d ao cap t xs es lb ord (ListWay.upd c L[k] y)/\lft ord (ListWay.upd c L[k] y)=L.eraseIdx k):=fun w5 w6 m5 q1 q2 q3 q4 q5=>by
      have h1:=HSt.out.1;have h2:=HSt.out.2.1;have h3:=HSt.out.2.2.1;have h4:=HF.out;have hk':k<(lft ord c).length:=by rw [HL.out];exact hlt
      have hel:(lft ord c)[k]=L[k]:=by have:=HL.out;subst this;rfl
      rw [<- HSy.out] at h1 h2 h3 h4;rw [<- h4,<- HC.out,<- hel] at q1;rw [<- h4,<- hel] at q3;rw [<- HL.out] at q5;rw [<- hel,<- HL.out];exact ⟨HPz.out.step HOr.out.1 HE.out.2.2.2 HLb0.out HE.out.2.2.1 h1 h2 h3 hk' hy0 q3 q1 q2 q4 q5,lft_place HOr.out.1 hk' hy0⟩
     have HOw:Hid (ord.find? (okB s c y)=some L[k]->OnWay s ord (ListWay.upd c L[k] y) y):=fun e=>HWz.out.place HOr.out.2 e;have HDl:Hid (∀ Z,Lf Z lb L->Calls Tryz.prog 86 #[.slice (some ⟨lb,0,none⟩) L.length lcap,.int .i64 (k:Int),.int .i64 ((k:Int)+1)] Z fun e w'=>e=.returned (.slice (some ⟨lb,0,none⟩) (L.length-1) lcap)/\Fr (One lb) Z w'/\Lf w' lb (L.eraseIdx k)):=fun Z hZ=>del_any lb lcap k L Z hZ hlt hLl (by omega);have hopi:=HQ.out.1.op;obtain ⟨i,hie⟩:∃ i,L[k]=i:=⟨_,rfl⟩;rw [hie] at q0 hin hcn HNo2 HFd HAsk HStp HOw;clear hie;obtain ⟨b,g,rfl,hbl,hops⟩:=hopi.is (by omega);have HOp:Hid (∀ Z,Below w.heap.size w Z->OAt Z b (g+i*5) xs[i]):=fun Z hZ=>(hops i hin).below hZ hbl;have HOl:Hid (∀ Z,Below w.heap.size w Z->b<Z.heap.size):=fun Z hZ=>Nat.lt_of_lt_of_le hbl hZ.size;have HRd:Hid (∀ Z,Wy w Z d (some ⟨b,g,none⟩) cap t xs es m f C Wt Ff->Calls Tryz.prog 83 #[.pointer (some ⟨d.wb,0,none⟩),.int .i64 (i:Int),.int .i64 y] Z fun e w'=>e=.returned (.bool (decide (Wt i=0)&&decide (Ff i<=y)))/\Below Z.heap.size Z w'):=fun Z hZ=>wready_any i y hZ hin;have HFr:Hid (∀ Z,Wy w Z d (some ⟨b,g,none⟩) cap t xs es m f C Wt Ff->Calls Tryz.prog 84 #[.pointer (some ⟨d.rb,0,none⟩),.int .i64 (clN xs i:Int),.int .i64 y] Z fun e w'=>e=.returned (.bool (frB t none f (clN xs i:Int) y))/\Below Z.heap.size Z w'):=fun Z hZ=>free_any _ _ Z hZ.ra trivial (by have:=HSt.out.2.2.2.1;rw [HF.out] at this;exact this) HE.out.2.2.1;have HCl:Hid (∀ Z,Calls Tryz.prog 80 #[(xs[i]'hin).val] Z fun e w'=>e=.returned (.int .i64 (clN xs i:Int))/\Below Z.heap.size Z w'):=fun Z=>by rw [clN_at hin];exact classOf_any xs[i] Z
     have HPl:Hid (∀ Z,Wy w Z d (some ⟨b,g,none⟩) cap t xs es m f C Wt Ff->Calls Tryz.prog 85 #[.pointer (some ⟨d.wb,0,none⟩),.int .i64 (i:Int),.int .i64 y] Z fun e w'=>e=.returned (.tuple #[])/\∃ m',Wy w w' d (some ⟨b,g,none⟩) cap t xs es m' (tkF t none f (clN xs i:Int) y) (updI C i y) (plW ((frm es i).map eg) Wt) (plF y ((frm es i).map eg) Ff)/\m'<=m+4/\Fr (Tw d) Z w'):=fun Z hZ=>by
      rw [clN_at hin];exact place_any i y hZ hin hy0 (by omega) HE.out.1 HE.out.2.1 (by omega) HE.out.2.2.1 (by have:=HSt.out.2.2.2.1;rw [HF.out] at this;exact this) (by have:=HSt.out.2.2.2.2;omega) HWb.out HFb.out
     have HLbT:Hid (¬ Tw d lb):=by
      have o:=HQ.out.1.ok;have h1:=HLb0.out;have h2:=o.rw;have h3:=o.wc;have h4:=o.wt;have h5:=o.wf;intro e;rcases e with e|e|e|e <;> omega
     obtain ⟨o,hoe⟩:∃ o,xs[i]'hin=o:=⟨_,rfl⟩;rw [hoe] at HOp HCl;obtain ⟨cl,hcl⟩:∃ cl,clN xs i=cl:=⟨_,rfl⟩;rw [hcl] at HAsk HStp HFr HCl HPl;generalize tkF t none f (cl:Int) y=f2 at *;generalize updI C i y=C2 at *;generalize plW ((frm es i).map eg) Wt=W2 at *;generalize plF y ((frm es i).map eg) Ff=F2 at *;generalize frB t none f (cl:Int) y=fr at *;generalize (decide (Wt i=0)&&decide (Ff i<=y))=rd at *;clear hoe hcl hops hopi hbl;have i0:(0:Int)<=(i:Int):=by omega
     obtain ⟨n,hN⟩:∃ n,xs.length=n:=⟨_,rfl⟩;have HN:Hid (xs.length=n):=hN;have i1:(i:Int)<(n:Int):=by omega
     clear hN
     cases rd
     ·have HRn:Hid (rfB s c y i=false):=by rw [<- HAsk.out];rfl
      go_wp2_with (first
     | (go_at_call 83;refine Calls.mono (HRd.out _ HQ.out.1) ?_;rintro e w2 ⟨rfl,b2⟩;have HQ2:Hid (Wy w w2 d (some ⟨b,g,none⟩) cap t xs es m f C Wt Ff/\Lf w2 lb L):=⟨HQ.out.1.next b2,HQ.out.2.fr (Fr.of (X:=Non) b2) (fun h=>h)⟩;clear b2 HQ HRd q0 ql;have c0:w2.cell? ⟨d.wb,0,none⟩=some (.slice (some ⟨b,g,none⟩) n cap):=(by have:=HQ2.out.1.at'.c 0 _ rfl;rw [HN.out] at this;exact this);have wl:=HQ2.out.1.at'.lt;obtain ⟨p0,p1,p2,p3,p4⟩:=HOp.out _ HQ2.out.1.up;have pl:=HOl.out _ HQ2.out.1.up)
     | (go_at_call 80;refine Calls.mono (HCl.out _) ?_;rintro e w3 ⟨rfl,b3⟩;have HQ3:Hid (Wy w w3 d (some ⟨b,g,none⟩) cap t xs es m f C Wt Ff/\Lf w3 lb L):=⟨HQ2.out.1.next b3,HQ2.out.2.fr (Fr.of (X:=Non) b3) (fun h=>h)⟩;clear b3 HQ2 HCl p0 p1 p2 p3 p4 pl c0 wl)
     | (go_at_call 84;refine Calls.mono (HFr.out _ HQ3.out.1) ?_;rintro e w4 ⟨rfl,b4⟩;have HQ4:Hid (Wy w w4 d (some ⟨b,g,none⟩) cap t xs es m f C Wt Ff/\Lf w4 lb L):=⟨HQ3.out.1.next b4,HQ3.out.2.fr (Fr.of (X:=Non) b4) (fun h=>h)⟩;clear b4 HQ3 HFr)
     | (go_at_call 85;refine Calls.mono (HPl.out _ HQ4.out.1) ?_;rintro e w5 ⟨rfl,m5,y5,l5,f5⟩;have HQ5:Hid (Wy w w5 d (some ⟨b,g,none⟩) cap t xs es m5 f2 C2 W2 F2/\m5<=m+4/\Lf w5 lb L):=⟨y5,l5,HQ4.out.2.fr f5 HLbT.out⟩;clear y5 l5 f5 HQ4 HPl)
     | (go_at_call 86;refine Calls.mono (HDl.out _ HQ5.out.2.2) ?_;rintro e w6 ⟨rfl,f6,l6⟩;have HQ6:Hid (Fr (One lb) w5 w6/\Lf w6 lb (L.eraseIdx k)):=⟨f6,l6⟩;clear f6 l6 HDl))
      go_roundw
      case rel=>exact ⟨k+1,by omega,rfl,by go_num,HNo2.out HRn.out,HQ2.out⟩
      case measure=>simp [intOf];omega
     ·cases fr
      ·have HRn:Hid (rfB s c y i=false):=by rw [<- HAsk.out];rfl
       go_wp2_with (first
     | (go_at_call 83;refine Calls.mono (HRd.out _ HQ.out.1) ?_;rintro e w2 ⟨rfl,b2⟩;have HQ2:Hid (Wy w w2 d (some ⟨b,g,none⟩) cap t xs es m f C Wt Ff/\Lf w2 lb L):=⟨HQ.out.1.next b2,HQ.out.2.fr (Fr.of (X:=Non) b2) (fun h=>h)⟩;clear b2 HQ HRd q0 ql;have c0:w2.cell? ⟨d.wb,0,none⟩=some (.slice (some ⟨b,g,none⟩) n cap):=(by have:=HQ2.out.1.at'.c 0 _ rfl;rw [HN.out] at this;exact this);have wl:=HQ2.out.1.at'.lt;obtain ⟨p0,p1,p2,p3,p4⟩:=HOp.out _ HQ2.out.1.up;have pl:=HOl.out _ HQ2.out.1.up)
     | (go_at_call 80;refine Calls.mono (HCl.out _) ?_;rintro e w3 ⟨rfl,b3⟩;have HQ3:Hid (Wy w w3 d (some ⟨b,g,none⟩) cap t xs es m f C Wt Ff/\Lf w3 lb L):=⟨HQ2.out.1.next b3,HQ2.out.2.fr (Fr.of (X:=Non) b3) (fun h=>h)⟩;clear b3 HQ2 HCl p0 p1 p2 p3 p4 pl c0 wl)
     | (go_at_call 84;refine Calls.mono (HFr.out _ HQ3.out.1) ?_;rintro e w4 ⟨rfl,b4⟩;have HQ4:Hid (Wy w w4 d (some ⟨b,g,none⟩) cap t xs es m f C Wt Ff/\Lf w4 lb L):=⟨HQ3.out.1.next b4,HQ3.out.2.fr (Fr.of (X:=Non) b4) (fun h=>h)⟩;clear b4 HQ3 HFr)
     | (go_at_call 85;refine Calls.mono (HPl.out _ HQ4.out.1) ?_;rintro e w5 ⟨rfl,m5,y5,l5,f5⟩;have HQ5:Hid (Wy w w5 d (some ⟨b,g,none⟩) cap t xs es m5 f2 C2 W2 F2/\m5<=m+4/\Lf w5 lb L):=⟨y5,l5,HQ4.out.2.fr f5 HLbT.out⟩;clear y5 l5 f5 HQ4 HPl)
     | (go_at_call 86;refine Calls.mono (HDl.out _ HQ5.out.2.2) ?_;rintro e w6 ⟨rfl,f6,l6⟩;have HQ6:Hid (Fr (One lb) w5 w6/\Lf w6 lb (L.eraseIdx k)):=⟨f6,l6⟩;clear f6 l6 HDl))
       go_roundw
       case rel=>exact ⟨k+1,by omega,rfl,by go_num,HNo2.out HRn.out,HQ4.out⟩
       case measure=>simp [intOf];omega
      ·have HRy:Hid (rfB s c y i=true):=by rw [<- HAsk.out];rfl
       go_wp2_with (first
     | (go_at_call 83;refine Calls.mono (HRd.out _ HQ.out.1) ?_;rintro e w2 ⟨rfl,b2⟩;have HQ2:Hid (Wy w w2 d (some ⟨b,g,none⟩) cap t xs es m f C Wt Ff/\Lf w2 lb L):=⟨HQ.out.1.next b2,HQ.out.2.fr (Fr.of (X:=Non) b2) (fun h=>h)⟩;clear b2 HQ HRd q0 ql;have c0:w2.cell? ⟨d.wb,0,none⟩=some (.slice (some ⟨b,g,none⟩) n cap):=(by have:=HQ2.out.1.at'.c 0 _ rfl;rw [HN.out] at this;exact this);have wl:=HQ2.out.1.at'.lt;obtain ⟨p0,p1,p2,p3,p4⟩:=HOp.out _ HQ2.out.1.up;have pl:=HOl.out _ HQ2.out.1.up)
     | (go_at_call 80;refine Calls.mono (HCl.out _) ?_;rintro e w3 ⟨rfl,b3⟩;have HQ3:Hid (Wy w w3 d (some ⟨b,g,none⟩) cap t xs es m f C Wt Ff/\Lf w3 lb L):=⟨HQ2.out.1.next b3,HQ2.out.2.fr (Fr.of (X:=Non) b3) (fun h=>h)⟩;clear b3 HQ2 HCl p0 p1 p2 p3 p4 pl c0 wl)
     | (go_at_call 84;refine Calls.mono (HFr.out _ HQ3.out.1) ?_;rintro e w4 ⟨rfl,b4⟩;have HQ4:Hid (Wy w w4 d (some ⟨b,g,none⟩) cap t xs es m f C Wt Ff/\Lf w4 lb L):=⟨HQ3.out.1.next b4,HQ3.out.2.fr (Fr.of (X:=Non) b4) (fun h=>h)⟩;clear b4 HQ3 HFr)
     | (go_at_call 85;refine Calls.mono (HPl.out _ HQ4.out.1) ?_;rintro e w5 ⟨rfl,m5,y5,l5,f5⟩;have HQ5:Hid (Wy w w5 d (some ⟨b,g,none⟩) cap t xs es m5 f2 C2 W2 F2/\m5<=m+4/\Lf w5 lb L):=⟨y5,l5,HQ4.out.2.fr f5 HLbT.out⟩;clear y5 l5 f5 HQ4 HPl)
     | (go_at_call 86;refine Calls.mono (HDl.out _ HQ5.out.2.2) ?_;rintro e w6 ⟨rfl,f6,l6⟩;have HQ6:Hid (Fr (One lb) w5 w6/\Lf w6 lb (L.eraseIdx k)):=⟨f6,l6⟩;clear f6 l6 HDl))
       go_step3
       obtain ⟨hpz,hlf⟩:=HStp.out w5 w6 m5 HQ5.out.1 HQ5.out.2.1 (by simp) HQ6.out.1 HQ6.out.2;have hlen:L.length-1=(lft ord (ListWay.upd c i y)).length:=by rw [hlf,List.length_eraseIdx_of_lt hlt]
       change (0:Nat)=0/\(J _ w6/\_)
       refine ⟨rfl,?_,?_⟩
       ·rw [hJ.out,hlen];exact ⟨ListWay.upd c i y,_,_,_,_,_,_,_,_,_,_,_,_,_,_,_,_,_,_,_,_,_,_,_,_,_,_,_,_,_,_,_,_,_,_,_,_,_,_,_,_,_,rfl,hpz,HOw.out (HFd.out HRy.out)⟩
       ·show L.length-1<L.length;omega
    ·obtain rfl:k=L.length:=by omega
     have k1:¬ ((L.length:Nat):Int)<((L.length:Nat):Int):=by omega
     have HFn:Hid (ord.find? (okB s c y)=none):=by
      rw [find_lft,HL.out];exact find_not fun j hj=>HNo.out j hj hj
     go_wp2_with fail
     simp only [Exit.jump];go_wp2_with fail
     have hpz:Pz w wx d ao cap t xs es lb ord c:=by
      have h1:=HSt.out.1;have h2:=HSt.out.2.1;have h3:=HSt.out.2.2.1;have h4:=HSt.out.2.2.2.1;have h5:=HQ.out.1;rw [<- HF.out,<- HC.out,<- HSy.out] at h5;rw [<- HSy.out] at h1 h2 h3 h4;exact ⟨⟨m,Wt,Ff,h5,h1,h2,h3⟩,h4,by rw [HL.out];exact HQ.out.2⟩
     refine ⟨⟨_,_,_,_,_,_,_,_,_,_,_,_,_,_,_,_,_,_,_,_,_,_,_,_,_,_,_,_,_,_,_,_,_,_,_,_,_,_,_,_,_,_,_,⟨c,y+1,by rw [HL.out],by first|rfl|go_num,hpz,⟨y,HWz.out⟩,fun hne=>HWz.out.next (lft_lt HOr.out.2 hne) HFn.out,by omega,by omega⟩,rfl⟩,?_⟩;simp [intOf]
     omega
end Go.Proofs.YtiejdpjgplikjaaGreatDoor.Ls
