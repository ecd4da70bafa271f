/- Parts Dd. -/
import Derived.Test.YtcmlnemokckbdaaGreatDoorN40
import Derived.Deep.RegionHeld3
import Derived.Deep.DeepCutAuto
import Derived.Test.YtcmlnemokckbdaaGreatDoorN00
set_option maxRecDepth 20000
set_option maxHeartbeats 16000000
namespace Go.Proofs.YtcmlnemokckbdaaGreatDoor.Dp
open Go.ChangeShapes Go.WideShapes Go.ChangeAt Go.RowKit
open YtcmlnemokckbdaaGreatDoor.Op YtcmlnemokckbdaaGreatDoor.So
open YtcmlnemokckbdaaGreatDoor.Tb (Tab TabAt Bnds)
structure St (w W:World) (t:Tab) (a:Option Addr) (c:Nat) (es:List Ed):Prop where
 t:TabAt W w.heap.size t
 es:EOwn (w.heap.size+1) W a c es
 up:Below w.heap.size w W
theorem St.row {w W:World} {t:Tab} {a:Option Addr} {c:Nat} {es:List Ed} (s:St w W t a c es):W.ownsRow (w.heap.size+1) 112 5 (.slice a es.length c) es.length (ecells es):=s.es
theorem St.next {w W W':World} {t:Tab} {a:Option Addr} {c:Nat} {es:List Ed} (s:St w W t a c es) (g:Below W.heap.size W W'):St w W' t a c es:=⟨s.t.below g s.t.lt,s.es.up g,s.up.trans (g.mono s.up.size)⟩
theorem St.add {w W X w4:World} {t:Tab} {a:Option Addr} {c g cap:Nat} {es:List Ed} {e:Ed} (s:St w W t a c es) (g0:Below W.heap.size W X) (hgrow:X.grownBy w4 (Value.slice a es.length c).ownBlock) (hown:w4.ownsRow (w.heap.size+1) 112 5 (.slice (some ⟨g,0,none⟩) (es.length+1) cap) (es.length+1) (ecells es++e.cells)):St w w4 t (some ⟨g,0,none⟩) cap (es++[e]):=by
 have s2:=s.next g0;have h0:X.ownsRow (w.heap.size+1) 112 5 (.slice a es.length c) es.length (ecells es):=s2.es;have hl:=s2.t.lt;have B:Below (w.heap.size+1) X w4:=(grown_fr hgrow).below (by omega) fun k hk e=>by
  have:=(h0.lt k e).1
  omega
 refine ⟨s2.t.below B (by omega),?_,s2.up.trans (B.mono (by omega))⟩;show w4.ownsRow (w.heap.size+1) 112 5 (.slice (some ⟨g,0,none⟩) (es++[e]).length cap) (es++[e]).length (ecells (es++[e]));rw [ecells_put,List.length_append];exact hown
theorem pairD_any (ao:Option Addr) (cap:Nat) (xs:List O) (t:Tab) (i j:Nat) (d:Int) (meet:Bool) (w:World) (h:OpsAt w ao xs) (hA:Lall xs) (ht:t.ok=true) (hi:i<xs.length) (hj:j<xs.length) :
  Calls Tryz.prog 97 #[.slice ao xs.length cap,t.val,.int .i64 i,.int .i64 j,.int .i64 d,.bool meet] w fun e w'=>∃ a c,e=.returned (.slice a (pairD t xs[i] xs[j] i j d meet).length c)/\EOwn w.heap.size w' a c (pairD t xs[i] xs[j] i j d meet)/\Below w.heap.size w w':=by
 have hlen:=h.len;obtain ⟨oi1,oi2⟩:=hA _ (List.getElem_mem hi);obtain ⟨oj1,oj2⟩:=hA _ (List.getElem_mem hj);have H60:Hid (∀ W,Calls Tryz.prog 36 #[xs[j].val] W fun e w'=>e=.returned (.tuple #[.int .u8 (wrD xs[j]),.bool (wrB xs[j])])/\Below W.heap.size W w'):=fun W=>refWrites_any _ W oj1;have H61:Hid (∀ W,Calls Tryz.prog 131 #[xs[i].val,.int .u8 (wrD xs[j])] W fun e w'=>e=.returned (.bool (saysB xs[i] (wrD xs[j])))/\Below W.heap.size W w'):=fun W=>says_any _ _ W oi1 oi2;have H62:Hid (∀ W,Calls Tryz.prog 132 #[xs[i].val,.int .u8 (wrD xs[j])] W fun e w'=>e=.returned (.bool (wq xs[i] (wrD xs[j])))/\Below W.heap.size W w'):=fun W=>writes_any _ _ W oi1;have H34i:Hid (∀ W,Calls Tryz.prog 96 #[xs[i].val,t.val] W fun e w'=>e=.returned (.int .i64 (latO t xs[i]))/\Below W.heap.size W w'):=fun W=>lat_any _ t W;have H34j:Hid (∀ W,Calls Tryz.prog 96 #[xs[j].val,t.val] W fun e w'=>e=.returned (.int .i64 (latO t xs[j]))/\Below W.heap.size W w'):=fun W=>lat_any _ t W;have H63i:Hid (∀ W,Calls Tryz.prog 133 #[xs[i].val] W fun e w'=>e=.returned (.bool (ordB xs[i].op))/\Below W.heap.size W w'):=fun W=>effect_any _ W;have H63j:Hid (∀ W,Calls Tryz.prog 133 #[xs[j].val] W fun e w'=>e=.returned (.bool (ordB xs[j].op))/\Below W.heap.size W w'):=fun W=>effect_any _ W;have HLi:Hid (1<=latO t xs[i]/\latO t xs[i]<=8):=by
  have hc:=clV_in xs[i].op;exact Tb.inB_iff ((Tb.ok_parts ht).2 _ (by omega)).2.1
 have HLj:Hid (1<=latO t xs[j]/\latO t xs[j]<=8):=by
  have hc:=clV_in xs[j].op;exact Tb.inB_iff ((Tb.ok_parts ht).2 _ (by omega)).2.1
 obtain ⟨b,f,rfl,hz,hx⟩:=h.is (by omega);have HOc:Hid (∀ W,Below w.heap.size w W->b<W.heap.size/\W.cell? ⟨b,f+i*5,none⟩=some (.int .i8 xs[i].op)/\W.cell? ⟨b,f+i*5+1,none⟩=some (.int .u8 xs[i].d)/\W.cell? ⟨b,f+i*5+2,none⟩=some (.int .u8 xs[i].a)/\W.cell? ⟨b,f+i*5+3,none⟩=some (.int .u8 xs[i].b)/\W.cell? ⟨b,f+i*5+4,none⟩=some (.int .i64 xs[i].im)/\W.cell? ⟨b,f+j*5,none⟩=some (.int .i8 xs[j].op)/\W.cell? ⟨b,f+j*5+1,none⟩=some (.int .u8 xs[j].d)/\W.cell? ⟨b,f+j*5+2,none⟩=some (.int .u8 xs[j].a)/\W.cell? ⟨b,f+j*5+3,none⟩=some (.int .u8 xs[j].b)/\W.cell? ⟨b,f+j*5+4,none⟩=some (.int .i64 xs[j].im)):=fun W g=>by
  obtain ⟨b',f',e,hz',hx'⟩:=(h.below g).is (by omega)
  cases e
  obtain ⟨a0,a1,a2,a3,a4⟩:=hx' i hi;obtain ⟨c0,c1,c2,c3,c4⟩:=hx' j hj;exact ⟨hz',a0,a1,a2,a3,a4,c0,c1,c2,c3,c4⟩
 have i0':(0:Int)<=(i:Int):=by omega
 have i1':(i:Int)<(xs.length:Int):=by omega
 have j0':(0:Int)<=(j:Int):=by omega
 have j1':(j:Int)<(xs.length:Int):=by omega
 have HS0:Hid (St w (w.alloc (.cells t.cells 28)) t none 0 []):=⟨Tb.tabAt_new w t 28,World.ownsRow_nil _ _ _ _,by go_grown⟩;have hdef:pairD t xs[i] xs[j] i j d meet=(if (wrB xs[j]&&saysB xs[i] (wrD xs[j]))=true then [⟨i,j,0,d,1⟩] else [])++((if (wrB xs[j]&&wq xs[i] (wrD xs[j]))=true then [⟨i,j,max 0 (latO t xs[i]-latO t xs[j]+1),d,2⟩] else [])++((if (meet&&(xs[i].op==16 || xs[j].op==16))=true then [⟨i,j,if xs[i].op=16 then (if xs[j].op=15 then t.l 2 else 1) else 0,d,3⟩] else [])++(if (ordB xs[i].op&&ordB xs[j].op)=true then [⟨i,j,1,d,4⟩] else []))):=rfl;rw [hdef];have hl4:∀ (bb:Bool) (e:Ed),(if bb=true then [e] else []).length<=1:=fun bb e=>by cases bb <;> simp
 obtain ⟨es1,hes1⟩:∃ es1,(if (wrB xs[j]&&saysB xs[i] (wrD xs[j]))=true then [(⟨i,j,0,d,1⟩:Ed)] else [])=es1:=⟨_,rfl⟩;obtain ⟨L2,hL2⟩:∃ L2,(if (wrB xs[j]&&wq xs[i] (wrD xs[j]))=true then [(⟨i,j,max 0 (latO t xs[i]-latO t xs[j]+1),d,2⟩:Ed)] else [])=L2:=⟨_,rfl⟩;obtain ⟨L3,hL3⟩:∃ L3,(if (meet&&(xs[i].op==16 || xs[j].op==16))=true then [(⟨i,j,if xs[i].op=16 then (if xs[j].op=15 then t.l 2 else 1) else 0,d,3⟩:Ed)] else [])=L3:=⟨_,rfl⟩;obtain ⟨L4,hL4⟩:∃ L4,(if (ordB xs[i].op&&ordB xs[j].op)=true then [(⟨i,j,1,d,4⟩:Ed)] else [])=L4:=⟨_,rfl⟩;rw [hes1,hL2,hL3,hL4];have n1:es1.length<=1:=by rw [<- hes1];exact hl4 _ _
 have n2:L2.length<=1:=by rw [<- hL2];exact hl4 _ _
 have n3:L3.length<=1:=by rw [<- hL3];exact hl4 _ _
 have HE1:Hid _:=hes1;have HE2:Hid _:=hL2;have HE3:Hid _:=hL3;have HE4:Hid _:=hL4;clear hl4 hes1 hL2 hL3 hL4;clear hdef h hx hz hA ht oi1 oi2 oj1 oj2;obtain ⟨i0,hi0,hi2⟩:=Option.map_eq_some_iff.1 info112;simp only [Prod.mk.injEq] at hi2;obtain ⟨hz0,hz1,hz2⟩:=hi2;have HI:Hid (Tryz.prog.info? 112=some i0/\i0.zero=some (.agg #[.int .i64 0,.int .i64 0,.int .i64 0,.int .i64 0,.int .i8 0])/\i0.size=5/\i0.bytes=40):=⟨hi0,hz0,hz1,hz2⟩;clear hi0 hz0 hz1 hz2;generalize latO t xs[i]=li at *;generalize latO t xs[j]=lj at *;generalize ordB xs[i].op=bi at *;generalize ordB xs[j].op=bj at *;generalize saysB xs[i] (wrD xs[j])=sy at *;generalize wq xs[i] (wrD xs[j])=wy at *;generalize wrB xs[j]=ok at *;generalize wrD xs[j]=rd at *;generalize xs[i]=x at *;generalize xs[j]=y at *;clear hi hj;unfold Tab.val at *;go_enter Tryz.func97,Tryz.ntmps97;obtain ⟨xl,xi0,xi1,xi2,xi3,xi4,xj0,xj1,xj2,xj3,xj4⟩:=HOc.out _ HS0.out.up;go_upto_region 3 with (first|(go_at_call 36;refine Calls.mono (H60.out _) ?_;rintro e w1 ⟨rfl,b1⟩;have HS:Hid (St w w1 t none 0 []):=HS0.out.next b1;clear b1 H60 HS0 xl xi0 xi1 xi2 xi3 xi4 xj0 xj1 xj2 xj3 xj4))
 obtain ⟨xl,xi0,xi1,xi2,xi3,xi4,xj0,xj1,xj2,xj3,xj4⟩:=HOc.out _ HS.out.up
 go_cut [33] (fun v wc=>v=.bool (ok&&sy)/\St w wc t none 0 [])
 case first=>
  cases ok
  ·go_wp2_with fail
   go_meet
   case rel=>exact ⟨rfl,HS.out⟩
  ·go_wp2_with (first|(go_at_call 131;refine Calls.mono (H61.out _) ?_;rintro e w2 ⟨rfl,b2⟩;have HS2:Hid (St w w2 t none 0 []):=HS.out.next b2;clear b2 H61))
   go_meet
   case rel=>exact ⟨by simp,HS2.out⟩
 case rest=>
  obtain ⟨rfl,hs⟩:=hcut;rename World=>wc;have HS:Hid (St w wc t none 0 []):=hs;clear hs xl xi0 xi1 xi2 xi3 xi4 xj0 xj1 xj2 xj3 xj4 H61;have HE1:Hid ((if (ok&&sy)=true then [(⟨i,j,0,d,1⟩:Ed)] else [])=es1):=HE1.out
  go_upto_if 33 with fail
  go_cut [13] (fun v wd=>∃ a c,v=.slice a es1.length c/\St w wd t a c es1)
  case first=>
   generalize (ok&&sy)=b1 at *
   cases b1
   ·have hes1:[]=es1:=HE1.out;subst hes1;go_wp2_with fail
    go_meet
    case rel=>exact ⟨none,0,rfl,HS.out⟩
   ·have hes1:[(⟨i,j,0,d,1⟩:Ed)]=es1:=HE1.out;subst hes1;go_wp2_with (first|(at_builtin;refine wpList_append_lies _ rfl _ _ 107 rfl (w.heap.size+1) 112 i0 (.agg #[.int .i64 0,.int .i64 0,.int .i64 0,.int .i64 0,.int .i8 0]) 5 40 Tryz.underlying107 HI.out.1 HI.out.2.1 HI.out.2.2.1 HI.out.2.2.2 rfl (by decide) (.slice none 0 0) 0 [] rfl (World.ownsRow.alloc HS.out.row _) ⟨wc.heap.size,0,none⟩ 1 1 [.int .i64 (i:Int),.int .i64 (j:Int),.int .i64 0,.int .i64 d,.int .i8 1] rfl rfl (World.news_of_block (heap_alloc_new wc _)) (by simp [Value.oneCell']) (by decide) (by unfold maxLen;omega) (by omega) (by have h5:=HS.out.t.lt;simp;omega) (wc.heap.size+1) (by simp) ?_;intro g cp w3 hown hgrow hat hlt3;have HS3:Hid (St w w3 t (some ⟨g,0,none⟩) cp [⟨i,j,0,d,1⟩]):=HS.out.add (e:=⟨i,j,0,d,1⟩) ((Below.refl _ _).alloc (Nat.le_refl _) _) hgrow hown;clear hown hgrow hat hlt3))
    go_meet
    case rel=>exact ⟨_,_,rfl,HS3.out⟩
  case rest=>
   obtain ⟨a1,c1,rfl,hs⟩:=hcut;rename World=>wd;have HS1:Hid (St w wd t a1 c1 es1):=hs;clear hs HS HE1;obtain ⟨xl,xi0,xi1,xi2,xi3,xi4,xj0,xj1,xj2,xj3,xj4⟩:=HOc.out _ HS1.out.up;go_upto_region 5 with fail
   go_cut [49] (fun v we=>v=.bool (ok&&wy)/\St w we t a1 c1 es1)
   case first=>
    cases ok
    ·go_wp2_with fail
     go_meet
     case rel=>exact ⟨rfl,HS1.out⟩
    ·go_wp2_with (first|(go_at_call 132;refine Calls.mono (H62.out _) ?_;rintro e w2 ⟨rfl,b2⟩;have HS2:Hid (St w w2 t a1 c1 es1):=HS1.out.next b2;clear b2 H62))
     go_meet
     case rel=>exact ⟨by simp,HS2.out⟩
   case rest=>
    obtain ⟨rfl,hs⟩:=hcut;rename World=>we;have HS2:Hid (St w we t a1 c1 es1):=hs;clear hs xl xi0 xi1 xi2 xi3 xi4 xj0 xj1 xj2 xj3 xj4 H62 HS1;have HE2:Hid ((if (ok&&wy)=true then [(⟨i,j,max 0 (li-lj+1),d,2⟩:Ed)] else [])=L2):=HE2.out
    go_upto_if 49 with fail
    go_cut [13] (fun v wf=>∃ a c,v=.slice a (es1++L2).length c/\St w wf t a c (es1++L2))
    case first=>
     generalize (ok&&wy)=b2 at *
     cases b2
     ·have hL2:[]=L2:=HE2.out;subst hL2;go_wp2_with fail
      go_meet
      case rel=>exact ⟨a1,c1,by simp,by rw [List.append_nil];exact HS2.out⟩
     ·obtain ⟨r1,r2⟩:=HLi.out;obtain ⟨r3,r4⟩:=HLj.out;go_upto_region 6 with fail
      obtain ⟨mx,hmx⟩:∃ mx:Int,max 0 (li-lj+1)=mx:=⟨_,rfl⟩;have hL2:[(⟨i,j,mx,d,2⟩:Ed)]=L2:=by rw [<- HE2.out,if_pos rfl,hmx]
      subst hL2;refine wp_region_held_drew (S:=fun W=>TabAt W w.heap.size t/\Below w.heap.size w W) (by kernel_rfl) ⟨(HS2.out.next (drew_up _)).t,(HS2.out.next (drew_up _)).up⟩ (fun zH=>?_);refine wg 0 (.slice a1 es1.length c1) rfl zH ?_;simp only [pq];refine wg 1 (.int .i64 (i:Int)) rfl zH ?_;simp only [pq];refine wg 2 (.int .i64 (j:Int)) rfl zH ?_;simp only [pq];refine wg 3 (.slice (some ⟨b,f,none⟩) xs.length cap) rfl zH ?_;simp only [pq];refine wg 4 (.int .i64 (i:Int)) rfl zH ?_;simp only [pq];refine wg 5 (.pointer (some ⟨b,f+i*5,none⟩)) rfl zH ?_;simp only [pq];refine wt 6 (.agg #[.int .i8 x.op,.int .u8 x.d,.int .u8 x.a,.int .u8 x.b,.int .i64 x.im]) rfl (fun w' hSw=>by (obtain ⟨xl,xi0,xi1,xi2,xi3,xi4,xj0,xj1,xj2,xj3,xj4⟩:=HOc.out _ hSw.2;go_simp)) zH ?_;simp only [pq];refine wt 7 (.agg #[.int .i64 (t.u 0),.int .i64 (t.u 1),.int .i64 (t.u 2),.int .i64 (t.u 3),.int .i64 (t.l 0),.int .i64 (t.l 1),.int .i64 (t.l 2),.int .i64 (t.l 3),.int .i64 (t.b 0),.int .i64 (t.b 1),.int .i64 (t.b 2),.int .i64 (t.b 3),.int .i64 t.d]) rfl (fun w' hSw=>by (have k2:=hSw.1;have qu0:=k2.cu 0 (by decide);have qu1:=k2.cu 1 (by decide);have qu2:=k2.cu 2 (by decide);have qu3:=k2.cu 3 (by decide);have ql0:=k2.cl 0 (by decide);have ql1:=k2.cl 1 (by decide);have ql2:=k2.cl 2 (by decide);have ql3:=k2.cl 3 (by decide);have qb0:=k2.cb 0 (by decide);have qb1:=k2.cb 1 (by decide);have qb2:=k2.cb 2 (by decide);have qb3:=k2.cb 3 (by decide);have qd:=k2.cd;have qz:=k2.lt;clear k2;go_simp)) zH ?_;simp only [pq];refine wg 9 (.slice (some ⟨b,f,none⟩) xs.length cap) rfl zH ?_;simp only [pq];refine wg 10 (.int .i64 (j:Int)) rfl zH ?_;simp only [pq];refine wg 11 (.pointer (some ⟨b,f+j*5,none⟩)) rfl zH ?_;simp only [pq];refine wt 12 (.agg #[.int .i8 y.op,.int .u8 y.d,.int .u8 y.a,.int .u8 y.b,.int .i64 y.im]) rfl (fun w' hSw=>by (obtain ⟨xl,xi0,xi1,xi2,xi3,xi4,xj0,xj1,xj2,xj3,xj4⟩:=HOc.out _ hSw.2;go_simp)) zH ?_;simp only [pq];refine wt 13 (.agg #[.int .i64 (t.u 0),.int .i64 (t.u 1),.int .i64 (t.u 2),.int .i64 (t.u 3),.int .i64 (t.l 0),.int .i64 (t.l 1),.int .i64 (t.l 2),.int .i64 (t.l 3),.int .i64 (t.b 0),.int .i64 (t.b 1),.int .i64 (t.b 2),.int .i64 (t.b 3),.int .i64 t.d]) rfl (fun w' hSw=>by (have k2:=hSw.1;have qu0:=k2.cu 0 (by decide);have qu1:=k2.cu 1 (by decide);have qu2:=k2.cu 2 (by decide);have qu3:=k2.cu 3 (by decide);have ql0:=k2.cl 0 (by decide);have ql1:=k2.cl 1 (by decide);have ql2:=k2.cl 2 (by decide);have ql3:=k2.cl 3 (by decide);have qb0:=k2.cb 0 (by decide);have qb1:=k2.cb 1 (by decide);have qb2:=k2.cb 2 (by decide);have qb3:=k2.cb 3 (by decide);have qd:=k2.cd;have qz:=k2.lt;clear k2;go_simp)) zH ?_;simp only [pq];refine wg 18 (.int .i64 d) rfl zH ?_;simp only [pq];refine wpAnyH_ready (rs:=[8]) (by kernel_rfl) (by simp) ?_;refine AllReadyH.cons rfl (fun K hK=>?_) AllReadyH.nil;go_simp
      refine Calls.mono (H34i.out _) ?_;rintro e w5 ⟨rfl,b5⟩;have HS5:Hid (St w w5 t a1 c1 es1):=(HS2.out.next (drew_up _)).next b5;clear b5 H34i;refine hK.out _ _ ⟨HS5.out.t,HS5.out.up⟩ (fun zH=>?_);clear hK K;refine wpAnyH_ready (rs:=[14]) (by kernel_rfl) (by simp) ?_;refine AllReadyH.cons rfl (fun K hK=>?_) AllReadyH.nil;go_simp
      refine Calls.mono (H34j.out _) ?_;rintro e w6 ⟨rfl,b6⟩;have HS6:Hid (St w w6 t a1 c1 es1):=HS5.out.next b6;clear b6 H34j;refine hK.out _ _ ⟨HS6.out.t,HS6.out.up⟩ (fun zH=>?_);clear hK K;refine wt 15 (.int .i64 (li-lj)) rfl (fun w' hSw=>by (go_simp;first|(rw [IntKind.wrap_i64];omega))) zH ?_;simp only [pq];refine wt 16 (.int .i64 (li-lj+1)) rfl (fun w' hSw=>by (go_simp;first|(rw [IntKind.wrap_i64];omega))) zH ?_;simp only [pq];refine wt 17 (.int .i64 mx) rfl (fun w' hSw=>by (go_simp;split <;> omega)) zH ?_;simp only [pq];refine wg 19 (.agg #[.int .i64 (i:Int),.int .i64 (j:Int),.int .i64 mx,.int .i64 d,.int .i8 2]) rfl zH ?_;simp only [pq];refine wpAnyH_ready (rs:=[20]) (by kernel_rfl) (by simp) ?_;refine AllReadyH.cons rfl (fun K hK=>?_) AllReadyH.nil;go_simp
      refine hK.out _ _ ⟨(HS6.out.next ((Below.refl _ _).alloc (Nat.le_refl _) _)).t,(HS6.out.next ((Below.refl _ _).alloc (Nat.le_refl _) _)).up⟩ (fun zH=>?_);clear hK K;refine wpAnyH_ready (rs:=[21]) (by kernel_rfl) (by simp) ?_;refine AllReadyH.cons rfl (fun K hK=>?_) AllReadyH.nil;refine step_append_lies _ (by rfl) (.tmp 50) (.tmp 70) 107 (by rfl) (w.heap.size+1) 112 i0 (.agg #[.int .i64 0,.int .i64 0,.int .i64 0,.int .i64 0,.int .i8 0]) 5 40 Tryz.underlying107 HI.out.1 HI.out.2.1 HI.out.2.2.1 HI.out.2.2.2 rfl (by decide) (.slice a1 es1.length c1) es1.length (ecells es1) (by rfl) (World.ownsRow.alloc HS6.out.row _) ⟨w6.heap.size,0,none⟩ 1 1 [.int .i64 (i:Int),.int .i64 (j:Int),.int .i64 mx,.int .i64 d,.int .i8 2] (by rfl) rfl (World.news_of_block (heap_alloc_new w6 (.cells #[.int .i64 (i:Int),.int .i64 (j:Int),.int .i64 mx,.int .i64 d,.int .i8 2] 112))) (by simp [Value.oneCell']) (by decide) (by unfold maxLen;omega) (by omega) (by have h5:=HS6.out.t.lt;simp;omega) _ rfl ?_;intro g cp w7 hown hgrow hat hlt3;have HS7:Hid (St w w7 t (some ⟨g,0,none⟩) cp (es1++[⟨i,j,mx,d,2⟩])):=HS6.out.add (e:=⟨i,j,mx,d,2⟩) ((Below.refl _ _).alloc (Nat.le_refl _) _) hgrow hown;clear hown hgrow hat hlt3;refine hK.out _ _ ⟨HS7.out.t,HS7.out.up⟩ (fun zH=>?_);clear hK K;refine wg 22 (.slice (some ⟨g,0,none⟩) (es1.length+1) cp) rfl zH ?_;simp only [pq];refine wpAnyH_done (by kernel_rfl) ?_ _;go_wp2_with fail
      go_meet
      case rel=>exact ⟨_,_,by simp,HS7.out⟩
    case rest=>
     obtain ⟨a2,c2,rfl,hs⟩:=hcut;rename World=>wf;obtain ⟨es2,he2⟩:∃ es2,es1++L2=es2:=⟨_,rfl⟩;have m2:es2.length<=2:=by rw [<- he2,List.length_append];omega
     have HE0:Hid (es1++L2=es2):=he2;have HS3:Hid (St w wf t a2 c2 es2):=by rw [he2] at hs;exact hs
     rw [he2];clear hs he2 HS2 HE2;obtain ⟨xl,xi0,xi1,xi2,xi3,xi4,xj0,xj1,xj2,xj3,xj4⟩:=HOc.out _ HS3.out.up;go_upto_region 7 with fail
     go_cut [88] (fun v wg=>v=.bool (meet&&(x.op==16 || y.op==16))/\St w wg t a2 c2 es2)
     case first=>
      cases meet
      ·go_wp2_with fail
       go_meet
       case rel=>exact ⟨rfl,HS3.out⟩
      ·by_cases hx16:x.op=16
       ·have hb16:(x.op==16)=true:=by simpa using hx16
        go_wp2_with fail
        go_meet
        case rel=>exact ⟨by simp [hx16],HS3.out⟩
       ·have hb16:(x.op==16)=false:=by simpa using hx16
        go_wp2_with fail
        go_meet
        case rel=>exact ⟨by simp [hb16],HS3.out⟩
     case rest=>
      obtain ⟨rfl,hs⟩:=hcut;rename World=>wg;have HS4:Hid (St w wg t a2 c2 es2):=hs;clear hs HS3 xl xi0 xi1 xi2 xi3 xi4 xj0 xj1 xj2 xj3 xj4;have HE3:Hid ((if (meet&&(x.op==16 || y.op==16))=true then [(⟨i,j,if x.op=16 then (if y.op=15 then t.l 2 else 1) else 0,d,3⟩:Ed)] else [])=L3):=HE3.out;obtain ⟨xl,xi0,xi1,xi2,xi3,xi4,xj0,xj1,xj2,xj3,xj4⟩:=HOc.out _ HS4.out.up
      go_upto_if 88 with fail
      go_cut [13] (fun v wh=>∃ a c,v=.slice a (es2++L3).length c/\St w wh t a c (es2++L3))
      case first=>
       generalize (meet&&(x.op==16 || y.op==16))=b3 at *
       cases b3
       ·have hL3:[]=L3:=HE3.out;subst hL3;go_wp2_with fail
        go_meet
        case rel=>exact ⟨a2,c2,by simp,by rw [List.append_nil];exact HS4.out⟩
       ·have k6:=HS4.out.t.cl 2 (by decide);have k7:=HS4.out.t.lt
        by_cases hx16:x.op=16
        ·have hb16:(x.op==16)=true:=by simpa using hx16
         by_cases hy15:y.op=15
         ·have hc15:(y.op==15)=true:=by simpa using hy15
          have hL3:[(⟨i,j,t.l 2,d,3⟩:Ed)]=L3:=by rw [<- HE3.out,if_pos rfl,if_pos hx16,if_pos hy15]
          subst hL3;have HX3:Hid (St w (wg.alloc (.cells #[.int .i64 (i:Int),.int .i64 (j:Int),.int .i64 (t.l 2),.int .i64 d,.int .i8 3] 112)) t a2 c2 es2/\At (wg.alloc (.cells #[.int .i64 (i:Int),.int .i64 (j:Int),.int .i64 (t.l 2),.int .i64 d,.int .i8 3] 112)) wg.heap.size #[.int .i64 (i:Int),.int .i64 (j:Int),.int .i64 (t.l 2),.int .i64 d,.int .i8 3]):=⟨HS4.out.next ((Below.refl _ _).alloc (Nat.le_refl _) _),At.new _ _ _⟩;go_upto_region 13 with fail
          generalize (wg.alloc (.cells #[.int .i64 (i:Int),.int .i64 (j:Int),.int .i64 (t.l 2),.int .i64 d,.int .i8 3] 112))=X at *;generalize wg.heap.size=ob at *;have z3:=HX3.out.2;have z30:=z3.c 0 _ rfl;have z31:=z3.c 1 _ rfl;have z32:=z3.c 2 _ rfl;have z33:=z3.c 3 _ rfl;have z34:=z3.c 4 _ rfl;have z3l:=z3.lt;clear z3;go_wp2_with (first|(at_builtin;refine wpList_append_lies _ rfl _ _ 107 rfl (w.heap.size+1) 112 i0 (.agg #[.int .i64 0,.int .i64 0,.int .i64 0,.int .i64 0,.int .i8 0]) 5 40 Tryz.underlying107 HI.out.1 HI.out.2.1 HI.out.2.2.1 HI.out.2.2.2 rfl (by decide) (.slice a2 es2.length c2) es2.length (ecells es2) rfl (World.ownsRow.alloc HX3.out.1.row _) ⟨X.heap.size,0,none⟩ 1 1 [.int .i64 (i:Int),.int .i64 (j:Int),.int .i64 (t.l 2),.int .i64 d,.int .i8 3] rfl rfl (World.news_of_block (heap_alloc_new X _)) (by simp [Value.oneCell']) (by decide) (by unfold maxLen;omega) (by omega) (by have h5:=HX3.out.1.t.lt;simp;omega) (X.heap.size+1) (by simp) ?_;intro g cp w3 hown hgrow hat hlt3;have HS9:Hid (St w w3 t (some ⟨g,0,none⟩) cp (es2++[⟨i,j,(t.l 2),d,3⟩])):=HX3.out.1.add (e:=⟨i,j,(t.l 2),d,3⟩) ((Below.refl _ _).alloc (Nat.le_refl _) _) hgrow hown;clear hown hgrow hat hlt3))
          go_meet
          case rel=>exact ⟨_,_,by simp,HS9.out⟩
         ·have hc15:(y.op==15)=false:=by simpa using hy15
          have hL3:[(⟨i,j,1,d,3⟩:Ed)]=L3:=by rw [<- HE3.out,if_pos rfl,if_pos hx16,if_neg hy15]
          subst hL3;have HX3:Hid (St w (wg.alloc (.cells #[.int .i64 (i:Int),.int .i64 (j:Int),.int .i64 1,.int .i64 d,.int .i8 3] 112)) t a2 c2 es2/\At (wg.alloc (.cells #[.int .i64 (i:Int),.int .i64 (j:Int),.int .i64 1,.int .i64 d,.int .i8 3] 112)) wg.heap.size #[.int .i64 (i:Int),.int .i64 (j:Int),.int .i64 1,.int .i64 d,.int .i8 3]):=⟨HS4.out.next ((Below.refl _ _).alloc (Nat.le_refl _) _),At.new _ _ _⟩;go_upto_region 13 with fail
          generalize (wg.alloc (.cells #[.int .i64 (i:Int),.int .i64 (j:Int),.int .i64 1,.int .i64 d,.int .i8 3] 112))=X at *;generalize wg.heap.size=ob at *;have z3:=HX3.out.2;have z30:=z3.c 0 _ rfl;have z31:=z3.c 1 _ rfl;have z32:=z3.c 2 _ rfl;have z33:=z3.c 3 _ rfl;have z34:=z3.c 4 _ rfl;have z3l:=z3.lt;clear z3;go_wp2_with (first|(at_builtin;refine wpList_append_lies _ rfl _ _ 107 rfl (w.heap.size+1) 112 i0 (.agg #[.int .i64 0,.int .i64 0,.int .i64 0,.int .i64 0,.int .i8 0]) 5 40 Tryz.underlying107 HI.out.1 HI.out.2.1 HI.out.2.2.1 HI.out.2.2.2 rfl (by decide) (.slice a2 es2.length c2) es2.length (ecells es2) rfl (World.ownsRow.alloc HX3.out.1.row _) ⟨X.heap.size,0,none⟩ 1 1 [.int .i64 (i:Int),.int .i64 (j:Int),.int .i64 1,.int .i64 d,.int .i8 3] rfl rfl (World.news_of_block (heap_alloc_new X _)) (by simp [Value.oneCell']) (by decide) (by unfold maxLen;omega) (by omega) (by have h5:=HX3.out.1.t.lt;simp;omega) (X.heap.size+1) (by simp) ?_;intro g cp w3 hown hgrow hat hlt3;have HS9:Hid (St w w3 t (some ⟨g,0,none⟩) cp (es2++[⟨i,j,1,d,3⟩])):=HX3.out.1.add (e:=⟨i,j,1,d,3⟩) ((Below.refl _ _).alloc (Nat.le_refl _) _) hgrow hown;clear hown hgrow hat hlt3))
          go_meet
          case rel=>exact ⟨_,_,by simp,HS9.out⟩
        ·have hb16:(x.op==16)=false:=by simpa using hx16
         have hL3:[(⟨i,j,0,d,3⟩:Ed)]=L3:=by rw [<- HE3.out,if_pos rfl,if_neg hx16]
         subst hL3;have HX3:Hid (St w (wg.alloc (.cells #[.int .i64 (i:Int),.int .i64 (j:Int),.int .i64 0,.int .i64 d,.int .i8 3] 112)) t a2 c2 es2/\At (wg.alloc (.cells #[.int .i64 (i:Int),.int .i64 (j:Int),.int .i64 0,.int .i64 d,.int .i8 3] 112)) wg.heap.size #[.int .i64 (i:Int),.int .i64 (j:Int),.int .i64 0,.int .i64 d,.int .i8 3]):=⟨HS4.out.next ((Below.refl _ _).alloc (Nat.le_refl _) _),At.new _ _ _⟩;go_upto_region 13 with fail
         generalize (wg.alloc (.cells #[.int .i64 (i:Int),.int .i64 (j:Int),.int .i64 0,.int .i64 d,.int .i8 3] 112))=X at *;generalize wg.heap.size=ob at *;have z3:=HX3.out.2;have z30:=z3.c 0 _ rfl;have z31:=z3.c 1 _ rfl;have z32:=z3.c 2 _ rfl;have z33:=z3.c 3 _ rfl;have z34:=z3.c 4 _ rfl;have z3l:=z3.lt;clear z3;go_wp2_with (first|(at_builtin;refine wpList_append_lies _ rfl _ _ 107 rfl (w.heap.size+1) 112 i0 (.agg #[.int .i64 0,.int .i64 0,.int .i64 0,.int .i64 0,.int .i8 0]) 5 40 Tryz.underlying107 HI.out.1 HI.out.2.1 HI.out.2.2.1 HI.out.2.2.2 rfl (by decide) (.slice a2 es2.length c2) es2.length (ecells es2) rfl (World.ownsRow.alloc HX3.out.1.row _) ⟨X.heap.size,0,none⟩ 1 1 [.int .i64 (i:Int),.int .i64 (j:Int),.int .i64 0,.int .i64 d,.int .i8 3] rfl rfl (World.news_of_block (heap_alloc_new X _)) (by simp [Value.oneCell']) (by decide) (by unfold maxLen;omega) (by omega) (by have h5:=HX3.out.1.t.lt;simp;omega) (X.heap.size+1) (by simp) ?_;intro g cp w3 hown hgrow hat hlt3;have HS9:Hid (St w w3 t (some ⟨g,0,none⟩) cp (es2++[⟨i,j,0,d,3⟩])):=HX3.out.1.add (e:=⟨i,j,0,d,3⟩) ((Below.refl _ _).alloc (Nat.le_refl _) _) hgrow hown;clear hown hgrow hat hlt3))
         go_meet
         case rel=>exact ⟨_,_,by simp,HS9.out⟩
      case rest=>
       obtain ⟨a3,c3,rfl,hs⟩:=hcut;rename World=>wh;obtain ⟨es3,he3⟩:∃ es3,es2++L3=es3:=⟨_,rfl⟩;have m3:es3.length<=3:=by rw [<- he3,List.length_append];omega
       have HE5:Hid (es2++L3=es3):=he3;have HS5:Hid (St w wh t a3 c3 es3):=by rw [he3] at hs;exact hs
       rw [he3];clear hs he3 HS4 HE3 xl xi0 xi1 xi2 xi3 xi4 xj0 xj1 xj2 xj3 xj4;obtain ⟨xl,xi0,xi1,xi2,xi3,xi4,xj0,xj1,xj2,xj3,xj4⟩:=HOc.out _ HS5.out.up;go_upto_region 14 with fail
       go_cut [135] (fun v wi=>v=.bool (bi&&bj)/\St w wi t a3 c3 es3)
       case first=>
        cases bi
        ·go_wp2_with (first|(go_at_call 133;refine Calls.mono (H63i.out _) ?_;rintro e w2 ⟨rfl,b2⟩;have HS6:Hid (St w w2 t a3 c3 es3):=HS5.out.next b2;clear b2 H63i))
         go_meet
         case rel=>exact ⟨rfl,HS6.out⟩
        ·go_wp2_with (first|(go_at_call 133;refine Calls.mono (H63i.out _) ?_;rintro e w2 ⟨rfl,b2⟩;have HS6:Hid (St w w2 t a3 c3 es3):=HS5.out.next b2;clear b2 H63i xl xi0 xi1 xi2 xi3 xi4 xj0 xj1 xj2 xj3 xj4;obtain ⟨xl,xi0,xi1,xi2,xi3,xi4,xj0,xj1,xj2,xj3,xj4⟩:=HOc.out _ HS6.out.up)|(go_at_call 133;refine Calls.mono (H63j.out _) ?_;rintro e w3 ⟨rfl,b3⟩;have HS7:Hid (St w w3 t a3 c3 es3):=HS6.out.next b3;clear b3 H63j))
         go_meet
         case rel=>exact ⟨by simp,HS7.out⟩
       case rest=>
        obtain ⟨rfl,hs⟩:=hcut;rename World=>wi;have HS6:Hid (St w wi t a3 c3 es3):=hs;clear hs HS5 xl xi0 xi1 xi2 xi3 xi4 xj0 xj1 xj2 xj3 xj4;have HE4:Hid ((if (bi&&bj)=true then [(⟨i,j,1,d,4⟩:Ed)] else [])=L4):=HE4.out
        go_upto_if 135 with fail
        go_cut [13] (fun v wj=>∃ a c,v=.slice a (es3++L4).length c/\St w wj t a c (es3++L4))
        case first=>
         generalize (bi&&bj)=b4 at *
         cases b4
         ·have hL4:[]=L4:=HE4.out;subst hL4;go_wp2_with fail
          go_meet
          case rel=>exact ⟨a3,c3,by simp,by rw [List.append_nil];exact HS6.out⟩
         ·have hL4:[(⟨i,j,1,d,4⟩:Ed)]=L4:=HE4.out;subst hL4;go_wp2_with (first|(at_builtin;refine wpList_append_lies _ rfl _ _ 107 rfl (w.heap.size+1) 112 i0 (.agg #[.int .i64 0,.int .i64 0,.int .i64 0,.int .i64 0,.int .i8 0]) 5 40 Tryz.underlying107 HI.out.1 HI.out.2.1 HI.out.2.2.1 HI.out.2.2.2 rfl (by decide) (.slice a3 es3.length c3) es3.length (ecells es3) rfl (World.ownsRow.alloc HS6.out.row _) ⟨wi.heap.size,0,none⟩ 1 1 [.int .i64 (i:Int),.int .i64 (j:Int),.int .i64 1,.int .i64 d,.int .i8 4] rfl rfl (World.news_of_block (heap_alloc_new wi _)) (by simp [Value.oneCell']) (by decide) (by unfold maxLen;omega) (by omega) (by have h5:=HS6.out.t.lt;simp;omega) (wi.heap.size+1) (by simp) ?_;intro g cp w3 hown hgrow hat hlt3;have HS7:Hid (St w w3 t (some ⟨g,0,none⟩) cp (es3++[⟨i,j,1,d,4⟩])):=HS6.out.add (e:=⟨i,j,1,d,4⟩) ((Below.refl _ _).alloc (Nat.le_refl _) _) hgrow hown;clear hown hgrow hat hlt3))
          go_meet
          case rel=>exact ⟨_,_,by simp,HS7.out⟩
        case rest=>
         obtain ⟨a4,c4,rfl,hs⟩:=hcut;rename World=>wj;have HS7:Hid (St w wj t a4 c4 (es3++L4)):=hs;have HEq:Hid (es1++(L2++(L3++L4))=es3++L4):=by show es1++(L2++(L3++L4))=es3++L4;rw [<- HE5.out,<- HE0.out];simp
         clear hs HS6;go_wp2_with fail
         go_ret
         rw [HEq.out];obtain ⟨a5,c5,e5,h5⟩:=eOwn_of HS7.out.row (B':=w.heap.size) (by omega)
         injection e5 with e6 e7 e8
         subst e6;subst e8;exact ⟨a4,c4,rfl,h5,HS7.out.up⟩
end Go.Proofs.YtcmlnemokckbdaaGreatDoor.Dp
