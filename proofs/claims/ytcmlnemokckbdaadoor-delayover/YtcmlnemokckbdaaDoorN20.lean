/- Parts Wf. -/
import Derived.Test.YtcmlnemokckbdaaDoorN15
import Derived.Test.YtcmlnemokckbdaaDoorN16
import Derived.Deep.AppendLies
import Derived.Deep.DeepCutAuto
import Derived.Test.YtcmlnemokckbdaaDoorN00
set_option maxRecDepth 20000
set_option maxHeartbeats 16000000
namespace Go.Proofs.YtcmlnemokckbdaaDoor.Ls
open Go.ChangeShapes Go.WideShapes Go.ChangeAt Go.RowKit
open YtcmlnemokckbdaaDoor.Op YtcmlnemokckbdaaDoor.So YtcmlnemokckbdaaDoor.Dp YtcmlnemokckbdaaDoor.ListWay
open YtcmlnemokckbdaaDoor.Rv (RAt Few frB tkF tk_few take_any free_any evOk NwOut new_ok)
open YtcmlnemokckbdaaDoor.Tb (Tab TabAt Bnds)
theorem info68:(Tryd.prog.info? 68).map (fun i=>(i.zero,i.size,i.bytes))=some (some (.slice none 0 0),1,24):=by kernel_rfl
theorem rowBase' {W:World} {B B' e s n:Nat} {v:Value} {xs:List Value} (h:W.ownsRow B e s v n xs) (hB:B'<=B):W.ownsRow B' e s v n xs:=by
 obtain ⟨h1,h2⟩:=h;rcases h2 with h0|⟨g,cap,cur,e1,e2,e3⟩
 ·exact ⟨h1,.inl h0⟩
 ·exact ⟨h1,.inr ⟨g,cap,cur,e1,by omega,e3⟩⟩
theorem na_start {w w2:World} {ao a1:Option Addr} {n cap rb mb c1:Nat} {t:Tab} {es:List Ed} (hr:RAt w2 rb t none mb 0 (fun _ _=>0)) (he:EOwn w.heap.size w2 a1 c1 es) (hu:Below w.heap.size w w2) (r0:w.heap.size<=rb) (m0:w.heap.size<=mb):Na w (w2.alloc (.cells #[.slice ao n cap,.pointer (some ⟨rb,0,none⟩),.slice none 0 0,.slice none 0 0,.slice none 0 0,.slice none 0 0] 50)) ao n cap w2.heap.size rb mb t a1 c1 es:=by
 have g:Below w2.heap.size w2 (w2.alloc (.cells #[.slice ao n cap,.pointer (some ⟨rb,0,none⟩),.slice none 0 0,.slice none 0 0,.slice none 0 0,.slice none 0 0] 50)):=(Below.refl _ _).alloc (Nat.le_refl _) _;exact ⟨At.new _ _ _,hr.up g,row_up he g,fun b hb=>(he.lt b hb).2,hu.trans (g.mono hu.size),r0,m0,hr.at'.lt,hr.cm.lt⟩
theorem wy_start {w wc:World} {ao a1:Option Addr} {cap wb rb mb cb tb fb c1:Nat} {t:Tab} {xs:List O} {es:List Ed} (h:Nb w wc ao xs.length cap wb rb mb cb tb fb t a1 c1 es) (ho:OpsAt w ao xs) :
  Wy w ((wc.setCell ⟨wb,3,none⟩ (.slice (some ⟨wc.heap.size,0,none⟩) xs.length xs.length)).alloc (.cells (madeCells #[.slice none 0 0] xs.length) 68)) ⟨wb,rb,mb,cb,wc.heap.size,tb,fb,fun _=>.slice none 0 0⟩ ao cap t xs [] 0 (fun _ _=>0) (fun _=>0) (toN []) (fun _=>0) /\
  (∀ i,((wc.setCell ⟨wb,3,none⟩ (.slice (some ⟨wc.heap.size,0,none⟩) xs.length xs.length)).alloc (.cells (madeCells #[.slice none 0 0] xs.length) 68)).frozen? ⟨wc.heap.size,i,none⟩=false) /\
  EOwn w.heap.size ((wc.setCell ⟨wb,3,none⟩ (.slice (some ⟨wc.heap.size,0,none⟩) xs.length xs.length)).alloc (.cells (madeCells #[.slice none 0 0] xs.length) 68)) a1 c1 es:=by
 have hw:=h.at'.lt;have g:Fr (One wb) wc (wc.setCell ⟨wb,3,none⟩ (.slice (some ⟨wc.heap.size,0,none⟩) xs.length xs.length)):=(Fr.refl (One wb) wc).setCell (.inr rfl) _ _;have a0:=atSet h.at' (j:=3) (by simp) (.slice (some ⟨wc.heap.size,0,none⟩) xs.length xs.length);have hsz:(wc.setCell ⟨wb,3,none⟩ (.slice (some ⟨wc.heap.size,0,none⟩) xs.length xs.length)).heap.size=wc.heap.size:=by simp
 obtain ⟨Y,hY⟩:∃ Y,wc.setCell ⟨wb,3,none⟩ (.slice (some ⟨wc.heap.size,0,none⟩) xs.length xs.length)=Y:=⟨_,rfl⟩;rw [hY] at g a0 hsz ⊢;have g1:Below Y.heap.size Y (Y.alloc (.cells (madeCells #[.slice none 0 0] xs.length) 68)):=(Below.refl _ _).alloc (Nat.le_refl _) _;have hn:=At.new Y (madeCells #[.slice none 0 0] xs.length) 68;rw [hsz] at hn;have r1:=h.r0;have r2:=h.rw;have r3:=h.m0;have r4:=h.mw;have r5:=h.wc;have r6:=h.wt';have r7:=h.wf;have l1:=h.cy.lt;have l2:=h.wt.lt;have l3:=h.fs.lt;have u:Below w.heap.size w Y:=h.up.trans (g.below h.up.size fun k hk e=>by have e:k=wb:=e;omega);refine ⟨⟨⟨r1,r3,r2,r4,r5,r6,r7,h.ct,h.cf,h.tf,l1,l2,l3⟩,u.trans (g1.mono u.size),ho,a0.below g1 a0.lt,(raFr h.ra g (by show ¬ rb=wb;omega) (by show ¬ mb=wb;omega)).up g1,(h.cy.fr g (by show ¬ cb=wb;omega)).up g1,(h.wt.fr g (by show ¬ tb=wb;omega)).up g1,(h.fs.fr g (by show ¬ fb=wb;omega)).up g1,fun i hi=>?_,hn.lt,fun i hi=>?_⟩,hn.f,row_up (row_fr h.eo g fun k hk e=>?_) g1⟩
 ·refine hn.c i _ ?_;rw [<- Array.getElem?_toList,toList_madeCells_one];simp [hi]
 ·refine ⟨?_,.inl ⟨?_,?_⟩⟩ <;> rfl
 ·have:=h.en k hk
  have e:k=wb:=e;omega
theorem newWay_ok (ao:Option Addr) (cap:Nat) (xs:List O) (t:Tab) (w:World) (h:OpsAt w ao xs) (hcap:xs.length<=cap) (hG:Bnds w) (he:lisE t xs=0) :
  Calls Tryd.prog 11 #[.slice ao xs.length cap,t.val] w fun e w'=>∃ d,e=.returned (.pointer (some ⟨d.wb,0,none⟩))/\Wy w w' d ao cap t xs (ofE t xs) 0 (fun _ _=>0) (fun _=>0) (toN (ofE t xs)) (fun _=>0):=by
 have HOf:Hid (∀ W,Below w.heap.size w W->Calls Tryd.prog 23 #[.slice ao xs.length cap,t.val] W (EdOut W 0 (ofE t xs))):=fun W hb=>by
  have:=of_any ao cap xs t W (h.below hb) hcap (hG.below hb hG.big)
  unfold erE at this;rw [if_pos he,he] at this;exact this
 obtain ⟨ht,hn,hok⟩:=lis_all he;have hck:Tb.ckR t=0:=by unfold Tb.ckR;rw [if_pos ht]
 have HNw:Hid (∀ W,Below w.heap.size w W->Calls Tryd.prog 24 #[.agg #[.int .i64 (t.u 0),.int .i64 (t.u 1),.int .i64 (t.u 2),.int .i64 (t.u 3),.int .i64 (t.l 0),.int .i64 (t.l 1),.int .i64 (t.l 2),.int .i64 (t.l 3),.int .i64 (t.b 0),.int .i64 (t.b 1),.int .i64 (t.b 2),.int .i64 (t.b 3),.int .i64 t.d]] W fun e w'=>∃ rb mb,e=.returned (.tuple #[.pointer (some ⟨rb,0,none⟩),.int .i64 0])/\RAt w' rb t none mb 0 (fun _ _=>0)/\(W.heap.size<=rb/\W.heap.size<=mb)/\Below W.heap.size W w'):=fun W hb=>new_ok t W (hG.below hb hG.big) hck;have HEO:Hid (EOk xs.length (ofE t xs)):=ofE_ok t xs (pts_ok t xs (fun o ho=>⟨h.ok o ho,okL_okO (hok o ho)⟩) ht);have HLn:Hid ((ofE t xs).length<=100000000):=Nat.le_trans (withinE_len _ _ _ hn) (by omega);have HO:Hid (OpsAt w ao xs):=h;clear h hcap hG hok he ht hck;obtain ⟨es,hes⟩:∃ es,ofE t xs=es:=⟨_,rfl⟩;rw [hes] at HOf HEO HLn ⊢;clear hes;obtain ⟨M,hM⟩:∃ M,es.length=M:=⟨_,rfl⟩;have HM:Hid (es.length=M):=hM;have hMb:(M:Int)<=100000000:=by have:=HLn.out;omega
 clear HLn hM;obtain ⟨n,hN⟩:∃ n,xs.length=n:=⟨_,rfl⟩;have HN:Hid (xs.length=n):=hN;have hn':(n:Int)<=1024:=by omega
 rw [hN] at HOf ⊢;clear hN hn;have HOf2:Hid (∀ W,Below w.heap.size w W->Calls Tryd.prog 23 #[.slice ao n cap,.agg #[.int .i64 (t.u 0),.int .i64 (t.u 1),.int .i64 (t.u 2),.int .i64 (t.u 3),.int .i64 (t.l 0),.int .i64 (t.l 1),.int .i64 (t.l 2),.int .i64 (t.l 3),.int .i64 (t.b 0),.int .i64 (t.b 1),.int .i64 (t.b 2),.int .i64 (t.b 3),.int .i64 t.d]] W fun e w'=>∃ a c,e=.returned (.tuple #[.slice a M c,.int .i64 0])/\EOwn W.heap.size w' a c es/\Below W.heap.size W w'):=fun W hb=>by
  have:=HOf.out W hb
  rw [<- HM.out];exact this
 clear HOf;obtain ⟨i0,hi,hi2⟩:=Option.map_eq_some_iff.1 info3;simp only [Prod.mk.injEq] at hi2;obtain ⟨hz0,hz1,hz2⟩:=hi2;have HI3:Hid (Tryd.prog.info? 3=some i0/\i0.zero=some (.int .i64 0)/\i0.size=1/\i0.bytes=8):=⟨hi,hz0,hz1,hz2⟩;clear hi hz0 hz1 hz2;obtain ⟨i1,hi,hi2⟩:=Option.map_eq_some_iff.1 info68;simp only [Prod.mk.injEq] at hi2;obtain ⟨hz0,hz1,hz2⟩:=hi2;have HI33:Hid (Tryd.prog.info? 68=some i1/\i1.zero=some (.slice none 0 0)/\i1.size=1/\i1.bytes=24):=⟨hi,hz0,hz1,hz2⟩;clear hi hz0 hz1 hz2;obtain ⟨i2,hi,hi2⟩:=Option.map_eq_some_iff.1 info74;simp only [Prod.mk.injEq] at hi2;obtain ⟨hz0,hz1,hz2⟩:=hi2;have HI:Hid (Tryd.prog.info? 74=some i2/\i2.zero=some (.agg #[.int .i64 0,.int .i64 0,.int .i64 0,.int .i64 0,.int .i8 0])/\i2.size=5/\i2.bytes=40):=⟨hi,hz0,hz1,hz2⟩;clear hi hz0 hz1 hz2;unfold Tab.val at *;go_enter Tryd.func11,Tryd.ntmps11;go_upto_region 4 with (first
  | (go_at_call 23;refine Calls.mono (HOf2.out _ (by go_grown)) ?_;rintro e w1 ⟨a1,c1,rfl,o1,b1⟩;have HT:Hid (TabAt w1 w.heap.size t/\Below w.heap.size w w1/\EOwn w.heap.size w1 a1 c1 es):=⟨(Tb.tabAt_new w t 28).below b1 (by simp),Below.trans (by go_grown) (b1.mono (by simp)),rowBase' o1 (by simp)⟩;clear o1 b1 HOf2;have k2:=HT.out.1;have qu0:=k2.cu 0 (by decide);have qu1:=k2.cu 1 (by decide);have qu2:=k2.cu 2 (by decide);have qu3:=k2.cu 3 (by decide);have ql0:=k2.cl 0 (by decide);have ql1:=k2.cl 1 (by decide);have ql2:=k2.cl 2 (by decide);have ql3:=k2.cl 3 (by decide);have qb0:=k2.cb 0 (by decide);have qb1:=k2.cb 1 (by decide);have qb2:=k2.cb 2 (by decide);have qb3:=k2.cb 3 (by decide);have qd:=k2.cd;have qz:=k2.lt;clear k2)
  | (go_at_call 24;refine Calls.mono (HNw.out _ HT.out.2.1) ?_;rintro e w2 ⟨rb,mb,rfl,r2,l2,b2⟩;have HX0:Hid (Na w (w2.alloc (.cells #[.slice ao n cap,.pointer (some ⟨rb,0,none⟩),.slice none 0 0,.slice none 0 0,.slice none 0 0,.slice none 0 0] 50)) ao n cap w2.heap.size rb mb t a1 c1 es):=na_start r2 (row_up HT.out.2.2 b2) (HT.out.2.1.trans (b2.mono HT.out.2.1.size)) (by have:=HT.out.2.1.size;omega) (by have:=HT.out.2.1.size;omega);clear r2 l2 b2 HNw HT qu0 qu1 qu2 qu3 ql0 ql1 ql2 ql3 qb0 qb1 qb2 qb3 qd qz))
 generalize w2.alloc (.cells #[.slice ao n cap,.pointer (some ⟨rb,0,none⟩),.slice none 0 0,.slice none 0 0,.slice none 0 0,.slice none 0 0] 50)=X at *;generalize w2.heap.size=wb at *
 go_cut [9] (fun v wc=>v=.pointer (some ⟨wb,0,none⟩)/\∃ cb tb fb,Nb w wc ao n cap wb rb mb cb tb fb t a1 c1 es)
 case first=>
  have hmk:∀ Z:World,(Instr.makeSlice 30 (.int .i64 (n:Int)) (.int .i64 (n:Int))).run Tryd.prog Z=.ok (.slice (some ⟨Z.heap.size,0,none⟩) n n) (Z.alloc (.cells (madeCells #[.int .i64 0] n) 3)):=fun Z=>run_make_row 30 3 i0 (.int .i64 0) Tryd.underlying30 HI3.out.1 HI3.out.2.1 HI3.out.2.2.1 rfl .i64 .i64 n (by rw [HI3.out.2.2.2];omega) (by omega) Z;have hat:=HX0.out.at';have x2:=hat.c 2 _ rfl;have x4:=hat.c 4 _ rfl;have x5:=hat.c 5 _ rfl;have z2:=hat.f 2;have z4:=hat.f 4;have z5:=hat.f 5;have xl:=hat.lt;have xl1:wb<X.heap.size+1:=by omega
  have xl2:wb<X.heap.size+1+1:=by omega
  have xl3:wb<X.heap.size+2:=by omega
  clear hat HI3 HI33 HI
  go_region
  all_goals
   go_wp2_with fail
   go_meet
   exact ⟨rfl,_,_,_,nb_of HX0.out _ _ _ (by omega) (by omega) (by omega) (by omega) (by omega) (by omega) (by omega) (by omega) (by omega)⟩
 case rest=>
  obtain ⟨rfl,cb,tb,fb,hnb⟩:=hcut;have HB0:Hid (Nb w wc ao n cap wb rb mb cb tb fb t a1 c1 es):=hnb;have hat:=hnb.at';have x3:=hat.c 3 _ rfl;have z3:=hat.f 3;have xl:=hat.lt;clear hat HX0 hnb;go_upto_region 6 with (first
   | (at_make;refine wpList_make_row _ rfl _ _ 48 rfl 68 i1 (.slice none 0 0) Tryd.underlying48 HI33.out.1 HI33.out.2.1 HI33.out.2.2.1 rfl .i64 .i64 n rfl rfl (by rw [HI33.out.2.2.2];omega) (by omega) ?_))
  have HEn:Hid (∀ b,(Value.slice a1 es.length c1).ownBlock=some b->b<wb):=HB0.out.en;have HS:Hid (Wy w ((wc.setCell ⟨wb,3,none⟩ (.slice (some ⟨wc.heap.size,0,none⟩) n n)).alloc (.cells (madeCells #[.slice none 0 0] n) 68)) ⟨wb,rb,mb,cb,wc.heap.size,tb,fb,fun _=>.slice none 0 0⟩ ao cap t xs [] 0 (fun _ _=>0) (fun _=>0) (toN []) (fun _=>0)/\(∀ i,((wc.setCell ⟨wb,3,none⟩ (.slice (some ⟨wc.heap.size,0,none⟩) n n)).alloc (.cells (madeCells #[.slice none 0 0] n) 68)).frozen? ⟨wc.heap.size,i,none⟩=false)/\EOwn w.heap.size ((wc.setCell ⟨wb,3,none⟩ (.slice (some ⟨wc.heap.size,0,none⟩) n n)).alloc (.cells (madeCells #[.slice none 0 0] n) 68)) a1 c1 es):=by
   have h1:=HB0.out;rw [<- HN.out] at h1 ⊢;exact wy_start h1 HO.out
  generalize (wc.setCell ⟨wb,3,none⟩ (.slice (some ⟨wc.heap.size,0,none⟩) n n)).alloc (.cells (madeCells #[.slice none 0 0] n) 68)=W0 at *;generalize wc.heap.size=ab at *;clear HB0 x3 z3 xl;go_wp2_with fail
  go_loopw [53] (fun v wr=>∃ (k:Nat) (V:Nat->Value),k<=M/\v=.int .i64 k/\Wy w wr ⟨wb,rb,mb,cb,ab,tb,fb,V⟩ ao cap t xs (es.take k) 0 (fun _ _=>0) (fun _=>0) (toN (es.take k)) (fun _=>0)/\(∀ i,wr.frozen? ⟨ab,i,none⟩=false)/\Sep ⟨wb,rb,mb,cb,ab,tb,fb,V⟩ n/\EOwn w.heap.size wr a1 c1 es) (fun v _=>M-(intOf v).toNat)
  case atStart=>exact ⟨0,_,by omega,rfl,HS.out.1,HS.out.2.1,fun i j _ _ _ b hb=>by simp [Value.ownBlock] at hb,HS.out.2.2⟩
  case round=>
   rename World=>wr;obtain ⟨k,V,hk,rfl,hs,hfz,hsep,heo⟩:=hrel;have HQ:Hid (Wy w wr ⟨wb,rb,mb,cb,ab,tb,fb,V⟩ ao cap t xs (es.take k) 0 (fun _ _=>0) (fun _=>0) (toN (es.take k)) (fun _=>0)/\(∀ i,wr.frozen? ⟨ab,i,none⟩=false)/\Sep ⟨wb,rb,mb,cb,ab,tb,fb,V⟩ n/\EOwn w.heap.size wr a1 c1 es):=⟨hs,hfz,hsep,heo⟩;clear hs hfz hsep heo HS
   by_cases hlt:k<M
   ·have k0:(0:Int)<=(k:Int):=by omega
    have k1:(k:Int)<(M:Int):=by omega
    have hke:k<es.length:=by rw [HM.out];exact hlt
    obtain ⟨eb,rfl,l1,lb1,f0,f1,f2,f3,f4⟩:=eOwn_at HQ.out.2.2.2 hke;have hm:=List.getElem_mem hke;have g1:=HEO.out.f0 _ hm;have g2:=HEO.out.ft _ hm;have g3:=HEO.out.tn _ hm;have HTk:Hid (es.take (k+1)=es.take k++[es[k]]):=List.take_succ_eq_append_getElem hke;have HQ2:Hid (Wy w (wr.alloc (.cells #[.int .i64 es[k].f,.int .i64 es[k].t,.int .i64 es[k].l,.int .i64 es[k].d,.int .i8 es[k].y] 74)) ⟨wb,rb,mb,cb,ab,tb,fb,V⟩ ao cap t xs (es.take k) 0 (fun _ _=>0) (fun _=>0) (toN (es.take k)) (fun _=>0)/\(∀ i,(wr.alloc (.cells #[.int .i64 es[k].f,.int .i64 es[k].t,.int .i64 es[k].l,.int .i64 es[k].d,.int .i8 es[k].y] 74)).frozen? ⟨ab,i,none⟩=false)/\EOwn w.heap.size (wr.alloc (.cells #[.int .i64 es[k].f,.int .i64 es[k].t,.int .i64 es[k].l,.int .i64 es[k].d,.int .i8 es[k].y] 74)) (some ⟨eb,0,none⟩) c1 es/\At (wr.alloc (.cells #[.int .i64 es[k].f,.int .i64 es[k].t,.int .i64 es[k].l,.int .i64 es[k].d,.int .i8 es[k].y] 74)) wr.heap.size #[.int .i64 es[k].f,.int .i64 es[k].t,.int .i64 es[k].l,.int .i64 es[k].d,.int .i8 es[k].y]/\(wr.heap.size≠ab/\wr.heap.size≠tb/\∀ i,i<xs.length->¬ (V i).ownBlock=some wr.heap.size)):=by
     have g:Below wr.heap.size wr (wr.alloc (.cells #[.int .i64 es[k].f,.int .i64 es[k].t,.int .i64 es[k].l,.int .i64 es[k].d,.int .i8 es[k].y] 74)):=(Below.refl _ _).alloc (Nat.le_refl _) _;refine ⟨HQ.out.1.next g,fun i=>by rw [(bcell g).2 _ _ HQ.out.1.al];exact HQ.out.2.1 i,row_up HQ.out.2.2.2 g,At.new _ _ _,?_,?_,fun i hi e=>?_⟩
     ·have:=HQ.out.1.al
      have:ab<wr.heap.size:=this
      omega
     ·have:=HQ.out.1.wt.lt
      have:tb<wr.heap.size:=this
      omega
     ·have:=((HQ.out.1.rw i hi).lt _ e).2
      omega
    have HSp:Hid (Sep ⟨wb,rb,mb,cb,ab,tb,fb,V⟩ n):=HQ.out.2.2.1;have hwl:toN (es.take k) es[k].t.toNat<=100000000/\0<=toN (es.take k) es[k].t.toNat:=by
     have h1:=toN_le (es.take k) es[k].t.toNat;have h2:(es.take k).length<=k:=by rw [List.length_take];omega
     omega
    have hfl:(frm (es.take k) es[k].f.toNat).length<=100000000:=by
     have h1:(frm (es.take k) es[k].f.toNat).length<=(es.take k).length:=List.length_filter_le ..;have h2:(es.take k).length<=k:=by rw [List.length_take];omega
     omega
    clear hm;generalize es[k]=x at *;obtain ⟨xf,xt,xl,xd,xy⟩:=x;obtain ⟨fi,rfl⟩:∃ fi:Nat,xf=fi:=⟨xf.toNat,by have g1:0<=xf:=g1;omega⟩;obtain ⟨ti,rfl⟩:∃ ti:Nat,xt=ti:=⟨xt.toNat,by have g1:0<=(fi:Int):=g1;have g2:(fi:Int)<xt:=g2;omega⟩;have g2:(fi:Int)<(ti:Int):=g2;have g3:(ti:Int)<(n:Int):=by have g3:(ti:Int)<(xs.length:Int):=g3;rw [HN.out] at g3;exact g3
    have g6:(0:Int)<=(fi:Int):=by omega
    have g7:(fi:Int)<(n:Int):=by omega
    have g8:(0:Int)<=(ti:Int):=by omega
    have hfn:fi<n:=by omega
    have htn:ti<n:=by omega
    have hwl:toN (es.take k) ti<=100000000/\0<=toN (es.take k) ti:=hwl;have hfl:(frm (es.take k) fi).length<=100000000:=hfl;clear g1;obtain ⟨ek,hek⟩:∃ ek,es.take k=ek:=⟨_,rfl⟩;rw [hek] at HQ2 HTk hwl hfl;clear hek;go_upto_region 9 with fail
    generalize (wr.alloc (.cells #[.int .i64 (fi:Int),.int .i64 (ti:Int),.int .i64 xl,.int .i64 xd,.int .i8 xy] 74))=X at *;have na:=HQ2.out.2.2.2.2.1;have nt:=HQ2.out.2.2.2.2.2.1;have nv:=HQ2.out.2.2.2.2.2.2 fi (by rw [HN.out];exact hfn);have na':¬ ab=wr.heap.size:=fun e=>na e.symm;generalize wr.heap.size=ob at *;clear HQ f0 f1 f2 f3 f4 l1 lb1;have hob:=HQ2.out.2.2.2.1;have o0:=hob.c 0 _ rfl;have o1:=hob.c 1 _ rfl;have o2:=hob.c 2 _ rfl;have o3:=hob.c 3 _ rfl;have o4:=hob.c 4 _ rfl;have ol:=hob.lt;have wl:=HQ2.out.1.at'.lt;have c3:X.cell? ⟨wb,3,none⟩=some (.slice (some ⟨ab,0,none⟩) n n):=by have:=HQ2.out.1.at'.c 3 _ rfl;rw [HN.out] at this;exact this
    have a0:X.cell? ⟨ab,fi,none⟩=some (V fi):=HQ2.out.1.af fi (by rw [HN.out];exact hfn);have al:ab<X.heap.size:=HQ2.out.1.al;have wl:wb<X.heap.size:=wl;have HRow:Hid (X.ownsRow (ab+1) 74 5 (V fi) (frm ek fi).length (ecells (frm ek fi))):=HQ2.out.1.rw fi (by rw [HN.out];exact hfn);have HPut:Hid (∀ (g cp:Nat) (Z w4:World),Below X.heap.size X Z->Z.grownBy w4 (V fi).ownBlock->w4.ownsRow (ab+1) 74 5 (.slice (some ⟨g,0,none⟩) ((frm ek fi).length+1) cp) ((frm ek fi).length+1) (ecells (frm ek fi)++[.int .i64 (fi:Int),.int .i64 (ti:Int),.int .i64 xl,.int .i64 xd,.int .i8 xy])->((V fi).ownBlock=some g\/X.heap.size<=g)->_):=fun g cp Z w4 q1 q2 q3 q4=>HQ2.out.1.put HQ2.out.2.1 (by rw [HN.out];exact HSp.out) q1 (i:=fi) (e:=⟨(fi:Int),(ti:Int),xl,xd,xy⟩) (by rw [HN.out];exact hfn) rfl q2 q3 q4;clear hob;have e1:X.drew.heap.size=X.heap.size:=rfl;obtain ⟨L,hL⟩:∃ L,(frm ek fi).length=L:=⟨_,rfl⟩;have HLL:Hid ((frm ek fi).length=L):=hL;rw [hL] at hfl HRow HPut;clear hL;obtain ⟨ve,hve⟩:∃ ve,V fi=ve:=⟨_,rfl⟩;rw [hve] at a0 HRow HPut nv;have nwv:¬ ve.ownBlock=some wb:=fun e=>by have h1:=(HRow.out.lt wb e).1;have h2:=HQ2.out.1.ok.wc;have h3:=HQ2.out.1.ok.ca;have h2:wb<cb:=h2;have h3:cb<ab:=h3;omega
    have HVe:Hid (V fi=ve):=hve;clear hve;have nwab:¬ wb=ab:=by have h2:=HQ2.out.1.ok.wc;have h3:=HQ2.out.1.ok.ca;have h2:wb<cb:=h2;have h3:cb<ab:=h3;omega
    have HEo:Hid (∀ Z,Fr (fun b=>b=ab\/ve.ownBlock=some b) X Z->EOwn w.heap.size Z (some ⟨eb,0,none⟩) c1 es):=fun Z hZ=>row_fr HQ2.out.2.2.1 hZ fun b hb e=>by
     have h0:=HEn.out b hb;rcases e with e|e
     ·have h2:=HQ2.out.1.ok.wc;have h3:=HQ2.out.1.ok.ca;have h2:wb<cb:=h2;have h3:cb<ab:=h3;omega
     ·have h1:=(HRow.out.lt b e).1;have h2:=HQ2.out.1.ok.wc;have h3:=HQ2.out.1.ok.ca;have h2:wb<cb:=h2;have h3:cb<ab:=h3;omega
    have c3a:(X.drew.alloc (.cells #[.int .i64 (fi:Int),.int .i64 (ti:Int),.int .i64 xl,.int .i64 xd,.int .i8 xy] 74)).cell? ⟨wb,3,none⟩=some (.slice (some ⟨ab,0,none⟩) n n):=by
     have g:Below X.heap.size X (X.drew.alloc (.cells #[.int .i64 (fi:Int),.int .i64 (ti:Int),.int .i64 xl,.int .i64 xd,.int .i8 xy] 74)):=(drew_up X).alloc (Nat.le_refl _) _;rw [(bcell g).1 _ _ wl];exact c3
    have wla:wb<(X.drew.alloc (.cells #[.int .i64 (fi:Int),.int .i64 (ti:Int),.int .i64 xl,.int .i64 xd,.int .i8 xy] 74)).heap.size:=by simp;omega
    have HAa:Hid (At (X.drew.alloc (.cells #[.int .i64 (fi:Int),.int .i64 (ti:Int),.int .i64 xl,.int .i64 xd,.int .i8 xy] 74)) ob #[.int .i64 (fi:Int),.int .i64 (ti:Int),.int .i64 xl,.int .i64 xd,.int .i8 xy]):=HQ2.out.2.2.2.1.below ((drew_up X).alloc (Nat.le_refl _) _) ol
    go_cut [11] (fun v wx=>v=.pointer (some ⟨ob,0,none⟩)/\∃ V,Wy w wx ⟨wb,rb,mb,cb,ab,tb,fb,V⟩ ao cap t xs (ek++[⟨(fi:Int),(ti:Int),xl,xd,xy⟩]) 0 (fun _ _=>0) (fun _=>0) (toN ek) (fun _=>0)/\(∀ i,wx.frozen? ⟨ab,i,none⟩=false)/\Sep ⟨wb,rb,mb,cb,ab,tb,fb,V⟩ xs.length/\EOwn w.heap.size wx (some ⟨eb,0,none⟩) c1 es/\At wx ob #[.int .i64 (fi:Int),.int .i64 (ti:Int),.int .i64 xl,.int .i64 xd,.int .i8 xy])
    case first=>
     refine wp_region_held_drew (S:=fun Z=>(Z.cell? ⟨wb,3,none⟩=some (.slice (some ⟨ab,0,none⟩) n n)/\wb<Z.heap.size)/\At Z ob #[.int .i64 (fi:Int),.int .i64 (ti:Int),.int .i64 xl,.int .i64 xd,.int .i8 xy]) (by kernel_rfl) ⟨⟨c3,wl⟩,HQ2.out.2.2.2.1.below (drew_up _) ol⟩ (fun zH=>?_);refine wg 0 (.pointer (some ⟨wb,0,none⟩)) rfl zH ?_;simp only [pq];refine wg 1 (.pointer (some ⟨wb,0,none⟩)) rfl zH ?_;simp only [pq];refine wg 2 (.pointer (some ⟨wb,3,none⟩)) rfl zH ?_;simp only [pq];refine wt 3 (.slice (some ⟨ab,0,none⟩) n n) rfl (fun w' hSw=>by (have y3:=hSw.1.1;have yl:=hSw.1.2;go_simp)) zH ?_;simp only [pq];refine wg 4 (.pointer (some ⟨ob,0,none⟩)) rfl zH ?_;simp only [pq];refine wt 5 (.int .i64 (fi:Int)) rfl (fun w' hSw=>by (have y0:=hSw.2.c 0 _ rfl;have yl:=hSw.2.lt;go_simp)) zH ?_;simp only [pq];refine wg 6 (.pointer (some ⟨wb,0,none⟩)) rfl zH ?_;simp only [pq];refine wg 7 (.pointer (some ⟨wb,0,none⟩)) rfl zH ?_;simp only [pq];refine wg 8 (.pointer (some ⟨wb,3,none⟩)) rfl zH ?_;simp only [pq];refine wt 9 (.slice (some ⟨ab,0,none⟩) n n) rfl (fun w' hSw=>by (have y3:=hSw.1.1;have yl:=hSw.1.2;go_simp)) zH ?_;simp only [pq];refine wg 10 (.pointer (some ⟨ob,0,none⟩)) rfl zH ?_;simp only [pq];refine wt 11 (.int .i64 (fi:Int)) rfl (fun w' hSw=>by (have y0:=hSw.2.c 0 _ rfl;have yl:=hSw.2.lt;go_simp)) zH ?_;simp only [pq];refine wg 12 (.pointer (some ⟨ab,fi,none⟩)) rfl zH ?_;simp only [pq];refine wt 14 (.agg #[.int .i64 (fi:Int),.int .i64 (ti:Int),.int .i64 xl,.int .i64 xd,.int .i8 xy]) rfl (fun w' hSw=>by (have y0:=hSw.2.c 0 _ rfl;have y1:=hSw.2.c 1 _ rfl;have y2:=hSw.2.c 2 _ rfl;have y3:=hSw.2.c 3 _ rfl;have y4:=hSw.2.c 4 _ rfl;have yl:=hSw.2.lt;go_simp)) zH ?_;simp only [pq];refine wpAnyH_ready (rs:=[13,15]) (by kernel_rfl) (by simp) ?_;refine AllReadyH.cons rfl (fun K hK=>?_) (AllReadyH.cons rfl (fun K hK=>?_) AllReadyH.nil)
     ·go_simp
      refine hK.out _ _ ⟨⟨c3,wl⟩,HQ2.out.2.2.2.1.below (drew_up _) ol⟩ (fun zH=>?_);clear hK K;refine wpAnyH_ready (rs:=[15]) (by kernel_rfl) (by simp) ?_;refine AllReadyH.cons rfl (fun K hK=>?_) AllReadyH.nil;go_simp
      refine hK.out _ _ ⟨⟨c3a,wla⟩,HAa.out⟩ (fun zH=>?_);clear hK K;refine wpAnyH_ready (rs:=[16]) (by kernel_rfl) (by simp) ?_;refine AllReadyH.cons rfl (fun K hK=>?_) AllReadyH.nil;refine step_append_lies _ (by rfl) _ _ 68 (by rfl) (ab+1) 74 i2 (.agg #[.int .i64 0,.int .i64 0,.int .i64 0,.int .i64 0,.int .i8 0]) 5 40 Tryd.underlying68 HI.out.1 HI.out.2.1 HI.out.2.2.1 HI.out.2.2.2 rfl (by decide) ve L (ecells (frm ek fi)) (by rfl) (HRow.out.drew.alloc _) ⟨X.heap.size,0,none⟩ 1 1 [.int .i64 (fi:Int),.int .i64 (ti:Int),.int .i64 xl,.int .i64 xd,.int .i8 xy] (by rfl) rfl (World.news_of_block (heap_alloc_new X.drew (.cells #[.int .i64 (fi:Int),.int .i64 (ti:Int),.int .i64 xl,.int .i64 xd,.int .i8 xy] 74))) (by simp [Value.oneCell']) (by decide) (by unfold maxLen;omega) (by omega) (by simp;omega) _ rfl ?_;intro g cp w4 hown hgrow hg hlt3;have HP3:Hid _:=HPut.out g cp _ w4 ((drew_up X).alloc (Nat.le_refl _) _) hgrow hown (hg.imp id fun e=>by rw [e];simp);clear hown hgrow hg hlt3;have z0:=HP3.out.1.1;have z1:=HP3.out.1.2.1;have z2:=HP3.out.1.2.2.1;have hF4:Fr (fun b=>ve.ownBlock=some b) X w4:=by have h:=HP3.out.1.2.2.2;have e:V fi=ve:=HVe.out;rw [<- e];exact h
      have v3:=(hF4.cell wl nwv 3).trans c3;have vw:=Nat.lt_of_lt_of_le wl hF4.size;have HA4:Hid (At w4 ob #[.int .i64 (fi:Int),.int .i64 (ti:Int),.int .i64 xl,.int .i64 xd,.int .i8 xy]):=atFr HQ2.out.2.2.2.1 hF4 nv;refine hK.out _ _ ⟨⟨v3,vw⟩,HA4.out⟩ (fun zH=>?_);clear hK K;refine wg 17 (.pointer (some ⟨ab,fi,none⟩)) rfl zH ?_;simp only [pq];refine wpAnyH_ready (rs:=[18]) (by kernel_rfl) (by simp) ?_;refine AllReadyH.cons rfl (fun K hK=>?_) AllReadyH.nil;go_simp
      have hG5:Fr (One ab) w4 (w4.setCell ⟨ab,fi,none⟩ (.slice (some ⟨g,0,none⟩) (L+1) cp)):=(Fr.refl (One ab) w4).setCell (.inr rfl) _ _;refine hK.out _ _ ⟨⟨(hG5.cell vw nwab 3).trans v3,Nat.lt_of_lt_of_le vw hG5.size⟩,atFr HA4.out hG5 na⟩ (fun zH=>?_);clear hK K;refine wpAnyH_done (by kernel_rfl) ?_ _;go_wp2_with fail
      go_meet
      exact ⟨rfl,(dV ⟨wb,rb,mb,cb,ab,tb,fb,V⟩ fi (.slice (some ⟨g,0,none⟩) (L+1) cp)).V,HP3.out.2.1,HP3.out.2.2.1,HP3.out.2.2.2.1,HEo.out _ (by have h:=HP3.out.2.2.2.2;have e:V fi=ve:=HVe.out;rw [<- e];exact h),atFr HA4.out hG5 na⟩
     ·go_simp
      refine hK.out _ _ ⟨⟨c3a,wla⟩,HAa.out⟩ (fun zH=>?_);clear hK K;refine wpAnyH_ready (rs:=[13]) (by kernel_rfl) (by simp) ?_;refine AllReadyH.cons rfl (fun K hK=>?_) AllReadyH.nil;go_simp
      refine hK.out _ _ ⟨⟨c3a,wla⟩,HAa.out⟩ (fun zH=>?_);clear hK K;refine wpAnyH_ready (rs:=[16]) (by kernel_rfl) (by simp) ?_;refine AllReadyH.cons rfl (fun K hK=>?_) AllReadyH.nil;refine step_append_lies _ (by rfl) _ _ 68 (by rfl) (ab+1) 74 i2 (.agg #[.int .i64 0,.int .i64 0,.int .i64 0,.int .i64 0,.int .i8 0]) 5 40 Tryd.underlying68 HI.out.1 HI.out.2.1 HI.out.2.2.1 HI.out.2.2.2 rfl (by decide) ve L (ecells (frm ek fi)) (by rfl) (HRow.out.drew.alloc _) ⟨X.heap.size,0,none⟩ 1 1 [.int .i64 (fi:Int),.int .i64 (ti:Int),.int .i64 xl,.int .i64 xd,.int .i8 xy] (by rfl) rfl (World.news_of_block (heap_alloc_new X.drew (.cells #[.int .i64 (fi:Int),.int .i64 (ti:Int),.int .i64 xl,.int .i64 xd,.int .i8 xy] 74))) (by simp [Value.oneCell']) (by decide) (by unfold maxLen;omega) (by omega) (by simp;omega) _ rfl ?_;intro g cp w4 hown hgrow hg hlt3;have HP3:Hid _:=HPut.out g cp _ w4 ((drew_up X).alloc (Nat.le_refl _) _) hgrow hown (hg.imp id fun e=>by rw [e];simp);clear hown hgrow hg hlt3;have z0:=HP3.out.1.1;have z1:=HP3.out.1.2.1;have z2:=HP3.out.1.2.2.1;have hF4:Fr (fun b=>ve.ownBlock=some b) X w4:=by have h:=HP3.out.1.2.2.2;have e:V fi=ve:=HVe.out;rw [<- e];exact h
      have v3:=(hF4.cell wl nwv 3).trans c3;have vw:=Nat.lt_of_lt_of_le wl hF4.size;have HA4:Hid (At w4 ob #[.int .i64 (fi:Int),.int .i64 (ti:Int),.int .i64 xl,.int .i64 xd,.int .i8 xy]):=atFr HQ2.out.2.2.2.1 hF4 nv;refine hK.out _ _ ⟨⟨v3,vw⟩,HA4.out⟩ (fun zH=>?_);clear hK K;refine wg 17 (.pointer (some ⟨ab,fi,none⟩)) rfl zH ?_;simp only [pq];refine wpAnyH_ready (rs:=[18]) (by kernel_rfl) (by simp) ?_;refine AllReadyH.cons rfl (fun K hK=>?_) AllReadyH.nil;go_simp
      have hG5:Fr (One ab) w4 (w4.setCell ⟨ab,fi,none⟩ (.slice (some ⟨g,0,none⟩) (L+1) cp)):=(Fr.refl (One ab) w4).setCell (.inr rfl) _ _;refine hK.out _ _ ⟨⟨(hG5.cell vw nwab 3).trans v3,Nat.lt_of_lt_of_le vw hG5.size⟩,atFr HA4.out hG5 na⟩ (fun zH=>?_);clear hK K;refine wpAnyH_done (by kernel_rfl) ?_ _;go_wp2_with fail
      go_meet
      exact ⟨rfl,(dV ⟨wb,rb,mb,cb,ab,tb,fb,V⟩ fi (.slice (some ⟨g,0,none⟩) (L+1) cp)).V,HP3.out.2.1,HP3.out.2.2.1,HP3.out.2.2.2.1,HEo.out _ (by have h:=HP3.out.2.2.2.2;have e:V fi=ve:=HVe.out;rw [<- e];exact h),atFr HA4.out hG5 na⟩
    case rest=>
     obtain ⟨rfl,V2,hy,hz,hsp,heo,hat⟩:=hcut;have HY:Hid (Wy w wc ⟨wb,rb,mb,cb,ab,tb,fb,V2⟩ ao cap t xs (ek++[⟨(fi:Int),(ti:Int),xl,xd,xy⟩]) 0 (fun _ _=>0) (fun _=>0) (toN ek) (fun _=>0)/\(∀ i,wc.frozen? ⟨ab,i,none⟩=false)/\Sep ⟨wb,rb,mb,cb,ab,tb,fb,V2⟩ xs.length/\EOwn w.heap.size wc (some ⟨eb,0,none⟩) c1 es/\At wc ob #[.int .i64 (fi:Int),.int .i64 (ti:Int),.int .i64 xl,.int .i64 xd,.int .i8 xy]):=⟨hy,hz,hsp,heo,hat⟩;clear hy hz hsp heo hat HQ2 HPut HRow HEo HAa c3a wla o0 o1 o2 o3 o4 ol wl c3 a0 al na' nv nwv HSp HVe e1;have HTn:Hid (toN (ek++[⟨(fi:Int),(ti:Int),xl,xd,xy⟩])=updI (toN ek) ti (toN ek ti+1)):=toN_put ek _;have HSet:Hid (∀ v,Wy w (wc.setCell ⟨tb,ti,none⟩ (.int .i64 v)).drew ⟨wb,rb,mb,cb,ab,tb,fb,V2⟩ ao cap t xs (ek++[⟨(fi:Int),(ti:Int),xl,xd,xy⟩]) 0 (fun _ _=>0) (fun _=>0) (updI (toN ek) ti v) (fun _=>0)/\(∀ i,(wc.setCell ⟨tb,ti,none⟩ (.int .i64 v)).drew.frozen? ⟨ab,i,none⟩=false)/\EOwn w.heap.size (wc.setCell ⟨tb,ti,none⟩ (.int .i64 v)).drew (some ⟨eb,0,none⟩) c1 es):=fun v=>by
      have g:Fr (One tb) wc (wc.setCell ⟨tb,ti,none⟩ (.int .i64 v)).drew:=((Fr.refl (One tb) wc).setCell (.inr rfl) _ _).drew;have h2:=HY.out.1.ok.wt;have h3:=HY.out.1.ok.ta;have h2:wb<tb:=h2;have h3:tb<ab:=h3;refine ⟨(HY.out.1.setT (by rw [HN.out];exact htn) v).next (drew_up _),fun i=>(g.frozen HY.out.1.al (by show ¬ ab=tb;omega) i).trans (HY.out.2.1 i),row_fr HY.out.2.2.2.1 g fun b hb e=>?_⟩;have h0:=HEn.out b hb;have e:b=tb:=e;omega
     have o1:=HY.out.2.2.2.2.c 1 _ rfl;have ol:=HY.out.2.2.2.2.lt;have wl:wb<wc.heap.size:=HY.out.1.at'.lt;have c4:wc.cell? ⟨wb,4,none⟩=some (.slice (some ⟨tb,0,none⟩) n n):=by have:=HY.out.1.at'.c 4 _ rfl;rw [HN.out] at this;exact this
     have t0:wc.cell? ⟨tb,ti,none⟩=some (.int .i64 (toN ek ti)):=HY.out.1.wt.c ti (by rw [HN.out];exact htn);have tz:wc.frozen? ⟨tb,ti,none⟩=false:=HY.out.1.wt.f ti;have tl:tb<wc.heap.size:=HY.out.1.wt.lt;go_upto_region 10 with fail
     generalize hp:toN ek ti=p at *
     go_region
     all_goals
      go_wp2_with fail
      go_roundw
      case rel=>exact ⟨k+1,V2,by omega,by go_num,by rw [HTk.out,HTn.out];exact (HSet.out _).1,(HSet.out _).2.1,by rw [<- HN.out];exact HY.out.2.2.1,(HSet.out _).2.2⟩
      case measure=>simp [intOf];omega
   ·obtain rfl:k=M:=by omega
    have k1:¬ (k:Int)<(k:Int):=by omega
    go_wp2_with fail
    go_ret
    have hfin:=HQ.out.1;rw [List.take_of_length_le (by rw [HM.out];omega)] at hfin;exact ⟨_,rfl,hfin⟩
end Go.Proofs.YtcmlnemokckbdaaDoor.Ls
