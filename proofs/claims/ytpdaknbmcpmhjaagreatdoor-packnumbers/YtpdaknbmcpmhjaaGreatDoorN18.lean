/- Parts Wf Wi. -/
import Derived.Test.YtpdaknbmcpmhjaaGreatDoorN15
import Derived.Test.YtpdaknbmcpmhjaaGreatDoorN16
import Derived.Deep.AppendLies
import Derived.Deep.DeepCutAuto
import Derived.Test.YtpdaknbmcpmhjaaGreatDoorN17
import Derived.Test.YtpdaknbmcpmhjaaGreatDoorN00
set_option maxRecDepth 20000
set_option maxHeartbeats 16000000
namespace Go.Proofs.YtpdaknbmcpmhjaaGreatDoor.Ls
open Go.ChangeShapes Go.WideShapes Go.ChangeAt Go.RowKit
open YtpdaknbmcpmhjaaGreatDoor.Op YtpdaknbmcpmhjaaGreatDoor.So YtpdaknbmcpmhjaaGreatDoor.Dp YtpdaknbmcpmhjaaGreatDoor.ListWay
open YtpdaknbmcpmhjaaGreatDoor.Rv (RAt Few frB tkF tk_few take_any free_any evOk NwOut new_ok)
open YtpdaknbmcpmhjaaGreatDoor.Tb (Tab TabAt Bnds)
theorem info118:(Tryz.prog.info? 118).map (fun i=>(i.zero,i.size,i.bytes))=some (some (.slice none 0 0),1,24):=by kernel_rfl
theorem rowBase' {W:World} {B B' e s n:Nat} {v:Value} {xs:List Value} (h:W.ownsRow B e s v n xs) (hB:B'<=B):W.ownsRow B' e s v n xs:=by
 obtain ⟨h1,h2⟩:=h;rcases h2 with h0|⟨g,cap,cur,e1,e2,e3⟩
 ·exact ⟨h1,.inl h0⟩
 ·exact ⟨h1,.inr ⟨g,cap,cur,e1,by omega,e3⟩⟩
theorem na_start {w w2:World} {ao a1:Option Addr} {n cap rb mb c1:Nat} {t:Tab} {es:List Ed} (hr:RAt w2 rb t none mb 0 (fun _ _=>0)) (he:EOwn w.heap.size w2 a1 c1 es) (hu:Below w.heap.size w w2) (r0:w.heap.size<=rb) (m0:w.heap.size<=mb):Na w (w2.alloc (.cells #[.slice ao n cap,.pointer (some ⟨rb,0,none⟩),.slice none 0 0,.slice none 0 0,.slice none 0 0,.slice none 0 0] 159)) ao n cap w2.heap.size rb mb t a1 c1 es:=by
 have g:Below w2.heap.size w2 (w2.alloc (.cells #[.slice ao n cap,.pointer (some ⟨rb,0,none⟩),.slice none 0 0,.slice none 0 0,.slice none 0 0,.slice none 0 0] 159)):=(Below.refl _ _).alloc (Nat.le_refl _) _;exact ⟨At.new _ _ _,hr.up g,row_up he g,fun b hb=>(he.lt b hb).2,hu.trans (g.mono hu.size),r0,m0,hr.at'.lt,hr.cm.lt⟩
theorem wy_start {w wc:World} {ao a1:Option Addr} {cap wb rb mb cb tb fb c1:Nat} {t:Tab} {xs:List O} {es:List Ed} (h:Nb w wc ao xs.length cap wb rb mb cb tb fb t a1 c1 es) (ho:OpsAt w ao xs) :
  Wy w ((wc.setCell ⟨wb,3,none⟩ (.slice (some ⟨wc.heap.size,0,none⟩) xs.length xs.length)).alloc (.cells (madeCells #[.slice none 0 0] xs.length) 118)) ⟨wb,rb,mb,cb,wc.heap.size,tb,fb,fun _=>.slice none 0 0⟩ ao cap t xs [] 0 (fun _ _=>0) (fun _=>0) (toN []) (fun _=>0) /\
  (∀ i,((wc.setCell ⟨wb,3,none⟩ (.slice (some ⟨wc.heap.size,0,none⟩) xs.length xs.length)).alloc (.cells (madeCells #[.slice none 0 0] xs.length) 118)).frozen? ⟨wc.heap.size,i,none⟩=false) /\
  EOwn w.heap.size ((wc.setCell ⟨wb,3,none⟩ (.slice (some ⟨wc.heap.size,0,none⟩) xs.length xs.length)).alloc (.cells (madeCells #[.slice none 0 0] xs.length) 118)) a1 c1 es:=by
 have hw:=h.at'.lt;have g:Fr (One wb) wc (wc.setCell ⟨wb,3,none⟩ (.slice (some ⟨wc.heap.size,0,none⟩) xs.length xs.length)):=(Fr.refl (One wb) wc).setCell (.inr rfl) _ _;have a0:=atSet h.at' (j:=3) (by simp) (.slice (some ⟨wc.heap.size,0,none⟩) xs.length xs.length);have hsz:(wc.setCell ⟨wb,3,none⟩ (.slice (some ⟨wc.heap.size,0,none⟩) xs.length xs.length)).heap.size=wc.heap.size:=by simp
 obtain ⟨Y,hY⟩:∃ Y,wc.setCell ⟨wb,3,none⟩ (.slice (some ⟨wc.heap.size,0,none⟩) xs.length xs.length)=Y:=⟨_,rfl⟩;rw [hY] at g a0 hsz ⊢;have g1:Below Y.heap.size Y (Y.alloc (.cells (madeCells #[.slice none 0 0] xs.length) 118)):=(Below.refl _ _).alloc (Nat.le_refl _) _;have hn:=At.new Y (madeCells #[.slice none 0 0] xs.length) 118;rw [hsz] at hn;have r1:=h.r0;have r2:=h.rw;have r3:=h.m0;have r4:=h.mw;have r5:=h.wc;have r6:=h.wt';have r7:=h.wf;have l1:=h.cy.lt;have l2:=h.wt.lt;have l3:=h.fs.lt;have u:Below w.heap.size w Y:=h.up.trans (g.below h.up.size fun k hk e=>by have e:k=wb:=e;omega);refine ⟨⟨⟨r1,r3,r2,r4,r5,r6,r7,h.ct,h.cf,h.tf,l1,l2,l3⟩,u.trans (g1.mono u.size),ho,a0.below g1 a0.lt,(raFr h.ra g (by show ¬ rb=wb;omega) (by show ¬ mb=wb;omega)).up g1,(h.cy.fr g (by show ¬ cb=wb;omega)).up g1,(h.wt.fr g (by show ¬ tb=wb;omega)).up g1,(h.fs.fr g (by show ¬ fb=wb;omega)).up g1,fun i hi=>?_,hn.lt,fun i hi=>?_⟩,hn.f,row_up (row_fr h.eo g fun k hk e=>?_) g1⟩
 ·refine hn.c i _ ?_;rw [<- Array.getElem?_toList,toList_madeCells_one];simp [hi]
 ·refine ⟨?_,.inl ⟨?_,?_⟩⟩ <;> rfl
 ·have:=h.en k hk
  have e:k=wb:=e;omega
theorem newWay_ok (ao:Option Addr) (cap:Nat) (xs:List O) (t:Tab) (w:World) (h:OpsAt w ao xs) (hcap:xs.length<=cap) (hG:Bnds w) (he:lisE t xs=0) :
  Calls Tryz.prog 89 #[.slice ao xs.length cap,t.val] w fun e w'=>∃ d,e=.returned (.pointer (some ⟨d.wb,0,none⟩))/\Wy w w' d ao cap t xs (ofE t xs) 0 (fun _ _=>0) (fun _=>0) (toN (ofE t xs)) (fun _=>0):=by
 have HOf:Hid (∀ W,Below w.heap.size w W->Calls Tryz.prog 156 #[.slice ao xs.length cap,t.val] W (EdOut W 0 (ofE t xs))):=fun W hb=>by
  have:=of_any ao cap xs t W (h.below hb) hcap (hG.below hb hG.big)
  unfold erE at this;rw [if_pos he,he] at this;exact this
 obtain ⟨ht,hn,hok⟩:=lis_all he;have hck:Tb.ckR t=0:=by unfold Tb.ckR;rw [if_pos ht]
 have HNw:Hid (∀ W,Below w.heap.size w W->Calls Tryz.prog 157 #[.agg #[.int .i64 (t.u 0),.int .i64 (t.u 1),.int .i64 (t.u 2),.int .i64 (t.u 3),.int .i64 (t.l 0),.int .i64 (t.l 1),.int .i64 (t.l 2),.int .i64 (t.l 3),.int .i64 (t.b 0),.int .i64 (t.b 1),.int .i64 (t.b 2),.int .i64 (t.b 3),.int .i64 t.d]] W fun e w'=>∃ rb mb,e=.returned (.tuple #[.pointer (some ⟨rb,0,none⟩),.int .i64 0])/\RAt w' rb t none mb 0 (fun _ _=>0)/\(W.heap.size<=rb/\W.heap.size<=mb)/\Below W.heap.size W w'):=fun W hb=>new_ok t W (hG.below hb hG.big) hck;have HEO:Hid (EOk xs.length (ofE t xs)):=ofE_ok t xs (pts_ok t xs (fun o ho=>⟨h.ok o ho,okL_okO (hok o ho)⟩) ht);have HLn:Hid ((ofE t xs).length<=100000000):=Nat.le_trans (withinE_len _ _ _ hn) (by omega);have HO:Hid (OpsAt w ao xs):=h;clear h hcap hG hok he ht hck;obtain ⟨es,hes⟩:∃ es,ofE t xs=es:=⟨_,rfl⟩;rw [hes] at HOf HEO HLn ⊢;clear hes;obtain ⟨M,hM⟩:∃ M,es.length=M:=⟨_,rfl⟩;have HM:Hid (es.length=M):=hM;have hMb:(M:Int)<=100000000:=by have:=HLn.out;omega
 clear HLn hM;obtain ⟨n,hN⟩:∃ n,xs.length=n:=⟨_,rfl⟩;have HN:Hid (xs.length=n):=hN;have hn':(n:Int)<=1024:=by omega
 rw [hN] at HOf ⊢;clear hN hn;have HOf2:Hid (∀ W,Below w.heap.size w W->Calls Tryz.prog 156 #[.slice ao n cap,.agg #[.int .i64 (t.u 0),.int .i64 (t.u 1),.int .i64 (t.u 2),.int .i64 (t.u 3),.int .i64 (t.l 0),.int .i64 (t.l 1),.int .i64 (t.l 2),.int .i64 (t.l 3),.int .i64 (t.b 0),.int .i64 (t.b 1),.int .i64 (t.b 2),.int .i64 (t.b 3),.int .i64 t.d]] W fun e w'=>∃ a c,e=.returned (.tuple #[.slice a M c,.int .i64 0])/\EOwn W.heap.size w' a c es/\Below W.heap.size W w'):=fun W hb=>by
  have:=HOf.out W hb
  rw [<- HM.out];exact this
 clear HOf;obtain ⟨i0,hi,hi2⟩:=Option.map_eq_some_iff.1 info3;simp only [Prod.mk.injEq] at hi2;obtain ⟨hz0,hz1,hz2⟩:=hi2;have HI3:Hid (Tryz.prog.info? 3=some i0/\i0.zero=some (.int .i64 0)/\i0.size=1/\i0.bytes=8):=⟨hi,hz0,hz1,hz2⟩;clear hi hz0 hz1 hz2;obtain ⟨i1,hi,hi2⟩:=Option.map_eq_some_iff.1 info118;simp only [Prod.mk.injEq] at hi2;obtain ⟨hz0,hz1,hz2⟩:=hi2;have HI33:Hid (Tryz.prog.info? 118=some i1/\i1.zero=some (.slice none 0 0)/\i1.size=1/\i1.bytes=24):=⟨hi,hz0,hz1,hz2⟩;clear hi hz0 hz1 hz2;obtain ⟨i2,hi,hi2⟩:=Option.map_eq_some_iff.1 info122;simp only [Prod.mk.injEq] at hi2;obtain ⟨hz0,hz1,hz2⟩:=hi2;have HI:Hid (Tryz.prog.info? 122=some i2/\i2.zero=some (.agg #[.int .i64 0,.int .i64 0,.int .i64 0,.int .i64 0,.int .i8 0])/\i2.size=5/\i2.bytes=40):=⟨hi,hz0,hz1,hz2⟩;clear hi hz0 hz1 hz2;unfold Tab.val at *;go_enter Tryz.func89,Tryz.ntmps89;go_upto_region 4 with (first
  | (go_at_call 156;refine Calls.mono (HOf2.out _ (by go_grown)) ?_;rintro e w1 ⟨a1,c1,rfl,o1,b1⟩;have HT:Hid (TabAt w1 w.heap.size t/\Below w.heap.size w w1/\EOwn w.heap.size w1 a1 c1 es):=⟨(Tb.tabAt_new w t 27).below b1 (by simp),Below.trans (by go_grown) (b1.mono (by simp)),rowBase' o1 (by simp)⟩;clear o1 b1 HOf2;have k2:=HT.out.1;have qu0:=k2.cu 0 (by decide);have qu1:=k2.cu 1 (by decide);have qu2:=k2.cu 2 (by decide);have qu3:=k2.cu 3 (by decide);have ql0:=k2.cl 0 (by decide);have ql1:=k2.cl 1 (by decide);have ql2:=k2.cl 2 (by decide);have ql3:=k2.cl 3 (by decide);have qb0:=k2.cb 0 (by decide);have qb1:=k2.cb 1 (by decide);have qb2:=k2.cb 2 (by decide);have qb3:=k2.cb 3 (by decide);have qd:=k2.cd;have qz:=k2.lt;clear k2)
  | (go_at_call 157;refine Calls.mono (HNw.out _ HT.out.2.1) ?_;rintro e w2 ⟨rb,mb,rfl,r2,l2,b2⟩;have HX0:Hid (Na w (w2.alloc (.cells #[.slice ao n cap,.pointer (some ⟨rb,0,none⟩),.slice none 0 0,.slice none 0 0,.slice none 0 0,.slice none 0 0] 159)) ao n cap w2.heap.size rb mb t a1 c1 es):=na_start r2 (row_up HT.out.2.2 b2) (HT.out.2.1.trans (b2.mono HT.out.2.1.size)) (by have:=HT.out.2.1.size;omega) (by have:=HT.out.2.1.size;omega);clear r2 l2 b2 HNw HT qu0 qu1 qu2 qu3 ql0 ql1 ql2 ql3 qb0 qb1 qb2 qb3 qd qz))
 generalize w2.alloc (.cells #[.slice ao n cap,.pointer (some ⟨rb,0,none⟩),.slice none 0 0,.slice none 0 0,.slice none 0 0,.slice none 0 0] 159)=X at *;generalize w2.heap.size=wb at *
 go_cut [9] (fun v wc=>v=.pointer (some ⟨wb,0,none⟩)/\∃ cb tb fb,Nb w wc ao n cap wb rb mb cb tb fb t a1 c1 es)
 case first=>
  have hmk:∀ Z:World,(Instr.makeSlice 48 (.int .i64 (n:Int)) (.int .i64 (n:Int))).run Tryz.prog Z=.ok (.slice (some ⟨Z.heap.size,0,none⟩) n n) (Z.alloc (.cells (madeCells #[.int .i64 0] n) 3)):=fun Z=>run_make_row 48 3 i0 (.int .i64 0) Tryz.underlying48 HI3.out.1 HI3.out.2.1 HI3.out.2.2.1 rfl .i64 .i64 n (by rw [HI3.out.2.2.2];omega) (by omega) Z;have hat:=HX0.out.at';have x2:=hat.c 2 _ rfl;have x4:=hat.c 4 _ rfl;have x5:=hat.c 5 _ rfl;have z2:=hat.f 2;have z4:=hat.f 4;have z5:=hat.f 5;have xl:=hat.lt;have xl1:wb<X.heap.size+1:=by omega
  have xl2:wb<X.heap.size+1+1:=by omega
  have xl3:wb<X.heap.size+2:=by omega
  clear hat HI3 HI33 HI
  go_region
  all_goals
   go_wp2_with fail
   go_meet
   exact ⟨rfl,_,_,_,nb_of HX0.out _ _ _ (by omega) (by omega) (by omega) (by omega) (by omega) (by omega) (by omega) (by omega) (by omega)⟩
 case rest=>
  obtain ⟨rfl,cb,tb,fb,hnb⟩:=hcut;have HB0:Hid (Nb w wc ao n cap wb rb mb cb tb fb t a1 c1 es):=hnb;have hat:=hnb.at';have x3:=hat.c 3 _ rfl;have z3:=hat.f 3;have xl:=hat.lt;clear hat HX0 hnb;go_upto_region 6 with (first
   | (at_make;refine wpList_make_row _ rfl _ _ 157 rfl 118 i1 (.slice none 0 0) Tryz.underlying157 HI33.out.1 HI33.out.2.1 HI33.out.2.2.1 rfl .i64 .i64 n rfl rfl (by rw [HI33.out.2.2.2];omega) (by omega) ?_))
  have HEn:Hid (∀ b,(Value.slice a1 es.length c1).ownBlock=some b->b<wb):=HB0.out.en;have HS:Hid (Wy w ((wc.setCell ⟨wb,3,none⟩ (.slice (some ⟨wc.heap.size,0,none⟩) n n)).alloc (.cells (madeCells #[.slice none 0 0] n) 118)) ⟨wb,rb,mb,cb,wc.heap.size,tb,fb,fun _=>.slice none 0 0⟩ ao cap t xs [] 0 (fun _ _=>0) (fun _=>0) (toN []) (fun _=>0)/\(∀ i,((wc.setCell ⟨wb,3,none⟩ (.slice (some ⟨wc.heap.size,0,none⟩) n n)).alloc (.cells (madeCells #[.slice none 0 0] n) 118)).frozen? ⟨wc.heap.size,i,none⟩=false)/\EOwn w.heap.size ((wc.setCell ⟨wb,3,none⟩ (.slice (some ⟨wc.heap.size,0,none⟩) n n)).alloc (.cells (madeCells #[.slice none 0 0] n) 118)) a1 c1 es):=by
   have h1:=HB0.out;rw [<- HN.out] at h1 ⊢;exact wy_start h1 HO.out
  generalize (wc.setCell ⟨wb,3,none⟩ (.slice (some ⟨wc.heap.size,0,none⟩) n n)).alloc (.cells (madeCells #[.slice none 0 0] n) 118)=W0 at *;generalize wc.heap.size=ab at *;clear HB0 x3 z3 xl;go_wp2_with fail
  go_loopw [53] (fun v wr=>∃ (k:Nat) (V:Nat->Value),k<=M/\v=.int .i64 k/\Wy w wr ⟨wb,rb,mb,cb,ab,tb,fb,V⟩ ao cap t xs (es.take k) 0 (fun _ _=>0) (fun _=>0) (toN (es.take k)) (fun _=>0)/\(∀ i,wr.frozen? ⟨ab,i,none⟩=false)/\Sep ⟨wb,rb,mb,cb,ab,tb,fb,V⟩ n/\EOwn w.heap.size wr a1 c1 es) (fun v _=>M-(intOf v).toNat)
  case atStart=>exact ⟨0,_,by omega,rfl,HS.out.1,HS.out.2.1,fun i j _ _ _ b hb=>by simp [Value.ownBlock] at hb,HS.out.2.2⟩
  case round=>
   rename World=>wr;obtain ⟨k,V,hk,rfl,hs,hfz,hsep,heo⟩:=hrel;have HQ:Hid (Wy w wr ⟨wb,rb,mb,cb,ab,tb,fb,V⟩ ao cap t xs (es.take k) 0 (fun _ _=>0) (fun _=>0) (toN (es.take k)) (fun _=>0)/\(∀ i,wr.frozen? ⟨ab,i,none⟩=false)/\Sep ⟨wb,rb,mb,cb,ab,tb,fb,V⟩ n/\EOwn w.heap.size wr a1 c1 es):=⟨hs,hfz,hsep,heo⟩;clear hs hfz hsep heo HS
   by_cases hlt:k<M
   ·have k0:(0:Int)<=(k:Int):=by omega
    have k1:(k:Int)<(M:Int):=by omega
    have hke:k<es.length:=by rw [HM.out];exact hlt
    obtain ⟨eb,rfl,l1,lb1,f0,f1,f2,f3,f4⟩:=eOwn_at HQ.out.2.2.2 hke;have hm:=List.getElem_mem hke;have g1:=HEO.out.f0 _ hm;have g2:=HEO.out.ft _ hm;have g3:=HEO.out.tn _ hm;have HTk:Hid (es.take (k+1)=es.take k++[es[k]]):=List.take_succ_eq_append_getElem hke;have HQ2:Hid (Wy w (wr.alloc (.cells #[.int .i64 es[k].f,.int .i64 es[k].t,.int .i64 es[k].l,.int .i64 es[k].d,.int .i8 es[k].y] 122)) ⟨wb,rb,mb,cb,ab,tb,fb,V⟩ ao cap t xs (es.take k) 0 (fun _ _=>0) (fun _=>0) (toN (es.take k)) (fun _=>0)/\(∀ i,(wr.alloc (.cells #[.int .i64 es[k].f,.int .i64 es[k].t,.int .i64 es[k].l,.int .i64 es[k].d,.int .i8 es[k].y] 122)).frozen? ⟨ab,i,none⟩=false)/\EOwn w.heap.size (wr.alloc (.cells #[.int .i64 es[k].f,.int .i64 es[k].t,.int .i64 es[k].l,.int .i64 es[k].d,.int .i8 es[k].y] 122)) (some ⟨eb,0,none⟩) c1 es/\At (wr.alloc (.cells #[.int .i64 es[k].f,.int .i64 es[k].t,.int .i64 es[k].l,.int .i64 es[k].d,.int .i8 es[k].y] 122)) wr.heap.size #[.int .i64 es[k].f,.int .i64 es[k].t,.int .i64 es[k].l,.int .i64 es[k].d,.int .i8 es[k].y]/\(wr.heap.size≠ab/\wr.heap.size≠tb/\∀ i,i<xs.length->¬ (V i).ownBlock=some wr.heap.size)):=by
     have g:Below wr.heap.size wr (wr.alloc (.cells #[.int .i64 es[k].f,.int .i64 es[k].t,.int .i64 es[k].l,.int .i64 es[k].d,.int .i8 es[k].y] 122)):=(Below.refl _ _).alloc (Nat.le_refl _) _;refine ⟨HQ.out.1.next g,fun i=>by rw [(bcell g).2 _ _ HQ.out.1.al];exact HQ.out.2.1 i,row_up HQ.out.2.2.2 g,At.new _ _ _,?_,?_,fun i hi e=>?_⟩
     ·have:=HQ.out.1.al
      have:ab<wr.heap.size:=this
      omega
     ·have:=HQ.out.1.wt.lt
      have:tb<wr.heap.size:=this
      omega
     ·have:=((HQ.out.1.rw i hi).lt _ e).2
      omega
    have HSp:Hid (Sep ⟨wb,rb,mb,cb,ab,tb,fb,V⟩ n):=HQ.out.2.2.1;have hwl:toN (es.take k) es[k].t.toNat<=100000000/\0<=toN (es.take k) es[k].t.toNat:=by
     have h1:=toN_le (es.take k) es[k].t.toNat;have h2:(es.take k).length<=k:=by rw [List.length_take];omega
     omega
    have hfl:(frm (es.take k) es[k].f.toNat).length<=100000000:=by
     have h1:(frm (es.take k) es[k].f.toNat).length<=(es.take k).length:=List.length_filter_le ..;have h2:(es.take k).length<=k:=by rw [List.length_take];omega
     omega
    clear hm;generalize es[k]=x at *;obtain ⟨xf,xt,xl,xd,xy⟩:=x;obtain ⟨fi,rfl⟩:∃ fi:Nat,xf=fi:=⟨xf.toNat,by have g1:0<=xf:=g1;omega⟩;obtain ⟨ti,rfl⟩:∃ ti:Nat,xt=ti:=⟨xt.toNat,by have g1:0<=(fi:Int):=g1;have g2:(fi:Int)<xt:=g2;omega⟩;have g2:(fi:Int)<(ti:Int):=g2;have g3:(ti:Int)<(n:Int):=by have g3:(ti:Int)<(xs.length:Int):=g3;rw [HN.out] at g3;exact g3
    have g6:(0:Int)<=(fi:Int):=by omega
    have g7:(fi:Int)<(n:Int):=by omega
    have g8:(0:Int)<=(ti:Int):=by omega
    have hfn:fi<n:=by omega
    have htn:ti<n:=by omega
    have hwl:toN (es.take k) ti<=100000000/\0<=toN (es.take k) ti:=hwl;have hfl:(frm (es.take k) fi).length<=100000000:=hfl;clear g1;obtain ⟨ek,hek⟩:∃ ek,es.take k=ek:=⟨_,rfl⟩;rw [hek] at HQ2 HTk hwl hfl;clear hek;go_upto_region 9 with fail
    generalize (wr.alloc (.cells #[.int .i64 (fi:Int),.int .i64 (ti:Int),.int .i64 xl,.int .i64 xd,.int .i8 xy] 122))=X at *;have na:=HQ2.out.2.2.2.2.1;have nt:=HQ2.out.2.2.2.2.2.1;have nv:=HQ2.out.2.2.2.2.2.2 fi (by rw [HN.out];exact hfn);have na':¬ ab=wr.heap.size:=fun e=>na e.symm;generalize wr.heap.size=ob at *;clear HQ f0 f1 f2 f3 f4 l1 lb1;have hob:=HQ2.out.2.2.2.1;have o0:=hob.c 0 _ rfl;have o1:=hob.c 1 _ rfl;have o2:=hob.c 2 _ rfl;have o3:=hob.c 3 _ rfl;have o4:=hob.c 4 _ rfl;have ol:=hob.lt;have wl:=HQ2.out.1.at'.lt;have c3:X.cell? ⟨wb,3,none⟩=some (.slice (some ⟨ab,0,none⟩) n n):=by have:=HQ2.out.1.at'.c 3 _ rfl;rw [HN.out] at this;exact this
    have a0:X.cell? ⟨ab,fi,none⟩=some (V fi):=HQ2.out.1.af fi (by rw [HN.out];exact hfn);have al:ab<X.heap.size:=HQ2.out.1.al;have wl:wb<X.heap.size:=wl;have HRow:Hid (X.ownsRow (ab+1) 122 5 (V fi) (frm ek fi).length (ecells (frm ek fi))):=HQ2.out.1.rw fi (by rw [HN.out];exact hfn);have HPut:Hid (∀ (g cp:Nat) (Z w4:World),Below X.heap.size X Z->Z.grownBy w4 (V fi).ownBlock->w4.ownsRow (ab+1) 122 5 (.slice (some ⟨g,0,none⟩) ((frm ek fi).length+1) cp) ((frm ek fi).length+1) (ecells (frm ek fi)++[.int .i64 (fi:Int),.int .i64 (ti:Int),.int .i64 xl,.int .i64 xd,.int .i8 xy])->((V fi).ownBlock=some g\/X.heap.size<=g)->_):=fun g cp Z w4 q1 q2 q3 q4=>HQ2.out.1.put HQ2.out.2.1 (by rw [HN.out];exact HSp.out) q1 (i:=fi) (e:=⟨(fi:Int),(ti:Int),xl,xd,xy⟩) (by rw [HN.out];exact hfn) rfl q2 q3 q4;clear hob;have e1:X.drew.heap.size=X.heap.size:=rfl;obtain ⟨L,hL⟩:∃ L,(frm ek fi).length=L:=⟨_,rfl⟩;have HLL:Hid ((frm ek fi).length=L):=hL;rw [hL] at hfl HRow HPut;clear hL;obtain ⟨ve,hve⟩:∃ ve,V fi=ve:=⟨_,rfl⟩;rw [hve] at a0 HRow HPut nv;have nwv:¬ ve.ownBlock=some wb:=fun e=>by have h1:=(HRow.out.lt wb e).1;have h2:=HQ2.out.1.ok.wc;have h3:=HQ2.out.1.ok.ca;have h2:wb<cb:=h2;have h3:cb<ab:=h3;omega
    have HVe:Hid (V fi=ve):=hve;clear hve;have nwab:¬ wb=ab:=by have h2:=HQ2.out.1.ok.wc;have h3:=HQ2.out.1.ok.ca;have h2:wb<cb:=h2;have h3:cb<ab:=h3;omega
    have HEo:Hid (∀ Z,Fr (fun b=>b=ab\/ve.ownBlock=some b) X Z->EOwn w.heap.size Z (some ⟨eb,0,none⟩) c1 es):=fun Z hZ=>row_fr HQ2.out.2.2.1 hZ fun b hb e=>by
     have h0:=HEn.out b hb;rcases e with e|e
     ·have h2:=HQ2.out.1.ok.wc;have h3:=HQ2.out.1.ok.ca;have h2:wb<cb:=h2;have h3:cb<ab:=h3;omega
     ·have h1:=(HRow.out.lt b e).1;have h2:=HQ2.out.1.ok.wc;have h3:=HQ2.out.1.ok.ca;have h2:wb<cb:=h2;have h3:cb<ab:=h3;omega
    have c3a:(X.drew.alloc (.cells #[.int .i64 (fi:Int),.int .i64 (ti:Int),.int .i64 xl,.int .i64 xd,.int .i8 xy] 122)).cell? ⟨wb,3,none⟩=some (.slice (some ⟨ab,0,none⟩) n n):=by
     have g:Below X.heap.size X (X.drew.alloc (.cells #[.int .i64 (fi:Int),.int .i64 (ti:Int),.int .i64 xl,.int .i64 xd,.int .i8 xy] 122)):=(drew_up X).alloc (Nat.le_refl _) _;rw [(bcell g).1 _ _ wl];exact c3
    have wla:wb<(X.drew.alloc (.cells #[.int .i64 (fi:Int),.int .i64 (ti:Int),.int .i64 xl,.int .i64 xd,.int .i8 xy] 122)).heap.size:=by simp;omega
    have HAa:Hid (At (X.drew.alloc (.cells #[.int .i64 (fi:Int),.int .i64 (ti:Int),.int .i64 xl,.int .i64 xd,.int .i8 xy] 122)) ob #[.int .i64 (fi:Int),.int .i64 (ti:Int),.int .i64 xl,.int .i64 xd,.int .i8 xy]):=HQ2.out.2.2.2.1.below ((drew_up X).alloc (Nat.le_refl _) _) ol
    go_cut [11] (fun v wx=>v=.pointer (some ⟨ob,0,none⟩)/\∃ V,Wy w wx ⟨wb,rb,mb,cb,ab,tb,fb,V⟩ ao cap t xs (ek++[⟨(fi:Int),(ti:Int),xl,xd,xy⟩]) 0 (fun _ _=>0) (fun _=>0) (toN ek) (fun _=>0)/\(∀ i,wx.frozen? ⟨ab,i,none⟩=false)/\Sep ⟨wb,rb,mb,cb,ab,tb,fb,V⟩ xs.length/\EOwn w.heap.size wx (some ⟨eb,0,none⟩) c1 es/\At wx ob #[.int .i64 (fi:Int),.int .i64 (ti:Int),.int .i64 xl,.int .i64 xd,.int .i8 xy])
    case first=>
     refine wp_region_held_drew (S:=fun Z=>(Z.cell? ⟨wb,3,none⟩=some (.slice (some ⟨ab,0,none⟩) n n)/\wb<Z.heap.size)/\At Z ob #[.int .i64 (fi:Int),.int .i64 (ti:Int),.int .i64 xl,.int .i64 xd,.int .i8 xy]) (by kernel_rfl) ⟨⟨c3,wl⟩,HQ2.out.2.2.2.1.below (drew_up _) ol⟩ (fun zH=>?_);refine wg 0 (.pointer (some ⟨wb,0,none⟩)) rfl zH ?_;simp only [pq];refine wg 1 (.pointer (some ⟨wb,0,none⟩)) rfl zH ?_;simp only [pq];refine wg 2 (.pointer (some ⟨wb,3,none⟩)) rfl zH ?_;simp only [pq];refine wt 3 (.slice (some ⟨ab,0,none⟩) n n) rfl (fun w' hSw=>by (have y3:=hSw.1.1;have yl:=hSw.1.2;go_simp)) zH ?_;simp only [pq];refine wg 4 (.pointer (some ⟨ob,0,none⟩)) rfl zH ?_;simp only [pq];refine wt 5 (.int .i64 (fi:Int)) rfl (fun w' hSw=>by (have y0:=hSw.2.c 0 _ rfl;have yl:=hSw.2.lt;go_simp)) zH ?_;simp only [pq];refine wg 6 (.pointer (some ⟨wb,0,none⟩)) rfl zH ?_;simp only [pq];refine wg 7 (.pointer (some ⟨wb,0,none⟩)) rfl zH ?_;simp only [pq];refine wg 8 (.pointer (some ⟨wb,3,none⟩)) rfl zH ?_;simp only [pq];refine wt 9 (.slice (some ⟨ab,0,none⟩) n n) rfl (fun w' hSw=>by (have y3:=hSw.1.1;have yl:=hSw.1.2;go_simp)) zH ?_;simp only [pq];refine wg 10 (.pointer (some ⟨ob,0,none⟩)) rfl zH ?_;simp only [pq];refine wt 11 (.int .i64 (fi:Int)) rfl (fun w' hSw=>by (have y0:=hSw.2.c 0 _ rfl;have yl:=hSw.2.lt;go_simp)) zH ?_;simp only [pq];refine wg 12 (.pointer (some ⟨ab,fi,none⟩)) rfl zH ?_;simp only [pq];refine wt 14 (.agg #[.int .i64 (fi:Int),.int .i64 (ti:Int),.int .i64 xl,.int .i64 xd,.int .i8 xy]) rfl (fun w' hSw=>by (have y0:=hSw.2.c 0 _ rfl;have y1:=hSw.2.c 1 _ rfl;have y2:=hSw.2.c 2 _ rfl;have y3:=hSw.2.c 3 _ rfl;have y4:=hSw.2.c 4 _ rfl;have yl:=hSw.2.lt;go_simp)) zH ?_;simp only [pq];refine wpAnyH_ready (rs:=[13,15]) (by kernel_rfl) (by simp) ?_;refine AllReadyH.cons rfl (fun K hK=>?_) (AllReadyH.cons rfl (fun K hK=>?_) AllReadyH.nil)
     ·go_simp
      refine hK.out _ _ ⟨⟨c3,wl⟩,HQ2.out.2.2.2.1.below (drew_up _) ol⟩ (fun zH=>?_);clear hK K;refine wpAnyH_ready (rs:=[15]) (by kernel_rfl) (by simp) ?_;refine AllReadyH.cons rfl (fun K hK=>?_) AllReadyH.nil;go_simp
      refine hK.out _ _ ⟨⟨c3a,wla⟩,HAa.out⟩ (fun zH=>?_);clear hK K;refine wpAnyH_ready (rs:=[16]) (by kernel_rfl) (by simp) ?_;refine AllReadyH.cons rfl (fun K hK=>?_) AllReadyH.nil;refine step_append_lies _ (by rfl) _ _ 118 (by rfl) (ab+1) 122 i2 (.agg #[.int .i64 0,.int .i64 0,.int .i64 0,.int .i64 0,.int .i8 0]) 5 40 Tryz.underlying118 HI.out.1 HI.out.2.1 HI.out.2.2.1 HI.out.2.2.2 rfl (by decide) ve L (ecells (frm ek fi)) (by rfl) (HRow.out.drew.alloc _) ⟨X.heap.size,0,none⟩ 1 1 [.int .i64 (fi:Int),.int .i64 (ti:Int),.int .i64 xl,.int .i64 xd,.int .i8 xy] (by rfl) rfl (World.news_of_block (heap_alloc_new X.drew (.cells #[.int .i64 (fi:Int),.int .i64 (ti:Int),.int .i64 xl,.int .i64 xd,.int .i8 xy] 122))) (by simp [Value.oneCell']) (by decide) (by unfold maxLen;omega) (by omega) (by simp;omega) _ rfl ?_;intro g cp w4 hown hgrow hg hlt3;have HP3:Hid _:=HPut.out g cp _ w4 ((drew_up X).alloc (Nat.le_refl _) _) hgrow hown (hg.imp id fun e=>by rw [e];simp);clear hown hgrow hg hlt3;have z0:=HP3.out.1.1;have z1:=HP3.out.1.2.1;have z2:=HP3.out.1.2.2.1;have hF4:Fr (fun b=>ve.ownBlock=some b) X w4:=by have h:=HP3.out.1.2.2.2;have e:V fi=ve:=HVe.out;rw [<- e];exact h
      have v3:=(hF4.cell wl nwv 3).trans c3;have vw:=Nat.lt_of_lt_of_le wl hF4.size;have HA4:Hid (At w4 ob #[.int .i64 (fi:Int),.int .i64 (ti:Int),.int .i64 xl,.int .i64 xd,.int .i8 xy]):=atFr HQ2.out.2.2.2.1 hF4 nv;refine hK.out _ _ ⟨⟨v3,vw⟩,HA4.out⟩ (fun zH=>?_);clear hK K;refine wg 17 (.pointer (some ⟨ab,fi,none⟩)) rfl zH ?_;simp only [pq];refine wpAnyH_ready (rs:=[18]) (by kernel_rfl) (by simp) ?_;refine AllReadyH.cons rfl (fun K hK=>?_) AllReadyH.nil;go_simp
      have hG5:Fr (One ab) w4 (w4.setCell ⟨ab,fi,none⟩ (.slice (some ⟨g,0,none⟩) (L+1) cp)):=(Fr.refl (One ab) w4).setCell (.inr rfl) _ _;refine hK.out _ _ ⟨⟨(hG5.cell vw nwab 3).trans v3,Nat.lt_of_lt_of_le vw hG5.size⟩,atFr HA4.out hG5 na⟩ (fun zH=>?_);clear hK K;refine wpAnyH_done (by kernel_rfl) ?_ _;go_wp2_with fail
      go_meet
      exact ⟨rfl,(dV ⟨wb,rb,mb,cb,ab,tb,fb,V⟩ fi (.slice (some ⟨g,0,none⟩) (L+1) cp)).V,HP3.out.2.1,HP3.out.2.2.1,HP3.out.2.2.2.1,HEo.out _ (by have h:=HP3.out.2.2.2.2;have e:V fi=ve:=HVe.out;rw [<- e];exact h),atFr HA4.out hG5 na⟩
     ·go_simp
      refine hK.out _ _ ⟨⟨c3a,wla⟩,HAa.out⟩ (fun zH=>?_);clear hK K;refine wpAnyH_ready (rs:=[13]) (by kernel_rfl) (by simp) ?_;refine AllReadyH.cons rfl (fun K hK=>?_) AllReadyH.nil;go_simp
      refine hK.out _ _ ⟨⟨c3a,wla⟩,HAa.out⟩ (fun zH=>?_);clear hK K;refine wpAnyH_ready (rs:=[16]) (by kernel_rfl) (by simp) ?_;refine AllReadyH.cons rfl (fun K hK=>?_) AllReadyH.nil;refine step_append_lies _ (by rfl) _ _ 118 (by rfl) (ab+1) 122 i2 (.agg #[.int .i64 0,.int .i64 0,.int .i64 0,.int .i64 0,.int .i8 0]) 5 40 Tryz.underlying118 HI.out.1 HI.out.2.1 HI.out.2.2.1 HI.out.2.2.2 rfl (by decide) ve L (ecells (frm ek fi)) (by rfl) (HRow.out.drew.alloc _) ⟨X.heap.size,0,none⟩ 1 1 [.int .i64 (fi:Int),.int .i64 (ti:Int),.int .i64 xl,.int .i64 xd,.int .i8 xy] (by rfl) rfl (World.news_of_block (heap_alloc_new X.drew (.cells #[.int .i64 (fi:Int),.int .i64 (ti:Int),.int .i64 xl,.int .i64 xd,.int .i8 xy] 122))) (by simp [Value.oneCell']) (by decide) (by unfold maxLen;omega) (by omega) (by simp;omega) _ rfl ?_;intro g cp w4 hown hgrow hg hlt3;have HP3:Hid _:=HPut.out g cp _ w4 ((drew_up X).alloc (Nat.le_refl _) _) hgrow hown (hg.imp id fun e=>by rw [e];simp);clear hown hgrow hg hlt3;have z0:=HP3.out.1.1;have z1:=HP3.out.1.2.1;have z2:=HP3.out.1.2.2.1;have hF4:Fr (fun b=>ve.ownBlock=some b) X w4:=by have h:=HP3.out.1.2.2.2;have e:V fi=ve:=HVe.out;rw [<- e];exact h
      have v3:=(hF4.cell wl nwv 3).trans c3;have vw:=Nat.lt_of_lt_of_le wl hF4.size;have HA4:Hid (At w4 ob #[.int .i64 (fi:Int),.int .i64 (ti:Int),.int .i64 xl,.int .i64 xd,.int .i8 xy]):=atFr HQ2.out.2.2.2.1 hF4 nv;refine hK.out _ _ ⟨⟨v3,vw⟩,HA4.out⟩ (fun zH=>?_);clear hK K;refine wg 17 (.pointer (some ⟨ab,fi,none⟩)) rfl zH ?_;simp only [pq];refine wpAnyH_ready (rs:=[18]) (by kernel_rfl) (by simp) ?_;refine AllReadyH.cons rfl (fun K hK=>?_) AllReadyH.nil;go_simp
      have hG5:Fr (One ab) w4 (w4.setCell ⟨ab,fi,none⟩ (.slice (some ⟨g,0,none⟩) (L+1) cp)):=(Fr.refl (One ab) w4).setCell (.inr rfl) _ _;refine hK.out _ _ ⟨⟨(hG5.cell vw nwab 3).trans v3,Nat.lt_of_lt_of_le vw hG5.size⟩,atFr HA4.out hG5 na⟩ (fun zH=>?_);clear hK K;refine wpAnyH_done (by kernel_rfl) ?_ _;go_wp2_with fail
      go_meet
      exact ⟨rfl,(dV ⟨wb,rb,mb,cb,ab,tb,fb,V⟩ fi (.slice (some ⟨g,0,none⟩) (L+1) cp)).V,HP3.out.2.1,HP3.out.2.2.1,HP3.out.2.2.2.1,HEo.out _ (by have h:=HP3.out.2.2.2.2;have e:V fi=ve:=HVe.out;rw [<- e];exact h),atFr HA4.out hG5 na⟩
    case rest=>
     obtain ⟨rfl,V2,hy,hz,hsp,heo,hat⟩:=hcut;have HY:Hid (Wy w wc ⟨wb,rb,mb,cb,ab,tb,fb,V2⟩ ao cap t xs (ek++[⟨(fi:Int),(ti:Int),xl,xd,xy⟩]) 0 (fun _ _=>0) (fun _=>0) (toN ek) (fun _=>0)/\(∀ i,wc.frozen? ⟨ab,i,none⟩=false)/\Sep ⟨wb,rb,mb,cb,ab,tb,fb,V2⟩ xs.length/\EOwn w.heap.size wc (some ⟨eb,0,none⟩) c1 es/\At wc ob #[.int .i64 (fi:Int),.int .i64 (ti:Int),.int .i64 xl,.int .i64 xd,.int .i8 xy]):=⟨hy,hz,hsp,heo,hat⟩;clear hy hz hsp heo hat HQ2 HPut HRow HEo HAa c3a wla o0 o1 o2 o3 o4 ol wl c3 a0 al na' nv nwv HSp HVe e1;have HTn:Hid (toN (ek++[⟨(fi:Int),(ti:Int),xl,xd,xy⟩])=updI (toN ek) ti (toN ek ti+1)):=toN_put ek _;have HSet:Hid (∀ v,Wy w (wc.setCell ⟨tb,ti,none⟩ (.int .i64 v)).drew ⟨wb,rb,mb,cb,ab,tb,fb,V2⟩ ao cap t xs (ek++[⟨(fi:Int),(ti:Int),xl,xd,xy⟩]) 0 (fun _ _=>0) (fun _=>0) (updI (toN ek) ti v) (fun _=>0)/\(∀ i,(wc.setCell ⟨tb,ti,none⟩ (.int .i64 v)).drew.frozen? ⟨ab,i,none⟩=false)/\EOwn w.heap.size (wc.setCell ⟨tb,ti,none⟩ (.int .i64 v)).drew (some ⟨eb,0,none⟩) c1 es):=fun v=>by
      have g:Fr (One tb) wc (wc.setCell ⟨tb,ti,none⟩ (.int .i64 v)).drew:=((Fr.refl (One tb) wc).setCell (.inr rfl) _ _).drew;have h2:=HY.out.1.ok.wt;have h3:=HY.out.1.ok.ta;have h2:wb<tb:=h2;have h3:tb<ab:=h3;refine ⟨(HY.out.1.setT (by rw [HN.out];exact htn) v).next (drew_up _),fun i=>(g.frozen HY.out.1.al (by show ¬ ab=tb;omega) i).trans (HY.out.2.1 i),row_fr HY.out.2.2.2.1 g fun b hb e=>?_⟩;have h0:=HEn.out b hb;have e:b=tb:=e;omega
     have o1:=HY.out.2.2.2.2.c 1 _ rfl;have ol:=HY.out.2.2.2.2.lt;have wl:wb<wc.heap.size:=HY.out.1.at'.lt;have c4:wc.cell? ⟨wb,4,none⟩=some (.slice (some ⟨tb,0,none⟩) n n):=by have:=HY.out.1.at'.c 4 _ rfl;rw [HN.out] at this;exact this
     have t0:wc.cell? ⟨tb,ti,none⟩=some (.int .i64 (toN ek ti)):=HY.out.1.wt.c ti (by rw [HN.out];exact htn);have tz:wc.frozen? ⟨tb,ti,none⟩=false:=HY.out.1.wt.f ti;have tl:tb<wc.heap.size:=HY.out.1.wt.lt;go_upto_region 10 with fail
     generalize hp:toN ek ti=p at *
     go_region
     all_goals
      go_wp2_with fail
      go_roundw
      case rel=>exact ⟨k+1,V2,by omega,by go_num,by rw [HTk.out,HTn.out];exact (HSet.out _).1,(HSet.out _).2.1,by rw [<- HN.out];exact HY.out.2.2.1,(HSet.out _).2.2⟩
      case measure=>simp [intOf];omega
   ·obtain rfl:k=M:=by omega
    have k1:¬ (k:Int)<(k:Int):=by omega
    go_wp2_with fail
    go_ret
    have hfin:=HQ.out.1;rw [List.take_of_length_le (by rw [HM.out];omega)] at hfin;exact ⟨_,rfl,hfin⟩
end Go.Proofs.YtpdaknbmcpmhjaaGreatDoor.Ls
namespace Go.Proofs.YtpdaknbmcpmhjaaGreatDoor.Ls
open Go.ChangeShapes Go.WideShapes Go.ChangeAt Go.RowKit
open YtpdaknbmcpmhjaaGreatDoor.Op YtpdaknbmcpmhjaaGreatDoor.So YtpdaknbmcpmhjaaGreatDoor.Dp YtpdaknbmcpmhjaaGreatDoor.ListWay
open YtpdaknbmcpmhjaaGreatDoor.Rv (RAt Few frB tkF tk_few take_any free_any evOk)
open YtpdaknbmcpmhjaaGreatDoor.Tb (Tab TabAt Bnds)
def ordC (H:Nat->Int) (n:Nat):List Nat:=(dOrd H n (8*(n:Int)) (8*n+1)).map Int.toNat
def ordG (n:Nat) (g:Nat->Int):List Nat:=(List.range n).map fun i=>(g i).toNat
theorem ord_sameL {n:Nat} {H g:Nat->Int} {most:Int} {k:Nat} (ho:OrdF n H g) (hk:most-k<0) (hH:∀ i,i<n->0<=H i/\H i<=most):(List.range n).map g=dOrd H n most k:=by
 refine pw_uniq (ahd_asym H) _ _ ?_ (dOrd_pw H n most k) fun x=>?_
 ·rw [List.pairwise_map];rw [List.pairwise_iff_getElem];intro i j hi hj hij;simp only [List.getElem_range,List.length_range] at hi hj ⊢;exact ho.st i j hij hj
 ·rw [dOrd_mem,List.mem_map];constructor
  ·rintro ⟨i,hi,rfl⟩;have hi:=List.mem_range.1 hi;obtain ⟨h1,h2⟩:=ho.rg i hi;have h3:=hH (g i).toNat (by omega);exact ⟨(g i).toNat,by omega,by omega,by omega,h3.2⟩
  ·rintro ⟨j,hj,rfl,-,-⟩;obtain ⟨i,hi,e⟩:=ho.all j hj;exact ⟨i,List.mem_range.2 hi,e⟩
theorem ordG_C {n:Nat} {H g:Nat->Int} (ho:OrdF n H g) (hH:∀ i,i<n->0<=H i/\H i<=8*(n:Int)):ordG n g=ordC H n:=by
 unfold ordC ordG;rw [<- ord_sameL ho (most:=8*(n:Int)) (k:=8*n+1) (by omega) hH,List.map_map];rfl
theorem ordG_mem {n:Nat} {H g:Nat->Int} (ho:OrdF n H g) (i:Nat):i∈ordG n g↔i<n:=by
 unfold ordG;rw [List.mem_map];constructor
 ·rintro ⟨j,hj,rfl⟩
  have:=ho.rg j (List.mem_range.1 hj)
  omega
 ·intro hi;obtain ⟨j,hj,e⟩:=ho.all i hi;exact ⟨j,List.mem_range.2 hj,by rw [e];exact Int.toNat_natCast i⟩
theorem ordG_nodup {n:Nat} {H g:Nat->Int} (ho:OrdF n H g):(ordG n g).Nodup:=by
 unfold ordG;rw [List.nodup_iff_pairwise_ne,List.pairwise_map,List.pairwise_iff_getElem];intro i j hi hj hij;simp only [List.getElem_range,List.length_range] at hi hj ⊢;intro e;have h1:=ho.rg i (by omega);have h2:=ho.rg j hj;have h3:=ho.st i j hij hj;have h4:g i=g j:=by omega
 rw [h4] at h3;unfold Ahd at h3;omega
theorem ordG_lf {W:World} {nb n:Nat} {H g:Nat->Int} (ho:OrdF n H g) (h:Ir W nb n g):Lf W nb (ordG n g):=by
 refine ⟨fun k hk=>?_,h.f,h.lt⟩;have hk':k<n:=by simpa [ordG] using hk
 have h1:=ho.rg k hk';have e:(ordG n g)[k]=(g k).toNat:=by simp [ordG]
 rw [h.c k hk',e]
 congr 2
 omega
def cyL (t:Tab) (xs:List O):Nat->Int:=sch (sysL t xs (ofE t xs)) (ordC (hts (latN t xs) (ofE t xs)) xs.length)
theorem lis_parts {t:Tab} {xs:List O} (hok':∀ o∈xs,o.Ok) (he:lisE t xs=0):EOk xs.length (ofE t xs)/\(ofE t xs).length<=100000000/\∀ i,i<xs.length->0<=hts (latN t xs) (ofE t xs) i/\hts (latN t xs) (ofE t xs) i<=8*(xs.length:Int):=by
 obtain ⟨ht,hn,hok⟩:=lis_all he;have hEO:EOk xs.length (ofE t xs):=ofE_ok t xs (pts_ok t xs (fun o ho=>⟨hok' o ho,okL_okO (hok o ho)⟩) ht);refine ⟨hEO,Nat.le_trans (withinE_len _ _ _ hn) (by omega),fun i hi=>?_⟩
 have:=(hts_is (lat:=latN t xs) hEO).le hEO (fun i hi=>by rw [latN_at t hi];exact latV_in ht _) i hi
 omega
theorem ordC_mem {t:Tab} {xs:List O} (hok':∀ o∈xs,o.Ok) (he:lisE t xs=0) (i:Nat):i∈ordC (hts (latN t xs) (ofE t xs)) xs.length↔i<xs.length:=by
 have hH:=(lis_parts hok' he).2.2;unfold ordC;rw [List.mem_map];constructor
 ·rintro ⟨x,hx,rfl⟩;obtain ⟨j,hj,rfl,-,-⟩:=(dOrd_mem _ _ _ _ _).1 hx;simpa using hj
 ·intro hi
  have:=hH i hi
  exact ⟨(i:Int),(dOrd_mem _ _ _ _ _).2 ⟨i,hi,rfl,by omega,by omega⟩,Int.toNat_natCast i⟩
theorem cyL_is {t:Tab} {xs:List O} (hok':∀ o∈xs,o.Ok) (he:lisE t xs=0) (hu:hvU t xs=true) :
  (∀ i,i<xs.length->0<=cyL t xs i/\cyL t xs i+8<=8*(xs.length:Int))/\(∀ e∈(sysL t xs (ofE t xs)).es,cyL t xs e.f+e.l<=cyL t xs e.t)/\(∀ i,i<xs.length->∀ z,busy (sysL t xs (ofE t xs)) (cyL t xs) (clN xs i) z<=(t.u (clN xs i)).toNat)/\∀ i,i<xs.length->∀ e,0<=e->e<cyL t xs i->Why (sysL t xs (ofE t xs)) (cyL t xs) i e:=by
 have hEO:=(lis_parts hok' he).1;have ok:=sysL_ok (lis_all he).1 hu hEO;have hm:∀ i,i∈ordC (hts (latN t xs) (ofE t xs)) xs.length↔i<(sysL t xs (ofE t xs)).n:=ordC_mem hok' he;obtain ⟨h1,h2,h3,h4⟩:=inv_end (way_inv ok hm (9*(sysL t xs (ofE t xs)).n)).1 (way_ends ok hm (Nat.le_refl _));exact ⟨h1,fun e h=>h2 e h (by have:=ok.ed e h;omega) (ok.ed e h).2.1,h3,h4⟩
theorem cycles_no (ao:Option Addr) (cap:Nat) (xs:List O) (t:Tab) (w:World) (h:OpsAt w ao xs) (hcap:xs.length<=cap) (hG:Bnds w) (he:¬ lisE t xs=0) :
  Calls Tryz.prog 37 #[.slice ao xs.length cap,t.val] w fun e w'=>e=.returned (.tuple #[.slice none 0 0,.int .i64 (lisE t xs)])/\Below w.heap.size w w':=by
 have HO1:Hid (∀ W,Below w.heap.size w W->Calls Tryz.prog 87 #[.slice ao xs.length cap,.agg #[.int .i64 (t.u 0),.int .i64 (t.u 1),.int .i64 (t.u 2),.int .i64 (t.u 3),.int .i64 (t.l 0),.int .i64 (t.l 1),.int .i64 (t.l 2),.int .i64 (t.l 3),.int .i64 (t.b 0),.int .i64 (t.b 1),.int .i64 (t.b 2),.int .i64 (t.b 3),.int .i64 t.d]] W fun e w'=>e=.returned (.tuple #[.slice none 0 0,.int .i64 (lisE t xs)])/\Below W.heap.size W w'):=fun W hb=>hord_no ao cap xs.length t _ W he fun W' hb'=>hof_no ao cap xs t W' ((h.below hb).below hb') hcap ((hG.below hb hG.big).below hb' (hG.below hb hG.big).big) he;have hne:(lisE t xs != 0)=true:=by simpa using he
 clear h hcap hG;generalize lisE t xs=er at *;unfold Tab.val at *;go_enter Tryz.func37,Tryz.ntmps37;go_wp2_with (first
  | (go_at_call 87;refine Calls.mono (HO1.out _ (by go_grown)) ?_;rintro e w1 ⟨rfl,b1⟩;have HT:Hid (Below w.heap.size w w1):=Below.trans (by go_grown) (b1.mono (by simp));clear b1 HO1))
 go_ret2
 exact ⟨rfl,HT.out⟩
theorem tabNext {w w1 w2:World} {t:Tab} (h:TabAt w1 w.heap.size t/\Below w.heap.size w w1) (b:Below w1.heap.size w1 w2):TabAt w2 w.heap.size t/\Below w.heap.size w w2:=⟨h.1.below b h.1.lt,h.2.trans (b.mono h.2.size)⟩
theorem cycles_ok (ao:Option Addr) (cap:Nat) (xs:List O) (t:Tab) (w:World) (h:OpsAt w ao xs) (hcap:xs.length<=cap) (hG:Bnds w) (he:lisE t xs=0) (hu:hvU t xs=true) :
  Calls Tryz.prog 37 #[.slice ao xs.length cap,t.val] w (HtOut w xs.length (cyL t xs)):=by
 have hn:=(lis_all he).2.1;obtain ⟨hEO,hEl,hHs⟩:=lis_parts h.ok he;have ht:=(lis_all he).1;have HNw:Hid (∀ W,Below w.heap.size w W->Calls Tryz.prog 89 #[.slice ao xs.length cap,.agg #[.int .i64 (t.u 0),.int .i64 (t.u 1),.int .i64 (t.u 2),.int .i64 (t.u 3),.int .i64 (t.l 0),.int .i64 (t.l 1),.int .i64 (t.l 2),.int .i64 (t.l 3),.int .i64 (t.b 0),.int .i64 (t.b 1),.int .i64 (t.b 2),.int .i64 (t.b 3),.int .i64 t.d]] W fun e w'=>∃ d,e=.returned (.pointer (some ⟨d.wb,0,none⟩))/\Wy W w' d ao cap t xs (ofE t xs) 0 (fun _ _=>0) (fun _=>0) (toN (ofE t xs)) (fun _=>0)):=fun W hb=>newWay_ok ao cap xs t W (h.below hb) hcap (hG.below hb hG.big) he;obtain ⟨H,hH⟩:∃ H,hts (latN t xs) (ofE t xs)=H:=⟨_,rfl⟩;have HO1:Hid (∀ W,Below w.heap.size w W->Calls Tryz.prog 87 #[.slice ao xs.length cap,.agg #[.int .i64 (t.u 0),.int .i64 (t.u 1),.int .i64 (t.u 2),.int .i64 (t.u 3),.int .i64 (t.l 0),.int .i64 (t.l 1),.int .i64 (t.l 2),.int .i64 (t.l 3),.int .i64 (t.b 0),.int .i64 (t.b 1),.int .i64 (t.b 2),.int .i64 (t.b 3),.int .i64 t.d]] W fun e w'=>∃ nb g,e=.returned (.tuple #[.slice (some ⟨nb,0,none⟩) xs.length xs.length,.int .i64 0])/\Ir w' nb xs.length g/\OrdF xs.length H g/\W.heap.size<=nb/\Below W.heap.size W w'):=fun W hb=>hord_ok ao cap xs.length t H W hn fun W' hb'=>by rw [<- hH];exact hof_ok ao cap xs t W' ((h.below hb).below hb') hcap ((hG.below hb hG.big).below hb' (hG.below hb hG.big).big) he
 have HU:Hid (∀ W,Below w.heap.size w W->Calls Tryz.prog 88 #[.slice ao xs.length cap,.agg #[.int .i64 (t.u 0),.int .i64 (t.u 1),.int .i64 (t.u 2),.int .i64 (t.u 3),.int .i64 (t.l 0),.int .i64 (t.l 1),.int .i64 (t.l 2),.int .i64 (t.l 3),.int .i64 (t.b 0),.int .i64 (t.b 1),.int .i64 (t.b 2),.int .i64 (t.b 3),.int .i64 t.d]] W fun e w'=>e=.returned (.bool true)/\Below W.heap.size W w'):=fun W hb=>by rw [<- hu];exact haveUnits_any ao cap xs t W (h.below hb) hn
 have HPl:Hid (∀ (W:World) (d:Dt) (lb:Nat) (g:Nat->Int),OrdF xs.length H g->w.heap.size<=lb/\lb<d.rb/\lb<d.mb->Wy w W d ao cap t xs (ofE t xs) 0 (fun _ _=>0) (fun _=>0) (toN (ofE t xs)) (fun _=>0)->Lf W lb (ordG xs.length g)->Calls Tryz.prog 90 #[.pointer (some ⟨d.wb,0,none⟩),.slice (some ⟨lb,0,none⟩) xs.length xs.length] W fun e w'=>e=.returned (.tuple #[])/\∃ m f C Wt Ff,Wy w w' d ao cap t xs (ofE t xs) m f C Wt Ff/\∀ i,i<xs.length->C i=cyL t xs i):=fun W d lb g og hl hy hf=>by
  have hpz:Pz w W d ao cap t xs (ofE t xs) lb (ordG xs.length g) (fun _=>-1):=by
   refine ⟨⟨0,toN (ofE t xs),fun _=>0,?_,toN_ok t xs _,FOk.start _,Nat.zero_le _⟩,?_,?_⟩
   ·rw [cntF_start,cyF_start];exact hy
   ·rw [cntF_start];exact fun _ _=>⟨Int.le_refl _,by show (0:Int)<=8;decide⟩
   ·rw [lft_start];exact hf
  have hlen:(ordG xs.length g).length=xs.length:=by simp [ordG]
  have hc:=placeAll_ok xs.length hpz (ordG_nodup og) (ordG_mem og) hl ht hu hEO hEl hn (by omega) (by omega);rw [hlen] at hc;refine hc.mono fun e w' h'=>⟨h'.1,?_⟩;obtain ⟨m,Wt,Ff,q1,-⟩:=h'.2.ex;refine ⟨_,_,_,_,_,q1,fun i hi=>?_⟩;rw [ordG_C og (by rw [<- hH];exact hHs)];unfold cyF cyL;rw [hH];have h0:=(cyL_is h.ok he hu).1 i hi;unfold cyL at h0;rw [hH] at h0;rw [if_pos h0.1]
 have HO:Hid (OpsAt w ao xs):=h;clear h hcap hG hH hEO hEl hHs ht;unfold HtOut;unfold Tab.val at *;go_enter Tryz.func37,Tryz.ntmps37;go_wp2_with (first
  | (go_at_call 87;refine Calls.mono (HO1.out _ (by go_grown)) ?_;rintro e w1 ⟨nb,g,rfl,i1,og,l1,b1⟩;have HT:Hid (TabAt w1 w.heap.size t/\Below w.heap.size w w1):=tabNext ⟨Tb.tabAt_new w t 27,by go_grown⟩ b1;have HI1:Hid (Ir w1 nb xs.length g/\OrdF xs.length H g/\w.heap.size<=nb):=⟨i1,og,(by simp at l1;omega)⟩;clear b1 i1 og l1 HO1;have k2:=HT.out.1;have qu0:=k2.cu 0 (by decide);have qu1:=k2.cu 1 (by decide);have qu2:=k2.cu 2 (by decide);have qu3:=k2.cu 3 (by decide);have ql0:=k2.cl 0 (by decide);have ql1:=k2.cl 1 (by decide);have ql2:=k2.cl 2 (by decide);have ql3:=k2.cl 3 (by decide);have qb0:=k2.cb 0 (by decide);have qb1:=k2.cb 1 (by decide);have qb2:=k2.cb 2 (by decide);have qb3:=k2.cb 3 (by decide);have qd:=k2.cd;have qz:=k2.lt;clear k2)
  | (go_at_call 88;refine Calls.mono (HU.out _ HT.out.2) ?_;rintro e w2 ⟨rfl,b2⟩;have HT2:Hid (TabAt w2 w.heap.size t/\Below w.heap.size w w2):=tabNext HT.out b2;have HI2:Hid (Ir w2 nb xs.length g/\OrdF xs.length H g/\w.heap.size<=nb):=⟨HI1.out.1.up b2,HI1.out.2⟩;clear b2 HU HT HI1 qu0 qu1 qu2 qu3 ql0 ql1 ql2 ql3 qb0 qb1 qb2 qb3 qd qz;have k2:=HT2.out.1;have qu0:=k2.cu 0 (by decide);have qu1:=k2.cu 1 (by decide);have qu2:=k2.cu 2 (by decide);have qu3:=k2.cu 3 (by decide);have ql0:=k2.cl 0 (by decide);have ql1:=k2.cl 1 (by decide);have ql2:=k2.cl 2 (by decide);have ql3:=k2.cl 3 (by decide);have qb0:=k2.cb 0 (by decide);have qb1:=k2.cb 1 (by decide);have qb2:=k2.cb 2 (by decide);have qb3:=k2.cb 3 (by decide);have qd:=k2.cd;have qz:=k2.lt;clear k2)
  | (go_at_call 89;refine Calls.mono (HNw.out _ HT2.out.2) ?_;rintro e w3 ⟨d,rfl,y3⟩;have HY:Hid (Wy w w3 d ao cap t xs (ofE t xs) 0 (fun _ _=>0) (fun _=>0) (toN (ofE t xs)) (fun _=>0)/\Lf w3 nb (ordG xs.length g)/\(w.heap.size<=nb/\nb<d.rb/\nb<d.mb)):=⟨y3.rebase HT2.out.2 HO.out,(ordG_lf HI2.out.2.1 HI2.out.1).fr (Fr.of (X:=Non) y3.up) (fun h=>h),HI2.out.2.2,(by have:=HI2.out.1.lt;have:=y3.ok.r0;omega),(by have:=HI2.out.1.lt;have:=y3.ok.m0;omega)⟩;clear y3 HNw HT2 qu0 qu1 qu2 qu3 ql0 ql1 ql2 ql3 qb0 qb1 qb2 qb3 qd qz)
  | (go_at_call 90;refine Calls.mono (HPl.out _ d nb g HI2.out.2.1 HY.out.2.2 HY.out.1 HY.out.2.1) ?_;rintro e w4 ⟨rfl,m4,f4,C4,W4,F4,y4,e4⟩;have HZ:Hid (Wy w w4 d ao cap t xs (ofE t xs) m4 f4 C4 W4 F4/\∀ i,i<xs.length->C4 i=cyL t xs i):=⟨y4,e4⟩;clear y4 e4 HPl HY HI2;have wl:=HZ.out.1.at'.lt;have c2:w4.cell? ⟨d.wb,2,none⟩=some (.slice (some ⟨d.cb,0,none⟩) xs.length xs.length):=HZ.out.1.at'.c 2 _ rfl))
 go_ret2
 refine ⟨d.cb,rfl,HZ.out.1.cy.same HZ.out.2,?_,HZ.out.1.up⟩;have o:=HZ.out.1.ok
 have:=o.r0
 have:=o.rw
 have:=o.wc
 omega
end Go.Proofs.YtpdaknbmcpmhjaaGreatDoor.Ls
