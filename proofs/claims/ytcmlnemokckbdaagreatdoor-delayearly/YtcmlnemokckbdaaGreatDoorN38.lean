/- Parts QDc. -/
import Derived.Test.YtcmlnemokckbdaaGreatDoorN37
import Derived.Test.YtcmlnemokckbdaaGreatDoorN24
set_option maxRecDepth 20000
set_option maxHeartbeats 8000000
namespace Go.Proofs.YtcmlnemokckbdaaGreatDoor.L8.Li
open Go.ChangeShapes Go.WideShapes Go.ChangeAt Go.RowKit
open YtcmlnemokckbdaaGreatDoor.L8.So YtcmlnemokckbdaaGreatDoor.L8.Op YtcmlnemokckbdaaGreatDoor.L8.Fl YtcmlnemokckbdaaGreatDoor.L8.Lv
theorem refIn_no (ao:Option Addr) (cap:Nat) (ps:List Bk) (w:World) (h:PAt w ao ps) (hc:ckP ps≠0) :
  Calls Tryz.prog 35 #[.agg #[.slice ao ps.length cap]] w fun e w'=>e=.returned (.slice none 0 0)/\Below w.heap.size w w':=by
 have HC:Hid (Calls Tryz.prog 33 #[.agg #[.slice ao ps.length cap]] (w.alloc (.cells #[.slice ao ps.length cap] 40)) fun e w'=>e=.returned (.int .i64 (ckP ps))/\Below (w.alloc (.cells #[.slice ao ps.length cap] 40)).heap.size (w.alloc (.cells #[.slice ao ps.length cap] 40)) w'):=refCheckP_any ao cap ps _ (h.below (below_al _));generalize ckP ps=z at *;clear h;go_enter Tryz.func35,Tryz.ntmps35;go_wp2_with (first|(go_at_call 33;refine Calls.mono HC.out ?_;rintro e w1 ⟨rfl,hb⟩;obtain ⟨a1,hb0,hz⟩:=one_new w _ _ hb;have HB1:Hid _:=hb0;clear hb hb0 a1 HC))
 go_ret
 exact ⟨rfl,HB1.out⟩
structure D2 (w wr:World) (ao:Option Addr) (cap:Nat) (ps:List Bk) (bI:Nat) (xs:List Nat):Prop where
 q:Bw w wr ao cap ps
 hI:w.heap.size<bI
 u:Op.At wr bI (uc xs)
 so:So (PB ps) xs
theorem D2.xl {w wr:World} {ao:Option Addr} {cap:Nat} {ps:List Bk} {bI:Nat} {xs:List Nat} (h:D2 w wr ao cap ps bI xs):xs.length=ps.length:=by rw [h.so.len];simp
theorem D2.up {w wr w':World} {ao:Option Addr} {cap:Nat} {ps:List Bk} {bI:Nat} {xs:List Nat} (h:D2 w wr ao cap ps bI xs) (hb:Below wr.heap.size wr w'):D2 w w' ao cap ps bI xs:=⟨h.q.up hb,h.hI,h.u.below hb h.u.lt,h.so⟩
theorem D2.set {w wr:World} {ao:Option Addr} {cap:Nat} {ps:List Bk} {bI g:Nat} {xs:List Nat} (h:D2 w wr ao cap ps bI xs) (hs:∀ (i:Nat) k,(PB ps)[i]?=some k->SmallB k) (hg:g<ps.length):D2 w (wr.setCell ⟨bI,g,none⟩ (.int .u32 ((inN xs g ||| intoN (bOf ps[g]) xs:Nat):Int))) ao cap ps bI (xs.set g (inN xs g ||| intoN (bOf ps[g]) xs)):=by
 have hx:=h.xl;have hI:=h.hI;refine ⟨⟨at_fr h.q.a ((Fr.refl (One bI) wr).setCell (Or.inr rfl) _ _) (fun e=>?_),?_⟩,hI,?_,h.so.put (pb_at hg) (hs g _ (pb_at hg))⟩
 ·have e:w.heap.size=bI:=e;omega
 ·exact ((Fr.of (X:=Non) h.q.b).setCell (Or.inl (by omega)) _ _).non
 ·rw [<- uc_set];exact h.u.set (by rw [uc_size];omega) _
theorem D2.start {w w1:World} {ao:Option Addr} {cap:Nat} {ps:List Bk} (h:Bw w w1 ao cap ps) (t:TypeId):D2 w (w1.alloc (.cells (madeCells #[.int .u32 0] ps.length) t)) ao cap ps w1.heap.size (List.replicate ps.length 0):=by
 refine ⟨h.up (below_al _),h.a.lt,?_,?_⟩
 ·rw [uc_made];exact Op.At.new _ _ _
 ·have:=So.init (PB ps)
  simpa using this
theorem left_step {ps:List Bk} {xs:List Nat} {g:Nat} (hs:∀ (i:Nat) k,(PB ps)[i]?=some k->SmallB k) (hf:Fit xs) (hg:g<ps.length) (hx:xs.length=ps.length):left (xs.set g (inN xs g ||| intoN (bOf ps[g]) xs))<=left xs/\(inN xs g ||| intoN (bOf ps[g]) xs≠inN xs g->left (xs.set g (inN xs g ||| intoN (bOf ps[g]) xs))<left xs):=by
 have key:inN xs g ||| intoN (bOf ps[g]) xs≠inN xs g->left (xs.set g (inN xs g ||| intoN (bOf ps[g]) xs))<left xs:=fun hne=>by
  refine left_set (by omega) ?_ (Nat.or_lt_two_pow (n:=32) (hf g) (intoN_lt (hs g _ (pb_at hg)) hf))
  have:=grow_lt hne
  rw [<- inN_eq (by omega:g<xs.length)];exact this
 refine ⟨?_,key⟩
 by_cases e:inN xs g ||| intoN (bOf ps[g]) xs=inN xs g
 ·rw [e,inN_eq (by omega),List.set_getElem_self];exact Nat.le_refl _
 ·exact Nat.le_of_lt (key e)
structure D3 (ps:List Bk) (xs0 xs:List Nat) (grown:Bool) (k:Nat):Prop where
 r:Rnd (PB ps) xs grown k
 le:left xs<=left xs0
 lt:grown=true->left xs<left xs0
theorem D3.step {ps:List Bk} {xs0 xs:List Nat} {grown:Bool} {g:Nat} (h:D3 ps xs0 xs grown (g+1)) (hs:∀ (i:Nat) k,(PB ps)[i]?=some k->SmallB k) (hf:Fit xs) (hg:g<ps.length) (hx:xs.length=ps.length) :
  D3 ps xs0 (xs.set g (inN xs g ||| intoN (bOf ps[g]) xs)) (grown || (inN xs g ||| intoN (bOf ps[g]) xs) != inN xs g) g:=by
 obtain ⟨h1,h2⟩:=left_step hs hf hg hx;refine ⟨h.r.step (pb_at hg) (by omega),Nat.le_trans h1 h.le,fun hn=>?_⟩;rw [Bool.or_eq_true] at hn;rcases hn with hn|hn
 ·exact Nat.lt_of_le_of_lt h1 (h.lt hn)
 ·exact Nat.lt_of_lt_of_le (h2 (by simpa using hn)) h.le
theorem refIn_yes (ao:Option Addr) (cap:Nat) (ps:List Bk) (w:World) (h:PAt w ao ps) (hc:ckP ps=0) :
  Calls Tryz.prog 35 #[.agg #[.slice ao ps.length cap]] w fun e w'=>∃ v xs,e=.returned v/\Gu w w' v xs/\So (PB ps) xs/\∀ (i:Nat) k,(PB ps)[i]?=some k->Lv.Shut k xs i:=by
 have HC:Hid (Calls Tryz.prog 33 #[.agg #[.slice ao ps.length cap]] (w.alloc (.cells #[.slice ao ps.length cap] 40)) fun e w'=>e=.returned (.int .i64 0)/\Below (w.alloc (.cells #[.slice ao ps.length cap] 40)).heap.size (w.alloc (.cells #[.slice ao ps.length cap] 40)) w'):=by
  have:=refCheckP_any ao cap ps _ (h.below (below_al (w:=w) (.cells #[.slice ao ps.length cap] 40)))
  rw [hc] at this;exact this
 have hG:=good_of hc;have hpos:=hG.pos;have hle:=hG.le;have hok:=psOk_of h;have HSm:Hid (∀ (i:Nat) k,(PB ps)[i]?=some k->SmallB k):=pb_small hc hok;obtain ⟨bp,fp,rfl,hblt,hx⟩:=h.is hpos;have HX:Hid (∀ (i:Nat) (h:i<ps.length),∃ p,BAt w bp (fp+i*6) ps[i] p/\BIn w ps[i] p):=hx;have HFn:Hid (∀ (i:Nat) (h:i<ps.length),endB ps[i] ps.length=true):=fun i hi=>end_of (ck_blocks hc _ (List.getElem_mem hi));have HE:Hid (∀ (i:Nat) (hi:i<ps.length) p bI c xs W,BIn W ps[i] p->Op.At W bI (uc xs)->Fit xs->xs.length=ps.length->Calls Tryz.prog 65 #[ps[i].val p,.slice (some ⟨bI,0,none⟩) ps.length c] W fun e w'=>e=.returned (.int .u32 ((endN (bOf ps[i]) xs:Nat):Int))/\Below W.heap.size W w'):=fun i hi p bI c xs W h1 h2 h3 h4=>by
  have:=refEnd8_any ps[i] p (some ⟨bI,0,none⟩) c xs W h1 (ul_of h2) h3 (by omega) (by rw [h4];exact HFn.out i hi)
  rw [h4] at this;exact this
 have HL:Hid (∀ (i:Nat) (hi:i<ps.length) p xs W,BIn W ps[i] p->Fit xs->Calls Tryz.prog 64 #[.slice p.oa ps[i].ops.length p.oc,.int .i64 0,.int .u32 ((endN (bOf ps[i]) xs:Nat):Int)] W fun e w'=>e=.returned (.int .u32 ((intoN (bOf ps[i]) xs:Nat):Int))/\Below W.heap.size W w'):=fun i hi p xs W h1 h2=>refList_any p.oa p.oc ps[i].ops 0 (endN (bOf ps[i]) xs) W h1.o (end_lt (HFn.out i hi) h1.ok.a0 h1.o.ok h1.b.ok h2) (Nat.zero_le _);obtain ⟨i1,hi,hi2⟩:=Option.map_eq_some_iff.1 info76;simp only [Prod.mk.injEq] at hi2;obtain ⟨hz0,hz1,hz2⟩:=hi2;have HJ:Hid (Tryz.prog.info? 76=some i1/\i1.zero=some (.int .u32 0)/\i1.size=1/\i1.bytes=4):=⟨hi,hz0,hz1,hz2⟩;clear hi hz0 hz1 hz2 h hG hok hx hc;go_enter Tryz.func35,Tryz.ntmps35;go_wp2_with (first
  | (go_at_call 33;refine Calls.mono HC.out ?_;rintro e w1 ⟨rfl,hb⟩;obtain ⟨a1,hb0,hz⟩:=one_new w _ _ hb;have H1:Hid (Bw w w1 (some ⟨bp,fp,none⟩) cap ps):=⟨a1,hb0⟩;have cb:=H1.out.cell;clear hb hb0 a1 HC)
  | (at_make;refine wpList_make_row _ rfl _ _ 74 rfl 76 i1 (.int .u32 0) Tryz.underlying74 HJ.out.1 HJ.out.2.1 HJ.out.2.2.1 rfl .i64 .i64 ps.length rfl rfl (by rw [HJ.out.2.2.2];omega) (by omega) ?_))
 have HS:Hid (D2 w (w1.alloc (.cells (madeCells #[.int .u32 0] ps.length) 76)) (some ⟨bp,fp,none⟩) cap ps w1.heap.size (List.replicate ps.length 0)):=D2.start H1.out 76;generalize w1.heap.size=bI at *;clear H1 cb
 go_loopg [5] (left (List.replicate ps.length 0)*2+2) (fun g1 v wr=>∃ (xs:List Nat) (grown:Bool),v=.bool grown/\left xs*2+(if grown then 1 else 0)<g1/\Hid (D2 w wr (some ⟨bp,fp,none⟩) cap ps bI xs/\(grown=false->∀ (i:Nat) k,(PB ps)[i]?=some k->Lv.Shut k xs i)))
 case atStart=>exact ⟨_,true,rfl,by simp,HS.out,fun h=>by cases h⟩
 case round=>
  clear HS;obtain ⟨xs,grown,rfl,hcg,H2⟩:=hrel
  cases grown with
  | false=>
   have hR:Hid (xs.length=ps.length/\Ul wr (some ⟨bI,0,none⟩) xs/\Below w.heap.size w wr/\So (PB ps) xs/\∀ (i:Nat) k,(PB ps)[i]?=some k->Lv.Shut k xs i):=⟨H2.out.1.xl,ul_of H2.out.1.u,H2.out.1.q.b,H2.out.1.so,H2.out.2 rfl⟩;clear H2;go_wp2
   go_ret
   exact ⟨_,xs,rfl,⟨_,_,by rw [hR.out.1];rfl,hR.out.2.1,hR.out.2.2.1⟩,hR.out.2.2.2⟩
  | true=>
   go_wp2
   go_loopw [5,6] (fun v i wq=>∃ (k:Nat) (ys:List Nat) (gr:Bool),k<=ps.length/\i=.int .i64 ((k:Int)-1)/\v=.bool gr/\Hid (D2 w wq (some ⟨bp,fp,none⟩) cap ps bI ys/\D3 ps xs ys gr k)) (fun _ i _=>(intOf i+1).toNat)
   case atStart=>exact ⟨ps.length,xs,false,Nat.le_refl _,by go_num,rfl,H2.out.1,⟨by have:=Rnd.init (PB ps) xs;simpa using this,Nat.le_refl _,fun h=>by cases h⟩⟩
   case round=>
    rename World=>wq;clear H2;obtain ⟨k,ys,gr,hk,rfl,rfl,H3⟩:=hrel
    cases k with
    | zero=>
     have HN:Hid (D2 w wq (some ⟨bp,fp,none⟩) cap ps bI ys/\(gr=false->∀ (i:Nat) k,(PB ps)[i]?=some k->Lv.Shut k ys i)):=⟨H3.out.1,fun hg=>by have:=H3.out.2.r;rw [hg] at this;exact this.done⟩;have hm:left ys*2+(if gr then 1 else 0)<left xs*2+1:=by
      have h1:=H3.out.2.le;have h2:=H3.out.2.lt
      cases gr with
      | false=>simp;omega
      | true=>have:=h2 rfl;simp;omega
     simp only [if_true] at hcg;clear H3;go_wp2
     go_roundg (left xs*2+1)
     case measure=>omega
     case rel=>exact ⟨ys,gr,rfl,by omega,HN.out⟩
    | succ k=>
     have hkp:k<ps.length:=by omega
     have hkz:(k:Int)<(ps.length:Int):=by omega
     have e1:((k+1:Nat):Int)-1=(k:Int):=by omega
     rw [e1];obtain ⟨p,hp,hin⟩:=HX.out k hkp;have hyl:=H3.out.1.xl;have hfit:=H3.out.1.so.fit;have HE1:Hid (∀ z:Wd (Below wq.heap.size wq),Calls Tryz.prog 65 #[ps[k].val p,.slice (some ⟨bI,0,none⟩) ps.length ps.length] z.w fun e w'=>e=.returned (.int .u32 ((endN (bOf ps[k]) ys:Nat):Int))/\Below z.w.heap.size z.w w'):=fun z=>HE.out k hkp p bI _ ys z.w (hin.below (H3.out.1.up z.ok).q.b) (H3.out.1.up z.ok).u hfit hyl;have HL1:Hid (∀ z:Wd (Below wq.heap.size wq),Calls Tryz.prog 64 #[.slice p.oa ps[k].ops.length p.oc,.int .i64 0,.int .u32 ((endN (bOf ps[k]) ys:Nat):Int)] z.w fun e w'=>e=.returned (.int .u32 ((intoN (bOf ps[k]) ys:Nat):Int))/\Below z.w.heap.size z.w w'):=fun z=>HL.out k hkp p ys z.w (hin.below (H3.out.1.up z.ok).q.b) hfit;have HO:Hid (bits .or .u32 ((inN ys k:Nat):Int) ((intoN (bOf ps[k]) ys:Nat):Int)=((inN ys k ||| intoN (bOf ps[k]) ys:Nat):Int)):=or_u32 (hfit k) (intoN_lt (HSm.out k _ (pb_at hkp)) hfit);have H4:Hid (∀ W,Below wq.heap.size wq W->D2 w (W.setCell ⟨bI,k,none⟩ (.int .u32 ((inN ys k ||| intoN (bOf ps[k]) ys:Nat):Int))) (some ⟨bp,fp,none⟩) cap ps bI (ys.set k (inN ys k ||| intoN (bOf ps[k]) ys))):=fun W hW=>(H3.out.1.up hW).set HSm.out hkp;have H5:Hid (D3 ps xs (ys.set k (inN ys k ||| intoN (bOf ps[k]) ys)) (gr || (inN ys k ||| intoN (bOf ps[k]) ys) != inN ys k) k):=H3.out.2.step HSm.out hfit hkp hyl;have HP:Hid (∀ z:Wd (Below wq.heap.size wq),BAt z.w bp (fp+k*6) ps[k] p):=fun z=>hp.below (H3.out.1.up z.ok).q.b hblt;have e0:∀ z:Wd (Below wq.heap.size wq),z.w.cell? ⟨w.heap.size,0,none⟩=some (.slice (some ⟨bp,fp,none⟩) ps.length cap):=fun z=>(H3.out.1.up z.ok).q.cell;have e2:∀ z:Wd (Below wq.heap.size wq),z.w.cell? ⟨bI,k,none⟩=some (.int .u32 ((inN ys k:Nat):Int)):=fun z=>(H3.out.1.up z.ok).u.c k _ (uc_get (by omega));have HU:Hid (∀ z:Wd (Below wq.heap.size wq),z.w.cell? ⟨bI,k,none⟩=some (.int .u32 ((inN ys k:Nat):Int))/\z.w.frozen? ⟨bI,k,none⟩=false):=fun z=>⟨e2 z,(H3.out.1.up z.ok).u.f k⟩;generalize ys.set k (inN ys k ||| intoN (bOf ps[k]) ys)=ys' at *;generalize hyo:inN ys k ||| intoN (bOf ps[k]) ys=yo at *;generalize intoN (bOf ps[k]) ys=yi at *;generalize inN ys k=yk at *;generalize endN (bOf ps[k]) ys=ye at *;generalize ps[k]=x at *;clear hp hin H3 hfit HE HL hyo HX HFn e1;obtain ⟨xo,xf,xa,xb,xt,xe⟩:=x;have q0:∀ z:Wd (Below wq.heap.size wq),z.w.cell? ⟨bp,fp+k*6,none⟩=some (.slice p.oa xo.length p.oc):=fun z=>(HP.out z).c0;have q1:∀ z:Wd (Below wq.heap.size wq),z.w.cell? ⟨bp,fp+k*6+1,none⟩=some (.int .i8 xf):=fun z=>(HP.out z).c1;have q2:∀ z:Wd (Below wq.heap.size wq),z.w.cell? ⟨bp,fp+k*6+2,none⟩=some (.int .u8 xa):=fun z=>(HP.out z).c2;have q3:∀ z:Wd (Below wq.heap.size wq),z.w.cell? ⟨bp,fp+k*6+3,none⟩=some (.slice p.ba xb.length p.bc):=fun z=>(HP.out z).c3;have q4:∀ z:Wd (Below wq.heap.size wq),z.w.cell? ⟨bp,fp+k*6+4,none⟩=some (.int .i64 xt):=fun z=>(HP.out z).c4;have q5:∀ z:Wd (Below wq.heap.size wq),z.w.cell? ⟨bp,fp+k*6+5,none⟩=some (.int .i64 xe):=fun z=>(HP.out z).c5
     haveI inst:Nonempty (Wd (Below wq.heap.size wq)):=⟨⟨wq,Below.refl _ _⟩⟩
     have i1':(0:Int)<=(k:Int):=by omega
     go_wp2_with fail
     refine wp_region_in (Below wq.heap.size wq) (by kernel_rfl) (by kernel_rfl) ((Below.refl _ _).drew) ?_
     repeat (first|go_big_quiet_step ((first
      | (go_at_call 65;exact calls_in (Nat.le_refl _) _ (HE1.out _))
      | (go_at_call 64;exact calls_in (Nat.le_refl _) _ (HL1.out _)))))
     refine wpQuiet_nil ?_;rintro _ ⟨x,rfl⟩;have hx6:=x.ok;obtain ⟨cu,fu⟩:=HU.out x;have H6:Hid (Below wq.heap.size wq x.w):=hx6;rw [HO.out];generalize x.w=w6 at *;clear e0 e2 q0 q1 q2 q3 q4 q5 inst HE1 HL1 HP HU HO hx6 x
     cases gr with
     | true=>
      go_wp2_with fail
      go_roundw
      case rel=>exact ⟨k,_,_,by omega,by go_num,rfl,H4.out _ H6.out,H5.out⟩
      case measure=>simp [intOf]
     | false=>
      have hbq:(((yo:Nat):Int) != ((yk:Nat):Int))=(yo != yk):=by
       rw [Bool.eq_iff_iff];simp only [bne_iff_ne,ne_eq];omega
      go_wp2_with fail
      go_roundw
      case rel=>exact ⟨k,_,_,by omega,by go_num,rfl,H4.out _ H6.out,H5.out⟩
      case measure=>simp [intOf]
theorem refIn_is (I:List Nat) (ao:Option Addr) (cap:Nat) (ps:List Bk) (w:World) (hI0:InIs ps I) (h:PAt w ao ps) :
  Calls Tryz.prog 35 #[.agg #[.slice ao ps.length cap]] w fun e w'=>∃ a c,e=.returned (.slice a I.length c)/\Ul w' a I/\IsIn ps I/\Below w.heap.size w w':=by
 by_cases hc:ckP ps=0
 ·refine (refIn_yes ao cap ps w h hc).mono ?_;rintro e w' ⟨v,xs,rfl,⟨a,c,rfl,h3,h4⟩,h5⟩;have hI:IsIn ps xs:=⟨fun _=>h5,fun hn=>absurd hc hn⟩;have e1:=hI0 _ hI;subst e1;exact ⟨a,c,rfl,h3,hI,h4⟩
 ·refine (refIn_no ao cap ps w h hc).mono ?_;rintro e w' ⟨rfl,hb⟩;have hI:IsIn ps []:=⟨fun hn=>absurd hn hc,fun _=>rfl⟩;have e1:=hI0 _ hI;rw [<- e1];exact ⟨none,0,rfl,Ul.nil _ _,hI,hb⟩
end Go.Proofs.YtcmlnemokckbdaaGreatDoor.L8.Li
