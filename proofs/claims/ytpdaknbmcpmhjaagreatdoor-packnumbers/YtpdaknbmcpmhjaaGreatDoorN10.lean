/- Parts Sn Ho. -/
import Derived.Test.YtpdaknbmcpmhjaaGreatDoorN09
import Derived.Test.YtpdaknbmcpmhjaaGreatDoorN07
set_option maxRecDepth 20000
set_option maxHeartbeats 4000000
namespace Go.Proofs.YtpdaknbmcpmhjaaGreatDoor.So
open Go.ChangeShapes Go.WideShapes Go.ChangeAt Go.RowKit
open YtpdaknbmcpmhjaaGreatDoor.Ss
theorem cmp_any (x y:Int) (w:World):Calls Tryz.prog 168 #[.int .i64 x,.int .i64 y] w fun e w'=>e=.returned (.int .i64 (c3 x y))/\w'=w:=by
 unfold c3
 by_cases h:x<y
 ·rw [if_pos h];go_enter Tryz.func168,Tryz.ntmps168;go_wp2
  go_ret
  exact ⟨rfl,rfl⟩
 ·rw [if_neg h]
  by_cases h':y<x
  ·rw [if_pos h'];go_enter Tryz.func168,Tryz.ntmps168;go_wp2
   go_ret
   exact ⟨rfl,rfl⟩
  ·rw [if_neg h'];go_enter Tryz.func168,Tryz.ntmps168;go_wp2
   go_ret
   exact ⟨rfl,rfl⟩
theorem meas_any (hx hb c n:Nat) (v:Int) (k:Nat) (w:World) (hc:w.cell? ⟨hx,0,none⟩=some (.slice (some ⟨hb,0,none⟩) n c)) (hk:k<n) (hv:w.cell? ⟨hb,k,none⟩=some (.int .i64 v)):Calls Tryz.prog 154 #[.int .i64 (k:Int),.pointer (some ⟨hx,0,none⟩)] w fun e w'=>e=.returned (.int .i64 v)/\w'=w:=by
 have z0:(0:Int)<=(k:Int):=by omega
 have z1:(k:Int)<(n:Int):=by omega
 go_enter Tryz.func154,Tryz.ntmps154;go_wp2
 go_ret
 exact ⟨rfl,rfl⟩
theorem c3_neg (x y:Int):c3 (-x) (-y)=c3 y x:=by
 unfold c3
 by_cases h:y<x
 ·rw [if_pos (by omega),if_pos h]
 ·rw [if_neg (by omega),if_neg h]
  by_cases h':x<y
  ·rw [if_pos (by omega),if_pos h']
  ·rw [if_neg (by omega),if_neg h']
structure Hb (bx hx hb n c blk:Nat) (H:Nat->Int) (w0:World):Prop where
 b:w0.cell? ⟨bx,0,none⟩=some (.func (.func 154) #[] #[.pointer (some ⟨hx,0,none⟩)])
 x:w0.cell? ⟨hx,0,none⟩=some (.slice (some ⟨hb,0,none⟩) n c)
 v:∀ k,k<n->w0.cell? ⟨hb,k,none⟩=some (.int .i64 (H k))
 l1:bx<w0.heap.size
 l2:hx<w0.heap.size
 l3:hb<w0.heap.size
 n1:bx≠blk
 n2:hx≠blk
 n3:hb≠blk
def okN (n:Nat) (x:Int):Prop:=0<=x/\x<n
def keyH (H:Nat->Int) (x:Int):Int:=- H x.toNat
theorem cmpH_any {bx hx hb n c blk:Nat} {H:Nat->Int} {w0:World} (h:Hb bx hx hb n c blk H w0):Si.Cmp bx blk (okN n) (keyH H) w0:=by
 intro w' hF x y hx0 hy0;obtain ⟨i,rfl⟩:∃ i:Nat,x=i:=⟨x.toNat,by have:=hx0.1;omega⟩;obtain ⟨j,rfl⟩:∃ j:Nat,y=j:=⟨y.toNat,by have:=hy0.1;omega⟩;have hi:i<n:=by have:=hx0.2;omega
 have hj:j<n:=by have:=hy0.2;omega
 have cb:w'.cell? ⟨bx,0,none⟩=some (.func (.func 154) #[] #[.pointer (some ⟨hx,0,none⟩)]):=by rw [hF.cell h.l1 h.n1];exact h.b
 have H1:Hid (∀ m,Calls Tryz.prog 154 #[.int .i64 (i:Int),.pointer (some ⟨hx,0,none⟩)] (w'.drewN m) fun e w2=>e=.returned (.int .i64 (H i))/\w2=w'.drewN m):=fun m=>meas_any hx hb c n (H i) i _ (by show w'.cell? _=_;rw [hF.cell h.l2 h.n2];exact h.x) hi (by show w'.cell? _=_;rw [hF.cell h.l3 h.n3];exact h.v i hi);have H3:Hid (∀ m,Calls Tryz.prog 154 #[.int .i64 (j:Int),.pointer (some ⟨hx,0,none⟩)] (w'.drewN m) fun e w2=>e=.returned (.int .i64 (H j))/\w2=w'.drewN m):=fun m=>meas_any hx hb c n (H j) j _ (by show w'.cell? _=_;rw [hF.cell h.l2 h.n2];exact h.x) hj (by show w'.cell? _=_;rw [hF.cell h.l3 h.n3];exact h.v j hj);have H2:Hid _:=cmp_any;have hlt:bx<w'.heap.size:=Nat.lt_of_lt_of_le h.l1 hF.size;have hk:c3 (keyH H (i:Int)) (keyH H (j:Int))=c3 (H j) (H i):=by unfold keyH;rw [c3_neg];rfl
 rw [hk];clear hF h hx0 hy0 hk hi hj;generalize H i=u at *;generalize H j=v at *;go_enter Tryz.func211,Tryz.ntmps211;go_wp2_with fail
 go_quiet (first|(go_at_call 154;refine Calls.quiet_of_same (H3.out _);clear H3)|(go_at_call 154;refine Calls.quiet_of_same (H1.out _))|(go_at_call 168;refine Calls.quiet_of_same (H2.out _ _ _)))
 go_wp2_with fail
 go_ret
 exact ⟨rfl,nq,rfl⟩
end Go.Proofs.YtpdaknbmcpmhjaaGreatDoor.So
namespace Go.Proofs.YtpdaknbmcpmhjaaGreatDoor.Dp
open Go.ChangeShapes Go.WideShapes Go.ChangeAt Go.RowKit
open YtpdaknbmcpmhjaaGreatDoor.Op YtpdaknbmcpmhjaaGreatDoor.So
open YtpdaknbmcpmhjaaGreatDoor.Tb (Tab TabAt Bnds)
open YtpdaknbmcpmhjaaGreatDoor.Ss (Ps Srt)
structure OrdF (n:Nat) (H g:Nat->Int):Prop where
 rg:∀ i,i<n->0<=g i/\g i<n
 all:∀ k:Nat,k<n->∃ i,i<n/\g i=(k:Int)
 st:∀ i j,i<j->j<n->Ahd H (g i) (g j)
theorem ordF_of {n:Nat} {H g:Nat->Int} (hp:Ps (keyH H) 0 n (fun k=>(k:Int)) g) (hs:Srt (keyH H) g 0 n):OrdF n H g:=by
 obtain ⟨s,s1,s2,s3,s4⟩:=hp.st;have e:∀ i,g i=(s i:Int):=fun i=>s3 i;refine ⟨fun i hi=>?_,fun k hk=>?_,fun i j hij hj=>?_⟩
 ·have:=s1 i (Nat.zero_le _) hi
  rw [e];omega
 ·obtain ⟨i,-,hi,h⟩:=hp.pm.bwd k (Nat.zero_le _) hk;exact ⟨i,hi,h.symm⟩
 ·have h1:=hs i j (Nat.zero_le _) hij hj;have h2:=s4 i j hij;unfold keyH at h1 h2;unfold Ahd;rw [e i,e j] at *
  by_cases h3:H ((s j:Int)).toNat<H ((s i:Int)).toNat
  ·exact .inl h3
  ·refine .inr ⟨by omega,?_⟩
   have:=h2 (by omega)
   omega
theorem fall_any (blk n cap hx hb hc:Nat) (H:Nat->Int) (w:World) (hr:Ir w blk n (fun k=>(k:Int))) (hxc:w.cell? ⟨hx,0,none⟩=some (.slice (some ⟨hb,0,none⟩) n hc)) (hh:Ir w hb n H) (ne1:¬ hx=blk) (ne2:¬ hb=blk) (lx:hx<w.heap.size) (hn:n<=2000) :
  Calls Tryz.prog 153 #[.slice (some ⟨blk,0,none⟩) n cap,.func (.func 154) #[] #[.pointer (some ⟨hx,0,none⟩)]] w fun e w'=>e=.returned (.tuple #[])/\∃ g,Fr (One blk) w w'/\Ir w' blk n g/\OrdF n H g:=by
 obtain ⟨w1,hw1⟩:∃ w1,w1=w.alloc (.cells #[.func (.func 154) #[] #[.pointer (some ⟨hx,0,none⟩)]] 196):=⟨_,rfl⟩;obtain ⟨bx,hbx⟩:∃ bx,bx=w.heap.size:=⟨_,rfl⟩;have hb1:Below w.heap.size w w1:=by rw [hw1];exact (Below.refl _ _).alloc (Nat.le_refl _) _
 have hs1:w1.heap.size=w.heap.size+1:=by rw [hw1];simp
 have ct:w1.cell? ⟨bx,0,none⟩=some (.func (.func 154) #[] #[.pointer (some ⟨hx,0,none⟩)]):=by rw [hw1,hbx];simp
 have hbl:=hr.lt;have hhl:=hh.lt;have F1:Fr (One blk) w w1:=Fr.of hb1;have hr1:=hr.up hb1;have hh1:=hh.up hb1;have HB:Hb bx hx hb n hc blk H w1:=⟨ct,by rw [(bcell hb1).1 _ _ lx];exact hxc,hh1.c,by omega,by omega,by omega,by omega,ne1,ne2⟩;have S1:Si.Rw blk n (okN n) w1 w1 (fun k=>(k:Int)):=⟨Fr.refl _ _,by omega,hr1.c,hr1.f,fun k hk=>⟨by omega,by omega⟩⟩;have HS:Hid (Calls Tryz.prog 210 #[.slice (some ⟨blk,0,none⟩) n cap,.func (.func 211) #[] #[.pointer (some ⟨w.heap.size,0,none⟩)]] (w.alloc (.cells #[.func (.func 154) #[] #[.pointer (some ⟨hx,0,none⟩)]] 196)) fun e w'=>e=.returned (.tuple #[])/\∃ g,Si.Rw blk n (okN n) w1 w' g/\Ps (keyH H) 0 n (fun k=>(k:Int)) g/\Srt (keyH H) g 0 n):=by
  rw [<- hw1,<- hbx];exact Si.sort_any bx blk n cap _ (keyH H) _ w1 w1 (cmpH_any HB) S1 (by omega)
 have HF:Aside (Fr (One blk) w w1):=F1;clear F1 S1 ct hr hxc hh hb1 hr1 hh1 HB hs1;clear hbx hw1;go_enter Tryz.func153,Tryz.ntmps153;go_wp2_with (first
  | (go_at_call 210;refine Calls.mono HS.out ?_;rintro e w2 ⟨rfl,g,hS,hP,hO⟩;have S2:Aside (Si.Rw blk n (okN n) w1 w2 g):=hS;have P2:Aside (Ps (keyH H) 0 n (fun k=>(k:Int)) g):=hP;have O2:Aside (Srt (keyH H) g 0 n):=hO;clear hS hP hO HS))
 go_end0
 have hlt:blk<w2.heap.size:=Nat.lt_of_lt_of_le S2.out.lt S2.out.fr.size;exact ⟨rfl,g,HF.out.same S2.out.fr,⟨S2.out.c,S2.out.z,hlt⟩,ordF_of P2.out O2.out⟩
def OrOut (w:World) (n:Nat) (H:Nat->Int) (e:Ending) (w':World):Prop:=∃ nb g,e=.returned (.tuple #[.slice (some ⟨nb,0,none⟩) n n,.int .i64 0])/\Ir w' nb n g/\OrdF n H g/\w.heap.size<=nb/\Below w.heap.size w w'
theorem hord_no (ao:Option Addr) (cap:Nat) (n:Nat) (t:Tab) (er:Int) (w:World) (he:¬ er=0) (h21:∀ W,Below w.heap.size w W->Calls Tryz.prog 152 #[.slice ao n cap,t.val] W fun e w'=>e=.returned (.tuple #[.slice none 0 0,.int .i64 er])/\Below W.heap.size W w') :
  Calls Tryz.prog 87 #[.slice ao n cap,t.val] w fun e w'=>e=.returned (.tuple #[.slice none 0 0,.int .i64 er])/\Below w.heap.size w w':=by
 have HOf:Hid _:=h21;clear h21;unfold Tab.val at *;go_enter Tryz.func87,Tryz.ntmps87;go_wp2_with (first
  | (go_at_call 152;refine Calls.mono (HOf.out _ (by go_grown)) ?_;rintro e w1 ⟨rfl,b1⟩;have HT:Hid (Tc w w1 t):=Tc.start w t rfl b1;clear b1 HOf))
 go_ret2
 exact ⟨rfl,HT.out.up.alloc HT.out.up.size _⟩
structure Os (w W:World) (hx hb nb n:Nat) (H f:Nat->Int):Prop where
 nr:Ir W nb n f
 hr:Ir W hb n H
 x:W.cell? ⟨hx,0,none⟩=some (.slice (some ⟨hb,0,none⟩) n n)
 lx:hx<W.heap.size
 n1:¬ hx=nb
 n2:¬ hb=nb
 nw:w.heap.size<=nb
 up:Below w.heap.size w W
theorem Os.set {w W:World} {hx hb nb n:Nat} {H f:Nat->Int} (s:Os w W hx hb nb n H f) {k:Nat} (hk:k<n) (v:Int):Os w (W.setCell ⟨nb,k,none⟩ (.int .i64 v)) hx hb nb n H (updI f k v):=by
 have g:Fr (One nb) W (W.setCell ⟨nb,k,none⟩ (.int .i64 v)):=(Fr.refl (One nb) W).setCell (.inr rfl) _ _;exact ⟨s.nr.set hk v,s.hr.fr g s.n2,(g.cell s.lx s.n1 0).trans s.x,by simpa using s.lx,s.n1,s.n2,s.nw,s.up.setCell s.nw _⟩
theorem os_start {w w1:World} {hb n:Nat} {H:Nat->Int} (h:Ir w1 hb n H) (hu:Below w.heap.size w w1) (t:TypeId):Os w ((w1.alloc (.cells #[.slice (some ⟨hb,0,none⟩) n n] 48)).alloc (.cells (madeCells #[.int .i64 0] n) t)) w1.heap.size hb (w1.heap.size+1) n H (fun _=>0):=by
 have g1:Below w1.heap.size w1 (w1.alloc (.cells #[.slice (some ⟨hb,0,none⟩) n n] 48)):=(Below.refl _ _).alloc (Nat.le_refl _) _;have g2:Below (w1.alloc (.cells #[.slice (some ⟨hb,0,none⟩) n n] 48)).heap.size (w1.alloc (.cells #[.slice (some ⟨hb,0,none⟩) n n] 48)) ((w1.alloc (.cells #[.slice (some ⟨hb,0,none⟩) n n] 48)).alloc (.cells (madeCells #[.int .i64 0] n) t)):=(Below.refl _ _).alloc (Nat.le_refl _) _;have hz:(w1.alloc (.cells #[.slice (some ⟨hb,0,none⟩) n n] 48)).heap.size=w1.heap.size+1:=by simp
 have hl:=h.lt;have hn:=Ir.new (w1.alloc (.cells #[.slice (some ⟨hb,0,none⟩) n n] 48)) n t;rw [hz] at hn;have hx:=(At.new w1 #[.slice (some ⟨hb,0,none⟩) n n] 48).below g2 (At.new w1 _ 48).lt;exact ⟨hn,(h.up g1).up g2,hx.c 0 _ rfl,hx.lt,by omega,by omega,by have:=hu.size;omega,(hu.trans (g1.mono hu.size)).trans (g2.mono (by have:=hu.size;omega))⟩
def idTo (k:Nat):Nat->Int:=fun i=>if i<k then (i:Int) else 0
theorem idTo_next (k:Nat):updI (idTo k) k (k:Int)=idTo (k+1):=by
 funext i
 unfold updI idTo
 by_cases e:i=k
 ·subst e;rw [if_pos rfl,if_pos (by omega)]
 ·rw [if_neg e]
  by_cases e2:i<k
  ·rw [if_pos e2,if_pos (by omega)]
  ·rw [if_neg e2,if_neg (by omega)]
theorem hord_ok (ao:Option Addr) (cap n:Nat) (t:Tab) (H:Nat->Int) (w:World) (hn:n<=1024) (h21:∀ W,Below w.heap.size w W->Calls Tryz.prog 152 #[.slice ao n cap,t.val] W (HtOut W n H)) :
  Calls Tryz.prog 87 #[.slice ao n cap,t.val] w (OrOut w n H):=by
 have HOf:Hid (∀ W,Below w.heap.size w W->Calls Tryz.prog 152 #[.slice ao n cap,t.val] W fun e w'=>∃ hb,e=.returned (.tuple #[.slice (some ⟨hb,0,none⟩) n n,.int .i64 0])/\Ir w' hb n H/\W.heap.size<=hb/\Below W.heap.size W w'):=h21;obtain ⟨i0,hi,hi2⟩:=Option.map_eq_some_iff.1 info3;simp only [Prod.mk.injEq] at hi2;obtain ⟨hz0,hz1,hz2⟩:=hi2;have HI:Hid (Tryz.prog.info? 3=some i0/\i0.zero=some (.int .i64 0)/\i0.size=1/\i0.bytes=8):=⟨hi,hz0,hz1,hz2⟩;have hn':(n:Int)<=1024:=by omega
 clear hi hz0 hz1 hz2 h21;unfold Tab.val at *;go_enter Tryz.func87,Tryz.ntmps87;go_upto_region 5 with (first
  | (go_at_call 152;refine Calls.mono (HOf.out _ (by go_grown)) ?_;rintro e w1 ⟨hb,rfl,hir,hwb,b1⟩;have HT:Hid (Below w.heap.size w w1/\Ir w1 hb n H/\w.heap.size<=hb):=⟨(Tc.start w t rfl b1).up,hir,(by have:=hwb;simp at this;omega)⟩;clear hir hwb b1 HOf)
  | (at_make;refine wpList_make_row _ rfl _ _ 48 rfl 3 i0 (.int .i64 0) Tryz.underlying48 HI.out.1 HI.out.2.1 HI.out.2.2.1 rfl .i64 .i64 n rfl rfl (by rw [HI.out.2.2.2];omega) (by omega) ?_))
 have HS:Hid (Os w ((w1.alloc (.cells #[.slice (some ⟨hb,0,none⟩) n n] 48)).alloc (.cells (madeCells #[.int .i64 0] n) 3)) w1.heap.size hb (w1.heap.size+1) n H (fun _=>0)):=os_start HT.out.2.1 HT.out.1 3;generalize (w1.alloc (.cells #[.slice (some ⟨hb,0,none⟩) n n] 48)).alloc (.cells (madeCells #[.int .i64 0] n) 3)=W0 at *;generalize w1.heap.size=hx at *;clear HT;go_wp2_with fail
 go_loopw [24] (fun v wr=>∃ k:Nat,k<=n/\v=.int .i64 k/\Os w wr hx hb (hx+1) n H (idTo k)) (fun v _=>n-(intOf v).toNat)
 case atStart=>exact ⟨0,by omega,rfl,HS.out⟩
 case round=>
  rename World=>wr;obtain ⟨k,hk,rfl,hs⟩:=hrel;have HQ:Hid (Os w wr hx hb (hx+1) n H (idTo k)):=hs;clear hs HS
  by_cases hlt:k<n
  ·have k0:(0:Int)<=(k:Int):=by omega
   have k1:(k:Int)<(n:Int):=by omega
   have c:=HQ.out.nr.c k hlt;have f:=HQ.out.nr.f k;have l:=HQ.out.nr.lt;have HNx:Hid (updI (idTo k) k (k:Int)=idTo (k+1)):=idTo_next k;go_wp2_with fail
   go_roundw
   case rel=>exact ⟨k+1,by omega,by go_num,by rw [<- HNx.out];exact HQ.out.set hlt _⟩
   case measure=>simp [intOf];omega
  ·obtain rfl:k=n:=by omega
   have k1:¬ (k:Int)<(k:Int):=by omega
   have HFa:Hid (Calls Tryz.prog 153 #[.slice (some ⟨hx+1,0,none⟩) k k,.func (.func 154) #[] #[.pointer (some ⟨hx,0,none⟩)]] wr fun e w'=>e=.returned (.tuple #[])/\∃ g,Fr (One (hx+1)) wr w'/\Ir w' (hx+1) k g/\OrdF k H g):=fall_any (hx+1) k k hx hb k H wr (HQ.out.nr.same fun i hi=>by unfold idTo;rw [if_pos hi]) HQ.out.x HQ.out.hr HQ.out.n1 HQ.out.n2 HQ.out.lx (by omega);go_wp2_with (first
    | (go_at_call 153;refine Calls.mono HFa.out ?_;rintro e w2 ⟨rfl,g,hF,hI,hO⟩;have HG:Hid (Fr (One (hx+1)) wr w2/\Ir w2 (hx+1) k g/\OrdF k H g):=⟨hF,hI,hO⟩;clear hF hI hO HFa))
   go_ret2
   refine ⟨hx+1,g,rfl,HG.out.2.1,HG.out.2.2,HQ.out.nw,HQ.out.up.trans (HG.out.1.below HQ.out.up.size fun j hj e=>?_)⟩;have e:j=hx+1:=e
   have:=HQ.out.nw
   omega
end Go.Proofs.YtpdaknbmcpmhjaaGreatDoor.Dp
