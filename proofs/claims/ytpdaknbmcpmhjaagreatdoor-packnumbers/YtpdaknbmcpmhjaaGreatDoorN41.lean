/- Parts Xa. -/
import Derived.Test.YtpdaknbmcpmhjaaGreatDoorN40
import Derived.Test.YtpdaknbmcpmhjaaGreatDoorN00
set_option maxRecDepth 20000
set_option maxHeartbeats 8000000
namespace Go.Proofs.YtpdaknbmcpmhjaaGreatDoor.Pk
open Go.ChangeShapes Go.WideShapes Go.ChangeAt Go.RowKit
open YtpdaknbmcpmhjaaGreatDoor.Op YtpdaknbmcpmhjaaGreatDoor.So YtpdaknbmcpmhjaaGreatDoor.Bu
open YtpdaknbmcpmhjaaGreatDoor.Tb (Tab TabAt Bnds)
open YtpdaknbmcpmhjaaGreatDoor.Ly (At.set At.fr drew_up Tg BsL TgB TgAt Tw tcells)
theorem info217b:(Tryz.prog.info? 217).map (fun i=>(i.zero,i.size,i.bytes))=some (some (.agg #[.slice none 0 0,.slice none 0 0]),2,48):=by kernel_rfl
theorem info3c:(Tryz.prog.info? 3).map (fun i=>(i.zero,i.size,i.bytes))=some (some (.int .i64 0),1,8):=by kernel_rfl
theorem make48 (n:Nat) (h:n<=128) (Z:World):(Instr.makeSlice 48 (.int .i64 (n:Int)) (.int .i64 (n:Int))).run Tryz.prog Z=.ok (.slice (some ⟨Z.heap.size,0,none⟩) n n) (Z.alloc (.cells (madeCells #[.int .i64 0] n) 3)):=
 run_make_row' 48 3 (.int .i64 0) 8 Tryz.underlying48 info3c rfl .i64 .i64 n (by omega) (by omega) Z
theorem make140 (n:Nat) (h:n<=128) (Z:World):(Instr.makeSlice 140 (.int .i64 (n:Int)) (.int .i64 (n:Int))).run Tryz.prog Z=.ok (.slice (some ⟨Z.heap.size,0,none⟩) n n) (Z.alloc (.cells (madeCells #[.slice none 0 0,.slice none 0 0] (n*2)) 217)):=by
 obtain ⟨i,hi,hzz⟩:=Option.map_eq_some_iff.1 info217b;simp only [Prod.mk.injEq] at hzz;obtain ⟨hz,hs,hb⟩:=hzz;have hr:=run_make (P:=Tryz.prog) Z 140 217 i _ Tryz.underlying140 hi hz .i64 .i64 n n (by omega) (Int.le_refl _) (by rw [hb];omega) (by omega);simp only [Int.toNat_natCast,hs] at hr;exact hr
structure Nq (w W:World) (ps:List Bk) (t:Tab) (ao:Option Addr) (cap d la ll:Nat):Prop where
 q:At W d (dcs t ao ps.length cap la ll)
 z:∀ j,j<ps.length->W.cell? ⟨la,j,none⟩=some (.int .i64 0)
 l:la<W.heap.size
 x:∀ j,j<ps.length*2->∃ v,W.cell? ⟨ll,j,none⟩=some v
 f:∀ j,W.frozen? ⟨ll,j,none⟩=false
 m:ll<W.heap.size
 u:Below w.heap.size w W
 n0:w.heap.size<=ll
 n1:la≠ll
 n2:d≠ll
 n3:w.heap.size<=d
theorem Nq.up {w W W':World} {ps:List Bk} {t:Tab} {ao:Option Addr} {cap d la ll:Nat} (h:Nq w W ps t ao cap d la ll) (g:Below W.heap.size W W'):Nq w W' ps t ao cap d la ll:=
 ⟨At.fr h.q (Fr.of (X:=Non) g) fun e=>e,fun j hj=>by rw [(bcell g).1 _ _ h.l];exact h.z j hj,Nat.lt_of_lt_of_le h.l g.size,fun j hj=>by rw [(bcell g).1 _ _ h.m];exact h.x j hj,fun j=>by rw [(bcell g).2 _ _ h.m];exact h.f j,Nat.lt_of_lt_of_le h.m g.size,h.u.trans (g.mono h.u.size),h.n0,h.n1,h.n2,h.n3⟩
theorem Nq.dr {w W:World} {ps:List Bk} {t:Tab} {ao:Option Addr} {cap d la ll:Nat} (h:Nq w W ps t ao cap d la ll) (hp:PAc w ao ps):Dr W d ps t ao cap la ll:=⟨h.q,h.z,h.l,hp.below h.u⟩
def Lr (W:World) (ll k:Nat) (N:Nat->Nat) (bl:Nat->List Bn) (tl:Nat->Nat->List Tg):Prop:=∀ i,i<k->∃ lo ab cb a,ll<lo/\W.cell? ⟨ll,i*2,none⟩=some (.slice ab (N i) cb)/\W.cell? ⟨ll,i*2+1,none⟩=some (.slice a (N i) (N i))/\BsL W lo ab (bl i)/\TgB W lo a (N i) (tl i)
theorem Lr.up {W W':World} {ll k:Nat} {N:Nat->Nat} {bl:Nat->List Bn} {tl:Nat->Nat->List Tg} (h:Lr W ll k N bl tl) (hm:ll<W.heap.size) (g:Below W.heap.size W W'):Lr W' ll k N bl tl:=fun i hi=>by
 obtain ⟨lo,ab,cb,a,h0,h1,h2,h3,h4⟩:=h i hi;exact ⟨lo,ab,cb,a,h0,by rw [(bcell g).1 _ _ hm];exact h1,by rw [(bcell g).1 _ _ hm];exact h2,h3.fr (Fr.of (X:=fun k=>k<lo) g),h4.fr (Fr.of (X:=fun k=>k<lo) g)⟩
theorem cell_set2 {W:World} {b o:Nat} (v0 v1:Value) (h0:∃ u,W.cell? ⟨b,o,none⟩=some u) (h1:∃ u,W.cell? ⟨b,o+1,none⟩=some u) (q:Nat):((W.setCell ⟨b,o,none⟩ v0).setCell ⟨b,o+1,none⟩ v1).cell? ⟨b,q,none⟩=if q=o+1 then some v1 else if q=o then some v0 else W.cell? ⟨b,q,none⟩:=by
 have s1:=fun q=>cell_set (W:=W) (b:=b) (o:=o) v0 q h0;have s2:=cell_set (W:=W.setCell ⟨b,o,none⟩ v0) (b:=b) (o:=o+1) v1 q (by rw [s1,if_neg (by omega)];exact h1);rw [s2,s1]
theorem Nq.set {w W:World} {ps:List Bk} {t:Tab} {ao:Option Addr} {cap d la ll k:Nat} (h:Nq w W ps t ao cap d la ll) (hk:k<ps.length) (v0 v1:Value):Nq w ((W.setCell ⟨ll,k*2,none⟩ v0).setCell ⟨ll,k*2+1,none⟩ v1) ps t ao cap d la ll:=by
 have f:Fr (One ll) W ((W.setCell ⟨ll,k*2,none⟩ v0).setCell ⟨ll,k*2+1,none⟩ v1):=((Fr.refl (One ll) W).setCell (.inr rfl) _ _).setCell (.inr rfl) _ _;have hc:=cell_set2 (W:=W) (b:=ll) (o:=k*2) v0 v1 (h.x _ (by omega)) (h.x _ (by omega));refine ⟨At.fr h.q f h.n2,fun j hj=>by rw [f.cell h.l h.n1];exact h.z j hj,Nat.lt_of_lt_of_le h.l f.size,fun j hj=>?_,fun j=>by simp only [World.frozen?_setCell];exact h.f j,Nat.lt_of_lt_of_le h.m f.size,h.u.trans (f.below h.u.size fun j hj e=>by have e:j=ll:=e;have:=h.n0;omega),h.n0,h.n1,h.n2,h.n3⟩;rw [hc]
 split
 ·exact ⟨_,rfl⟩
 ·split
  ·exact ⟨_,rfl⟩
  ·exact h.x j hj
theorem Lr.set {w W:World} {ps:List Bk} {t:Tab} {ao:Option Addr} {cap d la ll k:Nat} {N:Nat->Nat} {bl:Nat->List Bn} {tl:Nat->Nat->List Tg} (h:Nq w W ps t ao cap d la ll) (hr:Lr W ll k N bl tl) (hk:k<ps.length) {lo cb:Nat} {ab a:Option Addr} (hlo:ll<lo) (h3:BsL W lo ab (bl k)) (h4:TgB W lo a (N k) (tl k)):Lr ((W.setCell ⟨ll,k*2,none⟩ (.slice ab (N k) cb)).setCell ⟨ll,k*2+1,none⟩ (.slice a (N k) (N k))) ll (k+1) N bl tl:=by
 have hc:=cell_set2 (W:=W) (b:=ll) (o:=k*2) (.slice ab (N k) cb) (.slice a (N k) (N k)) (h.x _ (by omega)) (h.x _ (by omega));have f:∀ lo,ll<lo->Fr (fun j=>j<lo) W ((W.setCell ⟨ll,k*2,none⟩ (.slice ab (N k) cb)).setCell ⟨ll,k*2+1,none⟩ (.slice a (N k) (N k))):=fun lo hl=>((Fr.refl (fun j=>j<lo) W).setCell (.inr hl) _ _).setCell (.inr hl) _ _;intro i hi
 by_cases e:i=k
 ·subst e;exact ⟨lo,ab,cb,a,hlo,by rw [hc,if_neg (by omega),if_pos rfl],by rw [hc,if_pos rfl],h3.fr (f lo hlo),h4.fr (f lo hlo)⟩
 ·obtain ⟨lo',ab',cb',a',g0,g1,g2,g3,g4⟩:=hr i (by omega);exact ⟨lo',ab',cb',a',g0,by rw [hc,if_neg (by omega),if_neg (by omega)];exact g1,by rw [hc,if_neg (by omega),if_neg (by omega)];exact g2,g3.fr (f lo' g0),g4.fr (f lo' g0)⟩
theorem made_at1 (n j:Nat) (h:j<n):(madeCells #[.int .i64 0] n)[j]?=some (.int .i64 0):=by simp [madeCells,h,Nat.mod_one]
theorem nd_one {w X:World} (ps:List Bk) (t:Tab) (ao:Option Addr) (cap:Nat) (hu:Below w.heap.size w X):Nq w (((X.alloc (.cells (madeCells #[.int .i64 0] ps.length) 3)).alloc (.cells (madeCells #[.slice none 0 0,.slice none 0 0] (ps.length*2)) 217)).alloc (.cells (dcs t ao ps.length cap X.heap.size (X.heap.size+1)) 142)) ps t ao cap (X.heap.size+2) X.heap.size (X.heap.size+1):=by
 have a1:=At.new X (madeCells #[.int .i64 0] ps.length) 3;have a2:=At.new (X.alloc (.cells (madeCells #[.int .i64 0] ps.length) 3)) (madeCells #[.slice none 0 0,.slice none 0 0] (ps.length*2)) 217;have a3:=At.new ((X.alloc (.cells (madeCells #[.int .i64 0] ps.length) 3)).alloc (.cells (madeCells #[.slice none 0 0,.slice none 0 0] (ps.length*2)) 217)) (dcs t ao ps.length cap X.heap.size (X.heap.size+1)) 142;rw [World.size_alloc] at a2;rw [World.size_alloc,World.size_alloc] at a3;have b1:=(a1.alloc (.cells (madeCells #[.slice none 0 0,.slice none 0 0] (ps.length*2)) 217)).alloc (.cells (dcs t ao ps.length cap X.heap.size (X.heap.size+1)) 142);have b2:=a2.alloc (.cells (dcs t ao ps.length cap X.heap.size (X.heap.size+1)) 142);have hz:=hu.size;refine ⟨a3,fun j hj=>b1.c j _ (made_at1 _ _ hj),b1.lt,fun j hj=>?_,b2.f,b2.lt,((hu.alloc hz _).alloc (by simp;omega) _).alloc (by simp;omega) _,by omega,by omega,by omega,by omega⟩;have hc:j<(madeCells #[.slice none 0 0,.slice none 0 0] (ps.length*2)).size:=by rw [size_madeCells];exact hj
 exact ⟨_,b2.c j _ (Array.getElem?_eq_getElem hc)⟩
theorem nd_two {w X:World} (ps:List Bk) (t:Tab) (ao:Option Addr) (cap:Nat) (hu:Below w.heap.size w X):Nq w (((X.alloc (.cells (madeCells #[.slice none 0 0,.slice none 0 0] (ps.length*2)) 217)).alloc (.cells (madeCells #[.int .i64 0] ps.length) 3)).alloc (.cells (dcs t ao ps.length cap (X.heap.size+1) X.heap.size) 142)) ps t ao cap (X.heap.size+2) (X.heap.size+1) X.heap.size:=by
 have a2:=At.new X (madeCells #[.slice none 0 0,.slice none 0 0] (ps.length*2)) 217;have a1:=At.new (X.alloc (.cells (madeCells #[.slice none 0 0,.slice none 0 0] (ps.length*2)) 217)) (madeCells #[.int .i64 0] ps.length) 3;have a3:=At.new ((X.alloc (.cells (madeCells #[.slice none 0 0,.slice none 0 0] (ps.length*2)) 217)).alloc (.cells (madeCells #[.int .i64 0] ps.length) 3)) (dcs t ao ps.length cap (X.heap.size+1) X.heap.size) 142;rw [World.size_alloc] at a1;rw [World.size_alloc,World.size_alloc] at a3;have b2:=(a2.alloc (.cells (madeCells #[.int .i64 0] ps.length) 3)).alloc (.cells (dcs t ao ps.length cap (X.heap.size+1) X.heap.size) 142);have b1:=a1.alloc (.cells (dcs t ao ps.length cap (X.heap.size+1) X.heap.size) 142);have hz:=hu.size;refine ⟨a3,fun j hj=>b1.c j _ (made_at1 _ _ hj),b1.lt,fun j hj=>?_,b2.f,b2.lt,((hu.alloc hz _).alloc (by simp;omega) _).alloc (by simp;omega) _,by omega,by omega,by omega,by omega⟩;have hc:j<(madeCells #[.slice none 0 0,.slice none 0 0] (ps.length*2)).size:=by rw [size_madeCells];exact hj
 exact ⟨_,b2.c j _ (Array.getElem?_eq_getElem hc)⟩
theorem newDraft_any (ps:List Bk) (t:Tab) (ao:Option Addr) (cap:Nat) (N:Nat->Nat) (bl:Nat->List Bn) (tl:Nat->Nat->List Tg) (w:World) (hp:PAc w ao ps) (hn:ps.length<=128)
  (hl:∀ W d la ll k,Below w.heap.size w W->Dr W d ps t ao cap la ll->k<ps.length->Calls Tryz.prog 137 #[.pointer (some ⟨d,0,none⟩),.int .i64 (k:Int)] W fun e w'=>∃ ab cb a,e=.returned (.agg #[.slice ab (N k) cb,.slice a (N k) (N k)])/\BsL w' W.heap.size ab (bl k)/\TgB w' W.heap.size a (N k) (tl k)/\Below W.heap.size W w') :
  Calls Tryz.prog 76 #[.agg #[.slice ao ps.length cap],t.val] w fun e w'=>∃ d la ll,e=.returned (.pointer (some ⟨d,0,none⟩))/\Nq w w' ps t ao cap d la ll/\Lr w' ll ps.length N bl tl:=by
 have HP:Hid (PAc w ao ps):=hp;have HL:Hid _:=hl;have M1:=fun Z=>make48 ps.length hn Z;have M2:=fun Z=>make140 ps.length hn Z;clear hl hp;unfold Tab.val;go_enter Tryz.func76,Tryz.ntmps76;go_upto_region 1 with fail
 obtain ⟨a1,a2,a3,-,-⟩:=two_new w #[.slice ao ps.length cap] #[.int .i64 (t.u 0),.int .i64 (t.u 1),.int .i64 (t.u 2),.int .i64 (t.u 3),.int .i64 (t.l 0),.int .i64 (t.l 1),.int .i64 (t.l 2),.int .i64 (t.l 3),.int .i64 (t.b 0),.int .i64 (t.b 1),.int .i64 (t.b 2),.int .i64 (t.b 3),.int .i64 t.d] 24 27 (Below.refl _ _);have HX:Hid (At ((w.alloc (.cells #[.slice ao ps.length cap] 24)).alloc (.cells #[.int .i64 (t.u 0),.int .i64 (t.u 1),.int .i64 (t.u 2),.int .i64 (t.u 3),.int .i64 (t.l 0),.int .i64 (t.l 1),.int .i64 (t.l 2),.int .i64 (t.l 3),.int .i64 (t.b 0),.int .i64 (t.b 1),.int .i64 (t.b 2),.int .i64 (t.b 3),.int .i64 t.d] 27)) w.heap.size #[.slice ao ps.length cap]/\Below w.heap.size w ((w.alloc (.cells #[.slice ao ps.length cap] 24)).alloc (.cells #[.int .i64 (t.u 0),.int .i64 (t.u 1),.int .i64 (t.u 2),.int .i64 (t.u 3),.int .i64 (t.l 0),.int .i64 (t.l 1),.int .i64 (t.l 2),.int .i64 (t.l 3),.int .i64 (t.b 0),.int .i64 (t.b 1),.int .i64 (t.b 2),.int .i64 (t.b 3),.int .i64 t.d] 27))):=⟨a1,a3⟩;have p0:=a1.c 0 _ rfl;have pl:=a1.lt;have t0:=a2.c 0 _ rfl;have t1:=a2.c 1 _ rfl;have t2:=a2.c 2 _ rfl;have t3:=a2.c 3 _ rfl;have t4:=a2.c 4 _ rfl;have t5:=a2.c 5 _ rfl;have t6:=a2.c 6 _ rfl;have t7:=a2.c 7 _ rfl;have t8:=a2.c 8 _ rfl;have t9:=a2.c 9 _ rfl;have t10:=a2.c 10 _ rfl;have t11:=a2.c 11 _ rfl;have t12:=a2.c 12 _ rfl;have tz:=a2.lt;clear a1 a2 a3;generalize ((w.alloc (.cells #[.slice ao ps.length cap] 24)).alloc (.cells #[.int .i64 (t.u 0),.int .i64 (t.u 1),.int .i64 (t.u 2),.int .i64 (t.u 3),.int .i64 (t.l 0),.int .i64 (t.l 1),.int .i64 (t.l 2),.int .i64 (t.l 3),.int .i64 (t.b 0),.int .i64 (t.b 1),.int .i64 (t.b 2),.int .i64 (t.b 3),.int .i64 t.d] 27))=X at *
 go_cut [5] (fun v wc=>∃ d la ll,v=.pointer (some ⟨d,0,none⟩)/\Nq w wc ps t ao cap d la ll/\Below X.heap.size X wc)
 case first=>
  go_region
  all_goals
   go_wp2_with fail
   go_meet
   first
    | exact ⟨_,_,_,rfl,(nd_one ps t ao cap HX.out.2).up (drew_up _),((((Below.refl _ X).alloc (Nat.le_refl _) _).alloc (by simp only [World.size_alloc];omega) _).alloc (by simp only [World.size_alloc];omega) _).drew⟩
    | exact ⟨_,_,_,rfl,(nd_two ps t ao cap HX.out.2).up (drew_up _),((((Below.refl _ X).alloc (Nat.le_refl _) _).alloc (by simp only [World.size_alloc];omega) _).alloc (by simp only [World.size_alloc];omega) _).drew⟩
 case rest=>
  obtain ⟨d,la,ll,rfl,hnd,hbx⟩:=hcut;have HN:Hid (Nq w wc ps t ao cap d la ll):=hnd;have r0:wc.cell? ⟨w.heap.size,0,none⟩=some (.slice ao ps.length cap):=by rw [(bcell hbx).1 _ _ pl];exact p0
  have rl:w.heap.size<wc.heap.size:=Nat.lt_of_lt_of_le pl hbx.size;clear p0 pl t0 t1 t2 t3 t4 t5 t6 t7 t8 t9 t10 t11 t12 tz hnd hbx M1 M2 HX;go_wp2_with fail
  clear r0 rl
  go_loopw [22] (fun v wr=>∃ k:Nat,k<=ps.length/\v=.int .i64 k/\Hid (Nq w wr ps t ao cap d la ll/\Lr wr ll k N bl tl)) (fun v _=>ps.length-(intOf v).toNat)
  case atStart=>exact ⟨0,by omega,rfl,HN.out,fun i hi=>absurd hi (by omega)⟩
  case round=>
   rename World=>wr;clear HN;obtain ⟨k,hk,rfl,HN⟩:=hrel
   by_cases hlt:k<ps.length
   ·have k0:(0:Int)<=(k:Int):=by omega
    have k1:(k:Int)<(ps.length:Int):=by omega
    go_upto_region 5 with fail
    have HS:Hid (∀ W,Below wr.heap.size wr W->Nq w W ps t ao cap d la ll):=fun W hW=>HN.out.1.up hW;refine wp_region_held_drew (S:=fun W'=>Nq w W' ps t ao cap d la ll) (by kernel_rfl) (HS.out _ (drew_up _)) (fun zH=>?_);refine wg 0 (.pointer (some ⟨d,0,none⟩)) rfl zH ?_;simp only [pq];refine wg 1 (.pointer (some ⟨d,0,none⟩)) rfl zH ?_;simp only [pq];refine wg 2 (.pointer (some ⟨d,15,none⟩)) rfl zH ?_;simp only [pq];refine wt 3 (.slice (some ⟨ll,0,none⟩) ps.length ps.length) rfl (fun w' hSw=>by (have q:=hSw.q.c 15 _ rfl;have ql:=hSw.q.lt;go_simp)) zH ?_;simp only [pq];refine wg 4 (.int .i64 (k:Int)) rfl zH ?_;simp only [pq];refine wg 5 (.pointer (some ⟨d,0,none⟩)) rfl zH ?_;simp only [pq];refine wg 6 (.int .i64 (k:Int)) rfl zH ?_;simp only [pq];refine wpAnyH_ready (rs:=[7]) (by kernel_rfl) (by simp) ?_;refine AllReadyH.cons rfl (fun K hK=>?_) AllReadyH.nil;go_simp
    refine Calls.mono (HL.out wr.drew d la ll k (HS.out _ (drew_up wr)).u ((HS.out _ (drew_up wr)).dr HP.out) hlt) ?_;rintro e w5 ⟨ab,cb,aa,rfl,h1,h2,h3⟩;have hs5:Nq w w5 ps t ao cap d la ll:=HS.out w5 ((drew_up wr).trans (h3.mono (Nat.le_refl _)));refine hK.out _ _ hs5 (fun zH=>?_);clear hK K;have H5:Hid (Nq w w5 ps t ao cap d la ll/\Lr w5 ll k N bl tl/\BsL w5 wr.drew.heap.size ab (bl k)/\TgB w5 wr.drew.heap.size aa (N k) (tl k)/\ll<wr.drew.heap.size):=⟨hs5,HN.out.2.up HN.out.1.m ((drew_up wr).trans (h3.mono (Nat.le_refl _))),h1,h2,HN.out.1.m⟩;clear h1 h2 h3 hs5;refine wg 8 (.pointer (some ⟨ll,k*2,none⟩)) rfl zH ?_;simp only [pq];obtain ⟨u0,x0⟩:=H5.out.1.x (k*2) (by omega);obtain ⟨u1,x1⟩:=H5.out.1.x (k*2+1) (by omega);have xf:=H5.out.1.f;have xl:=H5.out.1.m;refine wpAnyH_ready (rs:=[9]) (by kernel_rfl) (by simp) ?_;refine AllReadyH.cons rfl (fun K hK=>?_) AllReadyH.nil;go_simp
    have hn6:Nq w ((w5.setCell ⟨ll,k*2,none⟩ (.slice ab (N k) cb)).setCell ⟨ll,k*2+1,none⟩ (.slice aa (N k) (N k))) ps t ao cap d la ll:=H5.out.1.set hlt _ _;refine hK.out _ _ hn6 (fun zH=>?_);clear hK K;have H6:Hid (Nq w ((w5.setCell ⟨ll,k*2,none⟩ (.slice ab (N k) cb)).setCell ⟨ll,k*2+1,none⟩ (.slice aa (N k) (N k))) ps t ao cap d la ll/\Lr ((w5.setCell ⟨ll,k*2,none⟩ (.slice ab (N k) cb)).setCell ⟨ll,k*2+1,none⟩ (.slice aa (N k) (N k))) ll (k+1) N bl tl):=⟨hn6,Lr.set H5.out.1 H5.out.2.1 hlt H5.out.2.2.2.2 H5.out.2.2.1 H5.out.2.2.2.1⟩;clear hn6 x0 x1 xf xl H5;refine wpAnyH_done (by kernel_rfl) ?_ _;clear zH;go_wp2_with fail
    go_roundw
    case rel=>exact ⟨k+1,by omega,by go_num,H6⟩
    case measure=>simp [intOf];omega
   ·obtain rfl:k=ps.length:=by omega
    have k1:¬ (ps.length:Int)<(ps.length:Int):=by omega
    go_wp2_with fail
    go_ret
    exact ⟨d,rfl,la,ll,HN.out.1,HN.out.2⟩
end Go.Proofs.YtpdaknbmcpmhjaaGreatDoor.Pk
