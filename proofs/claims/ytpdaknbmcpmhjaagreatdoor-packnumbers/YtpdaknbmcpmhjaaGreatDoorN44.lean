/- Parts Xf Xg. -/
import Derived.Test.YtpdaknbmcpmhjaaGreatDoorN43
import Derived.Test.YtpdaknbmcpmhjaaGreatDoorN38
import Derived.Test.YtpdaknbmcpmhjaaGreatDoorN00
set_option maxRecDepth 20000
set_option maxHeartbeats 8000000
namespace Go.Proofs.YtpdaknbmcpmhjaaGreatDoor.Pk
open Go.ChangeShapes Go.WideShapes Go.ChangeAt Go.RowKit
open YtpdaknbmcpmhjaaGreatDoor.Op YtpdaknbmcpmhjaaGreatDoor.So YtpdaknbmcpmhjaaGreatDoor.Bu
open YtpdaknbmcpmhjaaGreatDoor.Tb (Tab TabAt Bnds)
open YtpdaknbmcpmhjaaGreatDoor.Ly (At.set At.fr drew_up Tg BsL TgB TgAt Tw tcells)
structure Pq (w W:World) (t:Tab):Prop where
 p:TabAt W (w.heap.size+1) t
 r:At W (w.heap.size+2) #[.slice none 0 0,.slice none 0 0,.slice none 0 0]
 u:Below w.heap.size w W
theorem Pq.up {w W W':World} {t:Tab} (h:Pq w W t) (g:Below W.heap.size W W'):Pq w W' t:=⟨tab_fr h.p (Fr.of (X:=Non) g) (fun e=>e),At.fr h.r (Fr.of (X:=Non) g) (fun e=>e),h.u.trans (g.mono h.u.size)⟩
theorem pq_start (w:World) (t:Tab) (v:Value):Pq w (((w.alloc (.cells #[v] 24)).alloc (.cells #[.int .i64 (t.u 0),.int .i64 (t.u 1),.int .i64 (t.u 2),.int .i64 (t.u 3),.int .i64 (t.l 0),.int .i64 (t.l 1),.int .i64 (t.l 2),.int .i64 (t.l 3),.int .i64 (t.b 0),.int .i64 (t.b 1),.int .i64 (t.b 2),.int .i64 (t.b 3),.int .i64 t.d] 27)).alloc (.cells #[.slice none 0 0,.slice none 0 0,.slice none 0 0] 73)) t:=by
 have g:Below ((w.alloc (.cells #[v] 24)).alloc (.cells #[.int .i64 (t.u 0),.int .i64 (t.u 1),.int .i64 (t.u 2),.int .i64 (t.u 3),.int .i64 (t.l 0),.int .i64 (t.l 1),.int .i64 (t.l 2),.int .i64 (t.l 3),.int .i64 (t.b 0),.int .i64 (t.b 1),.int .i64 (t.b 2),.int .i64 (t.b 3),.int .i64 t.d] 27)).heap.size ((w.alloc (.cells #[v] 24)).alloc (.cells #[.int .i64 (t.u 0),.int .i64 (t.u 1),.int .i64 (t.u 2),.int .i64 (t.u 3),.int .i64 (t.l 0),.int .i64 (t.l 1),.int .i64 (t.l 2),.int .i64 (t.l 3),.int .i64 (t.b 0),.int .i64 (t.b 1),.int .i64 (t.b 2),.int .i64 (t.b 3),.int .i64 t.d] 27)) (((w.alloc (.cells #[v] 24)).alloc (.cells #[.int .i64 (t.u 0),.int .i64 (t.u 1),.int .i64 (t.u 2),.int .i64 (t.u 3),.int .i64 (t.l 0),.int .i64 (t.l 1),.int .i64 (t.l 2),.int .i64 (t.l 3),.int .i64 (t.b 0),.int .i64 (t.b 1),.int .i64 (t.b 2),.int .i64 (t.b 3),.int .i64 t.d] 27)).alloc (.cells #[.slice none 0 0,.slice none 0 0,.slice none 0 0] 73)):=(Below.refl _ _).alloc (Nat.le_refl _) _;have ht:=Tb.tabAt_new (w.alloc (.cells #[v] 24)) t 27;have ha:=At.new ((w.alloc (.cells #[v] 24)).alloc (.cells #[.int .i64 (t.u 0),.int .i64 (t.u 1),.int .i64 (t.u 2),.int .i64 (t.u 3),.int .i64 (t.l 0),.int .i64 (t.l 1),.int .i64 (t.l 2),.int .i64 (t.l 3),.int .i64 (t.b 0),.int .i64 (t.b 1),.int .i64 (t.b 2),.int .i64 (t.b 3),.int .i64 t.d] 27)) #[.slice none 0 0,.slice none 0 0,.slice none 0 0] 73;simp only [World.size_alloc] at ht ha;exact ⟨tab_fr ht (Fr.of (X:=Non) g) (fun e=>e),ha,(((Below.refl _ w).alloc (Nat.le_refl _) _).alloc (by simp) _).alloc (by simp;omega) _⟩
theorem pack_ok (ps:List Bk) (t:Tab) (ao:Option Addr) (cap:Nat) (N:Nat->Nat) (bl:Nat->List Bn) (tl:Nat->Nat->List Tg) (w:World) (hp:PAc w ao ps) (he:Env w) (hn:ps.length<=128) (hnd:ndE ps t=0) (hf:∀ x∈ps,x.fin≠1)
  (hl:∀ W d la ll k,Below w.heap.size w W->Dr W d ps t ao cap la ll->k<ps.length->Calls Tryz.prog 137 #[.pointer (some ⟨d,0,none⟩),.int .i64 (k:Int)] W fun e w'=>∃ ab cb a,e=.returned (.agg #[.slice ab (N k) cb,.slice a (N k) (N k)])/\BsL w' W.heap.size ab (bl k)/\TgB w' W.heap.size a (N k) (tl k)/\Below W.heap.size W w')
  (hj:∀ W ll,Below w.heap.size w W->Lr W ll ps.length N bl tl->ll<W.heap.size->Calls Tryz.prog 78 #[.slice (some ⟨ll,0,none⟩) ps.length ps.length,t.val] W fun e w'=>∃ vw vt vb,e=.returned (.agg #[vw,vt,vb])/\PkR w' W.heap.size t bl N ps.length vw vt vb/\Below W.heap.size W w') :
  Calls Tryz.prog 29 #[.agg #[.slice ao ps.length cap],t.val] w fun e w'=>∃ vw vt vb,e=.returned (.tuple #[.agg #[vw,vt,vb],.int .i64 0])/\PkR w' w.heap.size t bl N ps.length vw vt vb/\Below w.heap.size w w':=by
 have HNe:Hid (∀ W,Below w.heap.size w W->Calls Tryz.prog 26 #[.agg #[.slice ao ps.length cap],t.val] W fun e w'=>e=.returned (.int .i64 0)/\Below W.heap.size W w'):=fun W hW=>by have:=needs_any ao cap ps t W ((hp.pat (by omega)).below hW) (he.up hW);rw [hnd] at this;exact this
 have HND:Hid (∀ W,Below w.heap.size w W->Calls Tryz.prog 76 #[.agg #[.slice ao ps.length cap],t.val] W fun e w'=>∃ d la ll,e=.returned (.pointer (some ⟨d,0,none⟩))/\Nq W w' ps t ao cap d la ll/\Lr w' ll ps.length N bl tl):=fun W hW=>newDraft_any ps t ao cap N bl tl W (hp.below hW) hn fun W2 d la ll k h2 hd hk=>hl W2 d la ll k (hW.trans (h2.mono hW.size)) hd hk;have HLe:Hid (∀ W d la ll,Dr W d ps t ao cap la ll->Calls Tryz.prog 77 #[.pointer (some ⟨d,0,none⟩)] W fun e w'=>e=.returned (.tuple #[])/\Below W.heap.size W w'):=fun W d la ll hd=>lendAll_none d ps t ao cap la ll W hd hn hf;have HJo:Hid _:=hj;have HP:Hid (∀ W,Below w.heap.size w W->PAc W ao ps):=fun W hW=>hp.below hW;have hpn:=hn;clear hp he hnd hf hl hj;have HQ0:=pq_start w t (.slice ao ps.length cap);unfold Tab.val at *;go_enter Tryz.func29,Tryz.ntmps29;go_upto_region 1 with fail
 have HA:Hid (At (((w.alloc (.cells #[.slice ao ps.length cap] 24)).alloc (.cells #[.int .i64 (t.u 0),.int .i64 (t.u 1),.int .i64 (t.u 2),.int .i64 (t.u 3),.int .i64 (t.l 0),.int .i64 (t.l 1),.int .i64 (t.l 2),.int .i64 (t.l 3),.int .i64 (t.b 0),.int .i64 (t.b 1),.int .i64 (t.b 2),.int .i64 (t.b 3),.int .i64 t.d] 27)).alloc (.cells #[.slice none 0 0,.slice none 0 0,.slice none 0 0] 73)) w.heap.size #[.slice ao ps.length cap]/\Pq w (((w.alloc (.cells #[.slice ao ps.length cap] 24)).alloc (.cells #[.int .i64 (t.u 0),.int .i64 (t.u 1),.int .i64 (t.u 2),.int .i64 (t.u 3),.int .i64 (t.l 0),.int .i64 (t.l 1),.int .i64 (t.l 2),.int .i64 (t.l 3),.int .i64 (t.b 0),.int .i64 (t.b 1),.int .i64 (t.b 2),.int .i64 (t.b 3),.int .i64 t.d] 27)).alloc (.cells #[.slice none 0 0,.slice none 0 0,.slice none 0 0] 73)) t):=⟨((At.new w #[.slice ao ps.length cap] 24).alloc _).alloc _,HQ0⟩;clear HQ0;generalize (((w.alloc (.cells #[.slice ao ps.length cap] 24)).alloc (.cells #[.int .i64 (t.u 0),.int .i64 (t.u 1),.int .i64 (t.u 2),.int .i64 (t.u 3),.int .i64 (t.l 0),.int .i64 (t.l 1),.int .i64 (t.l 2),.int .i64 (t.l 3),.int .i64 (t.b 0),.int .i64 (t.b 1),.int .i64 (t.b 2),.int .i64 (t.b 3),.int .i64 t.d] 27)).alloc (.cells #[.slice none 0 0,.slice none 0 0,.slice none 0 0] 73))=X at *;have p0:=HA.out.1.c 0 _ rfl;have pl:=HA.out.1.lt;have k2:=HA.out.2.p;have qu0:=k2.cu 0 (by decide);have qu1:=k2.cu 1 (by decide);have qu2:=k2.cu 2 (by decide);have qu3:=k2.cu 3 (by decide);have ql0:=k2.cl 0 (by decide);have ql1:=k2.cl 1 (by decide);have ql2:=k2.cl 2 (by decide);have ql3:=k2.cl 3 (by decide);have qb0:=k2.cb 0 (by decide);have qb1:=k2.cb 1 (by decide);have qb2:=k2.cb 2 (by decide);have qb3:=k2.cb 3 (by decide);have qd:=k2.cd;have qz:=k2.lt;clear k2;go_upto_region 6 with (first
  | (go_at_call 26;refine Calls.mono (HNe.out _ HA.out.2.u) ?_;rintro e w1 ⟨rfl,h1⟩;have HA1:Hid (At w1 w.heap.size #[.slice ao ps.length cap]/\Pq w w1 t):=⟨At.fr HA.out.1 (Fr.of (X:=Non) h1) (fun e=>e),HA.out.2.up h1⟩;clear h1 p0 pl qu0 qu1 qu2 qu3 ql0 ql1 ql2 ql3 qb0 qb1 qb2 qb3 qd qz HA;have p0:=HA1.out.1.c 0 _ rfl;have pl:=HA1.out.1.lt;have k2:=HA1.out.2.p;have qu0:=k2.cu 0 (by decide);have qu1:=k2.cu 1 (by decide);have qu2:=k2.cu 2 (by decide);have qu3:=k2.cu 3 (by decide);have ql0:=k2.cl 0 (by decide);have ql1:=k2.cl 1 (by decide);have ql2:=k2.cl 2 (by decide);have ql3:=k2.cl 3 (by decide);have qb0:=k2.cb 0 (by decide);have qb1:=k2.cb 1 (by decide);have qb2:=k2.cb 2 (by decide);have qb3:=k2.cb 3 (by decide);have qd:=k2.cd;have qz:=k2.lt;clear k2)
  | (go_at_call 76;refine Calls.mono (HND.out _ HA1.out.2.u) ?_;rintro e w2 ⟨d,la,ll,rfl,h1,h2⟩;have HD:Hid (Dr w2 d ps t ao cap la ll/\Lr w2 ll ps.length N bl tl/\ll<w2.heap.size/\Pq w w2 t/\w.heap.size+2<d):=⟨h1.dr (HP.out _ HA1.out.2.u),h2,h1.m,HA1.out.2.up h1.u,Nat.lt_of_lt_of_le HA1.out.2.r.lt h1.n3⟩;clear h1 h2 p0 pl qu0 qu1 qu2 qu3 ql0 ql1 ql2 ql3 qb0 qb1 qb2 qb3 qd qz HA1)
  | (go_at_call 77;refine Calls.mono (HLe.out _ d la ll HD.out.1) ?_;rintro e w3 ⟨rfl,h1⟩;have HE:Hid (Dr w3 d ps t ao cap la ll/\Lr w3 ll ps.length N bl tl/\ll<w3.heap.size/\Pq w w3 t/\w.heap.size+2<d):=⟨HD.out.1.below h1,HD.out.2.1.up HD.out.2.2.1 h1,Nat.lt_of_lt_of_le HD.out.2.2.1 h1.size,HD.out.2.2.2.1.up h1,HD.out.2.2.2.2⟩;clear h1 HD))
 have HS:Hid (∀ W,Below w3.heap.size w3 W->At W d (dcs t ao ps.length cap la ll)/\TabAt W (w.heap.size+1) t):=fun W hW=>⟨(HE.out.1.below hW).d,(HE.out.2.2.2.1.up hW).p⟩;refine wp_region_held_drew (S:=fun W'=>At W' d (dcs t ao ps.length cap la ll)/\TabAt W' (w.heap.size+1) t) (by kernel_rfl) (HS.out _ (drew_up _)) (fun zH=>?_);refine wg 0 (.pointer (some ⟨d,0,none⟩)) rfl zH ?_;simp only [pq];refine wg 1 (.pointer (some ⟨d,0,none⟩)) rfl zH ?_;simp only [pq];refine wg 2 (.pointer (some ⟨d,15,none⟩)) rfl zH ?_;simp only [pq];refine wt 3 (.slice (some ⟨ll,0,none⟩) ps.length ps.length) rfl (fun w' hSw=>by (have q:=hSw.1.c 15 _ rfl;have ql:=hSw.1.lt;go_simp)) zH ?_;simp only [pq];refine wt 4 (.agg #[.int .i64 (t.u 0),.int .i64 (t.u 1),.int .i64 (t.u 2),.int .i64 (t.u 3),.int .i64 (t.l 0),.int .i64 (t.l 1),.int .i64 (t.l 2),.int .i64 (t.l 3),.int .i64 (t.b 0),.int .i64 (t.b 1),.int .i64 (t.b 2),.int .i64 (t.b 3),.int .i64 t.d]) rfl (fun w' hSw=>by (have k2:=hSw.2;have qu0:=k2.cu 0 (by decide);have qu1:=k2.cu 1 (by decide);have qu2:=k2.cu 2 (by decide);have qu3:=k2.cu 3 (by decide);have ql0:=k2.cl 0 (by decide);have ql1:=k2.cl 1 (by decide);have ql2:=k2.cl 2 (by decide);have ql3:=k2.cl 3 (by decide);have qb0:=k2.cb 0 (by decide);have qb1:=k2.cb 1 (by decide);have qb2:=k2.cb 2 (by decide);have qb3:=k2.cb 3 (by decide);have qd:=k2.cd;have qz:=k2.lt;clear k2;go_simp)) zH ?_;simp only [pq];refine wpAnyH_ready (rs:=[5]) (by kernel_rfl) (by simp) ?_;refine AllReadyH.cons rfl (fun K hK=>?_) AllReadyH.nil;go_simp
 refine Calls.mono (HJo.out w3.drew ll (HE.out.2.2.2.1.up (drew_up w3)).u (HE.out.2.1.up HE.out.2.2.1 (drew_up w3)) HE.out.2.2.1) ?_;rintro e w5 ⟨vw,vt,vb,rfl,⟨tv,o1,o2,o3⟩,h3⟩;obtain ⟨wo,wc,rfl⟩:=row_slice o1;obtain ⟨tO,tc,rfl⟩:=row_slice o2;obtain ⟨bo,bc,rfl⟩:=row_slice o3;have hs5:At w5 d (dcs t ao ps.length cap la ll)/\TabAt w5 (w.heap.size+1) t:=HS.out w5 ((drew_up w3).trans (h3.mono (Nat.le_refl _)));refine hK.out _ _ hs5 (fun zH=>?_);clear hK K;have H5:Hid (Pq w w5 t/\w5.ownsRow w3.heap.size 282 1 (.slice wo (wlA t bl ps.length).length wc) (wlA t bl ps.length).length ((wlA t bl ps.length).map fun x=>.int .u64 x)/\w5.ownsRow w3.heap.size 68 1 (.slice tO (plS N ps.length) tc) (plS N ps.length) tv/\w5.ownsRow w3.heap.size 3 1 (.slice bo ps.length bc) ps.length (bgA N ps.length ps.length)/\w.heap.size+2<w3.heap.size):=⟨HE.out.2.2.2.1.up ((drew_up w3).trans (h3.mono (Nat.le_refl _))),o1,o2,o3,HE.out.2.2.2.1.r.lt⟩;have HD5:Hid (At w5 d (dcs t ao ps.length cap la ll)/\d<w3.heap.size):=⟨hs5.1,HE.out.1.d.lt⟩;have hne:d≠w.heap.size+2:=by have:=HE.out.2.2.2.2;omega
 clear o1 o2 o3 h3;have r0:=H5.out.1.r.c 0 _ rfl;have r1:=H5.out.1.r.c 1 _ rfl;have r2:=H5.out.1.r.c 2 _ rfl;have rf:=H5.out.1.r.f;have rl:=H5.out.1.r.lt;have gF:Fr (One (w.heap.size+2)) w5 (((w5.setCell ⟨w.heap.size+2,0,none⟩ (.slice wo (wlA t bl ps.length).length wc)).setCell ⟨w.heap.size+2,1,none⟩ (.slice tO (plS N ps.length) tc)).setCell ⟨w.heap.size+2,2,none⟩ (.slice bo ps.length bc)):=(((Fr.refl (One (w.heap.size+2)) w5).setCell (.inr rfl) _ _).setCell (.inr rfl) _ _).setCell (.inr rfl) _ _;refine wpAnyH_ready (rs:=[6]) (by kernel_rfl) (by simp) ?_;refine AllReadyH.cons rfl (fun K hK=>?_) AllReadyH.nil;go_simp
 refine hK.out _ _ ⟨At.fr hs5.1 gF hne,tab_fr hs5.2 gF (fun e=>by have e:w.heap.size+1=w.heap.size+2:=e;omega)⟩ (fun zH=>?_);clear hK K hs5;refine wg 7 (.int .i64 0) rfl zH ?_;simp only [pq];refine wpAnyH_done (by kernel_rfl) ?_ _;clear zH;go_wp2_with fail
 have hx:∀ b,w3.heap.size<=b->¬ One (w.heap.size+2) b:=fun b hb e=>by have e:b=w.heap.size+2:=e;have:=H5.out.2.2.2.2;omega
 have hz:=HE.out.2.2.2.1.u.size;refine bodyPost_ret (v:=.tuple #[.agg #[.slice wo (wlA t bl ps.length).length wc,.slice tO (plS N ps.length) tc,.slice bo ps.length bc],.int .i64 0]) (by simp [results,Tryz.results29,go_sem,r0,r1,r2]) rfl ⟨_,_,_,rfl,⟨tv,rowLo (row_fr H5.out.2.1 gF fun b e=>hx b (H5.out.2.1.lt b e).1) hz,rowLo (row_fr H5.out.2.2.1 gF fun b e=>hx b (H5.out.2.2.1.lt b e).1) hz,rowLo (row_fr H5.out.2.2.2.1 gF fun b e=>hx b (H5.out.2.2.2.1.lt b e).1) hz⟩,H5.out.1.u.trans (gF.below H5.out.1.u.size fun b hb e=>by have e:b=w.heap.size+2:=e;omega)⟩
end Go.Proofs.YtpdaknbmcpmhjaaGreatDoor.Pk
namespace Go.Proofs.YtpdaknbmcpmhjaaGreatDoor.Pk
open Go.ChangeShapes Go.WideShapes Go.ChangeAt Go.RowKit
open YtpdaknbmcpmhjaaGreatDoor.Op YtpdaknbmcpmhjaaGreatDoor.So YtpdaknbmcpmhjaaGreatDoor.Bu
open YtpdaknbmcpmhjaaGreatDoor.Tb (Tab TabAt Bnds)
open YtpdaknbmcpmhjaaGreatDoor.Ly (At.set At.fr drew_up Tg BsL TgB TgAt Tw tcells bnL bnL_len tgL tgP blS block_ok cntR St)
open YtpdaknbmcpmhjaaGreatDoor.Lw (rowC Srt srt_one)
def tw:Tab:=⟨fun _=>1,fun _=>1,fun _=>1,0⟩
def oA:O:=⟨1,1,0,0,3⟩
def oB:O:=⟨17,0,1,0,0⟩
def bA:Bk:=⟨[oA],0,0,[],1,0⟩
def bB:Bk:=⟨[oB],2,1,[],0,0⟩
def pw:List Bk:=[bA,bB]
def Nw (k:Nat):Nat:=if k=0 then 1 else 2
def aw (k:Nat):Nat:=if k=0 then 0 else 1
def xw (k:Nat):Bk:=if k=0 then bA else bB
def sw (k:Nat):St:=blS tw (xw k) (k:Int) (Ls.cyL tw (xw k).ops) (Nw k) (aw k)
def blw (k:Nat):List Bn:=bnL (Nw k) (sw k).1
def tlw (k:Nat):Nat->List Tg:=tgL (sw k).2
theorem two {p:Nat->Prop} (h0:p 0) (h1:p 1):∀ k,k<2->p k:=fun k hk=>by
 match k,hk with
 | 0,_=>exact h0
 | 1,_=>exact h1
theorem w_get:∀ k,k<2->∀ h:k<pw.length,pw[k]=xw k:=two (fun _=>rfl) (fun _=>rfl)
theorem w_fin:∀ k,k<2->(xw k).fin=0\/(xw k).fin=2:=two (by decide) (by decide)
theorem w_lis:∀ k,k<2->Dp.lisE tw (xw k).ops=0:=two (by decide +kernel) (by decide +kernel)
theorem w_hv:∀ k,k<2->Ls.hvU tw (xw k).ops=true:=two (by decide +kernel) (by decide +kernel)
theorem w_er:∀ k,k<2->Dl.erI tw (xw k) (xw k).ops.length (Ls.cyL tw (xw k).ops)=0:=two (by decide +kernel) (by decide +kernel)
theorem w_at : ∀ k,k<2->Dl.atI tw (xw k) (Ls.cyL tw (xw k).ops)=(aw k:Int):=two (by decide +kernel) (by decide +kernel)
theorem w_lo:∀ k,k<2->Dl.loI tw (xw k) (Ls.cyL tw (xw k).ops)=(Nw k:Int):=two (by decide +kernel) (by decide +kernel)
theorem w_an:∀ k,k<2->aw k<Nw k:=two (by decide) (by decide)
theorem w_nn:∀ k,k<2->Nw k<=2:=two (by decide) (by decide)
theorem w_len:∀ k,k<2->(xw k).ops.length=1:=two rfl rfl
theorem w_cy:∀ k,k<2->Ls.cyL tw (xw k).ops 0=0:=two (by decide +kernel) (by decide +kernel)
theorem w_cnt:∀ k,k<2->cntR (fun c=>rowC (Ls.cyL tw (xw k).ops) (xw k).ops.length c) (Nw k)<=90000:=two (by decide +kernel) (by decide +kernel)
theorem w_tags:∀ k,k<2->((List.range (Nw k)).all fun i=>(tlw k i).all fun y=>decide (y=⟨(k:Int),false,0,false⟩) || decide (y=tgP (k:Int)))=true:=two (by decide +kernel) (by decide +kernel)
theorem w_tlen:∀ k,k<2->((List.range (Nw k)).all fun i=>decide ((tlw k i).length<=1000))=true:=two (by decide +kernel) (by decide +kernel)
theorem w_nd:ndE pw tw=0:=by decide +kernel
theorem w_enc:∀ k,k<2->enE tw (blw k)=0:=two (by decide +kernel) (by decide +kernel)
theorem w_el:∀ k,k<2->(encW tw (blw k)).length=Nw k*ofs tw 4:=two (by decide +kernel) (by decide +kernel)
theorem w_ofs:ofs tw 4<=128:=by decide +kernel
theorem w_words:∀ k,k<2->((encW tw (blw k)).all fun x=>decide (x=2097170) || (decide (x=0) || decide (x=6291521) || decide (x=2065) || decide (x=2068)))=true:=two (by decide +kernel) (by decide +kernel)
theorem w_pl:pl Nw 2 0 1 0=1:=by decide +kernel
theorem w_pS:plS Nw 2=2+1:=by decide
theorem w_wl:∀ k,k<=2->(wlA tw blw k).length<=100000000:=fun k hk=>by
 match k,hk with
 | 0,_=>decide
 | 1,_=>exact of_decide_eq_true (by decide +kernel)
 | 2,_=>exact of_decide_eq_true (by decide +kernel)
theorem lay_w (W:World) (ao:Option Addr) (cap d la ll k:Nat) (he:Env W) (h:Dr W d pw tw ao cap la ll) (hk:k<2):Calls Tryz.prog 137 #[.pointer (some ⟨d,0,none⟩),.int .i64 (k:Int)] W fun e w'=>∃ ab cb a,e=.returned (.agg #[.slice ab (Nw k) cb,.slice a (Nw k) (Nw k)])/\BsL w' W.heap.size ab (blw k)/\TgB w' W.heap.size a (Nw k) (tlw k)/\Below W.heap.size W w':=by
 have hkp:k<pw.length:=hk;have hg:=w_get k hk hkp;refine lay_any d pw tw ao cap la ll k (Nw k) (blw k) (tlw k) W h (by decide) (by decide) ?_ hkp ?_ ?_ ?_ ?_ ?_
 ·intro x hx;simp only [pw,List.mem_cons,List.not_mem_nil,or_false] at hx;obtain rfl|rfl:=hx
  ·exact ⟨1,by decide,rfl⟩
  ·exact ⟨0,by decide,rfl⟩
 ·rw [hg];have:=w_fin k hk;omega
 ·have:=w_nn k hk;omega
 ·intro i hi
  have:=List.all_eq_true.1 (w_tlen k hk) i (List.mem_range.2 hi)
  simpa using this
 ·intro V mo hV hP;exact block_ok mo pw.length pw tw k V (hP.pat (by decide)) (he.up hV) w_nd hkp (xw k) hg (w_fin k hk) _ rfl (w_lis k hk) (w_hv k hk) (w_er k hk) (aw k) (Nw k) (w_at k hk) (w_lo k hk) (w_an k hk) (by have:=w_nn k hk;omega) (by rw [w_len k hk];decide) (fun i hi=>by
   rw [w_len k hk] at hi;obtain rfl:i=0:=by omega
   rw [w_cy k hk]
   have:=w_an k hk
   omega) (w_cnt k hk) fun c _=>srt_one _ (by
    unfold rowC;rw [List.length_map];refine Nat.le_trans (List.length_filter_le _ _) ?_;rw [List.length_range,w_len k hk];exact Nat.le_refl _)
 ·intro V i x hV hi hx
  have:=List.all_eq_true.1 (List.all_eq_true.1 (w_tags k hk) i (List.mem_range.2 hi)) x hx
  simp only [Bool.or_eq_true,decide_eq_true_eq] at this;obtain rfl|rfl:=this
  ·exact origin_op d pw tw ao cap la ll k 0 false V (h.below hV) hkp (by rw [hg,w_len k hk];decide)
  ·exact origin_own d _ V rfl (show (-1:Int)<0 by decide)
theorem joined_w (W:World) (ll:Nat) (he:Env W) (hL:Lr W ll 2 Nw blw tlw) (hll:ll<W.heap.size):Calls Tryz.prog 78 #[.slice (some ⟨ll,0,none⟩) 2 2,tw.val] W fun e w'=>∃ vw vt vb,e=.returned (.agg #[vw,vt,vb])/\PkR w' W.heap.size tw blw Nw 2 vw vt vb/\Below W.heap.size W w':=
 joined_any ll 2 Nw blw tlw tw W hL hll he.b (by decide) (by rw [w_pS];decide) (fun i hi=>by unfold blw;rw [bnL_len]) w_enc w_ofs w_pl (fun k hk i hi=>by
  have hl:=w_el k hk;have hm:(encW tw (blw k)).getD i 0∈encW tw (blw k):=by
   rw [List.getD_eq_getElem?_getD,List.getElem?_eq_getElem (by omega)];exact List.getElem_mem _
  have:=List.all_eq_true.1 (w_words k hk) _ hm
  simp only [Bool.or_eq_true,decide_eq_true_eq] at this;unfold noT
  omega) w_el w_wl
theorem pack_w (ao:Option Addr) (w:World) (hp:PAc w ao pw) (he:Env w):Calls Tryz.prog 29 #[.agg #[.slice ao 2 2],tw.val] w fun e w'=>∃ vw vt vb,e=.returned (.tuple #[.agg #[vw,vt,vb],.int .i64 0])/\PkR w' w.heap.size tw blw Nw 2 vw vt vb/\Below w.heap.size w w':=
 pack_ok pw tw ao 2 Nw blw tlw w hp he (by decide) w_nd (by decide) (fun W d la ll k hW hd hk=>lay_w W ao 2 d la ll k (he.up hW) hd hk) (fun W ll hW hL hl=>joined_w W ll (he.up hW) hL hl)
end Go.Proofs.YtpdaknbmcpmhjaaGreatDoor.Pk
