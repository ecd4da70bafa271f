/- Parts Gu Gv. -/
import Derived.Test.YtpdaknbmcpmhjaaGreatDoorN38
import Derived.Test.YtpdaknbmcpmhjaaGreatDoorN39
import Derived.Test.YtpdaknbmcpmhjaaGreatDoorN00
set_option maxRecDepth 20000
set_option maxHeartbeats 8000000
namespace Go.Proofs.YtpdaknbmcpmhjaaGreatDoor.Pk
open Go.ChangeShapes Go.WideShapes Go.ChangeAt Go.RowKit
open YtpdaknbmcpmhjaaGreatDoor.Op YtpdaknbmcpmhjaaGreatDoor.So YtpdaknbmcpmhjaaGreatDoor.Bu
open YtpdaknbmcpmhjaaGreatDoor.Tb (Tab TabAt Bnds)
open YtpdaknbmcpmhjaaGreatDoor.Ly (At.set At.fr drew_up Tg)
theorem origin_own (d:Nat) (x:Tg) (w:World) (hl:x.l=false) (ho:x.o<0):Calls Tryz.prog 198 #[.pointer (some ⟨d,0,none⟩),x.val] w fun e w'=>e=.returned x.val/\Below w.heap.size w w':=by
 obtain ⟨xb,xl,xo,xs⟩:=x;dsimp only at hl ho;subst hl;go_enter Tryz.func198,Tryz.ntmps198;go_wp2_with fail
 exact bodyPost_ret (v:=(⟨xb,false,xo,xs⟩:Tg).val) (by simp [results,Tryz.results198,go_sem]) rfl ⟨rfl,by go_grown⟩
structure Ob (w W:World) (x:Tg):Prop where
 t:At W w.heap.size x.cells
 r:At W (w.heap.size+1) #[.int .i64 0,.bool false,.int .i64 0,.bool false]
 u:Below w.heap.size w W
theorem Ob.up {w W W':World} {x:Tg} (h:Ob w W x) (g:Below W.heap.size W W'):Ob w W' x:=⟨At.fr h.t (Fr.of (X:=Non) g) (fun e=>e),At.fr h.r (Fr.of (X:=Non) g) (fun e=>e),h.u.trans (g.mono h.u.size)⟩
theorem origin_op (d:Nat) (ps:List Bk) (t:Tab) (ao:Option Addr) (cap la ll:Nat) (k op:Nat) (xs:Bool) (w:World) (h:Dr w d ps t ao cap la ll) (hk:k<ps.length) (hop:op<ps[k].ops.length) :
  Calls Tryz.prog 198 #[.pointer (some ⟨d,0,none⟩),.agg #[.int .i64 (k:Int),.bool false,.int .i64 (op:Int),.bool xs]] w fun e w'=>e=.returned (.agg #[.int .i64 (k:Int),.bool false,.int .i64 (op:Int),.bool xs])/\Below w.heap.size w w':=by
 obtain ⟨b,f,rfl,hbl,hp⟩:=id h.p;obtain ⟨p,-,hba,hbi⟩:=hp k hk;have HD:Hid (∀ W,Below w.heap.size w W->At W d (dcs t (some ⟨b,f,none⟩) ps.length cap la ll)/\BAt W b (f+k*6) ps[k] p/\W.cell? ⟨la,k,none⟩=some (.int .i64 0)/\la<W.heap.size/\b<W.heap.size):=fun W hW=>⟨(h.below hW).d,hba.below hW hbl,(h.below hW).z k hk,(h.below hW).l,Nat.lt_of_lt_of_le hbl hW.size⟩;have k0:(0:Int)<=(k:Int):=by omega
 have k1:(k:Int)<(ps.length:Int):=by omega
 have o0:¬ (op:Int)<0:=by omega
 have hll:=hbi.o.len;have HO:Hid (Ob w ((w.alloc (.cells #[.int .i64 (k:Int),.bool false,.int .i64 (op:Int),.bool xs] 67)).alloc (.cells #[.int .i64 0,.bool false,.int .i64 0,.bool false] 67)) ⟨(k:Int),false,(op:Int),xs⟩):=by
  obtain ⟨a1,a2,a3,-,-⟩:=two_new w #[.int .i64 (k:Int),.bool false,.int .i64 (op:Int),.bool xs] #[.int .i64 0,.bool false,.int .i64 0,.bool false] 67 67 (Below.refl _ _);exact ⟨a1,a2,a3⟩
 clear h hp hba hbi;generalize ps[k]=y at *;go_enter Tryz.func198,Tryz.ntmps198;go_upto_region 3 with fail
 generalize ((w.alloc (.cells #[.int .i64 (k:Int),.bool false,.int .i64 (op:Int),.bool xs] 67)).alloc (.cells #[.int .i64 0,.bool false,.int .i64 0,.bool false] 67))=X at *;have HS:Hid (∀ W,Below X.heap.size X W->At W d (dcs t (some ⟨b,f,none⟩) ps.length cap la ll)/\BAt W b (f+k*6) y p/\b<W.heap.size/\Ob w W ⟨(k:Int),false,(op:Int),xs⟩/\W.cell? ⟨la,k,none⟩=some (.int .i64 0)/\la<W.heap.size):=fun W hW=>by
  have ho:=HO.out.up hW;have hd:=HD.out W ho.u;exact ⟨hd.1,hd.2.1,hd.2.2.2.2,ho,hd.2.2.1,hd.2.2.2.1⟩
 refine wp_region_held_drew (S:=fun W'=>At W' d (dcs t (some ⟨b,f,none⟩) ps.length cap la ll)/\BAt W' b (f+k*6) y p/\b<W'.heap.size/\Ob w W' ⟨(k:Int),false,(op:Int),xs⟩/\W'.cell? ⟨la,k,none⟩=some (.int .i64 0)/\la<W'.heap.size) (by kernel_rfl) (HS.out _ (drew_up _)) (fun zH=>?_);refine wg 0 (.pointer (some ⟨d,0,none⟩)) rfl zH ?_;simp only [pq];refine wg 1 (.pointer (some ⟨d,0,none⟩)) rfl zH ?_;simp only [pq];refine wg 2 (.pointer (some ⟨d,0,none⟩)) rfl zH ?_;simp only [pq];refine wg 3 (.pointer (some ⟨d,0,none⟩)) rfl zH ?_;simp only [pq];refine wt 4 (.slice (some ⟨b,f,none⟩) ps.length cap) rfl (fun w' hSw=>by (have q:w'.cell? ⟨d,0,none⟩=some (.slice (some ⟨b,f,none⟩) ps.length cap):=hSw.1.c 0 _ rfl;have ql:=hSw.1.lt;go_simp)) zH ?_;simp only [pq];refine wg 5 (.pointer (some ⟨w.heap.size,0,none⟩)) rfl zH ?_;simp only [pq];refine wt 6 (.int .i64 (k:Int)) rfl (fun w' hSw=>by (have q:=hSw.2.2.2.1.t.c 0 _ rfl;have ql:=hSw.2.2.2.1.t.lt;go_simp)) zH ?_;simp only [pq];refine wg 7 (.pointer (some ⟨b,f+k*6,none⟩)) rfl zH ?_;simp only [pq];refine wt 8 (.agg #[.slice p.oa y.ops.length p.oc,.int .i8 y.fin,.int .u8 y.a,.slice p.ba y.body.length p.bc,.int .i64 y.thn,.int .i64 y.els]) rfl (fun w' hSw=>by (have a0:=hSw.2.1;have y0:=a0.c0;have y1:=a0.c1;have y2:=a0.c2;have y3:=a0.c3;have y4:=a0.c4;have y5:=a0.c5;have yl:=hSw.2.2.1;clear a0;go_simp)) zH ?_;simp only [pq];refine wpAnyH_ready (rs:=[9]) (by kernel_rfl) (by simp) ?_;refine AllReadyH.cons rfl (fun K hK=>?_) AllReadyH.nil;go_simp
 refine hK.out _ _ (HS.out _ ((drew_up _).alloc (Nat.le_refl _) _)) (fun zH=>?_);clear hK K;refine wpAnyH_ready (rs:=[10]) (by kernel_rfl) (by simp) ?_;refine AllReadyH.cons rfl (fun K hK=>?_) AllReadyH.nil;go_simp
 refine hK.out _ _ (HS.out _ (((Below.refl _ _).alloc (Nat.le_refl _) _).drew)) (fun zH=>?_);clear hK K zH;refine wpAnyH_done (by kernel_rfl) ?_ _;have HY:Hid (Below X.heap.size X (X.alloc (.cells #[.slice p.oa y.ops.length p.oc,.int .i8 y.fin,.int .u8 y.a,.slice p.ba y.body.length p.bc,.int .i64 y.thn,.int .i64 y.els] 36)).drew/\At (X.alloc (.cells #[.slice p.oa y.ops.length p.oc,.int .i8 y.fin,.int .u8 y.a,.slice p.ba y.body.length p.bc,.int .i64 y.thn,.int .i64 y.els] 36)).drew X.heap.size #[.slice p.oa y.ops.length p.oc,.int .i8 y.fin,.int .u8 y.a,.slice p.ba y.body.length p.bc,.int .i64 y.thn,.int .i64 y.els]):=⟨((Below.refl _ _).alloc (Nat.le_refl _) _).drew,At.fr (At.new X #[.slice p.oa y.ops.length p.oc,.int .i8 y.fin,.int .u8 y.a,.slice p.ba y.body.length p.bc,.int .i64 y.thn,.int .i64 y.els] 36) (Fr.of (X:=Non) (drew_up _)) (fun e=>e)⟩;go_upto_region 4 with fail
 have HS2:Hid (∀ W,Below (X.alloc (.cells #[.slice p.oa y.ops.length p.oc,.int .i8 y.fin,.int .u8 y.a,.slice p.ba y.body.length p.bc,.int .i64 y.thn,.int .i64 y.els] 36)).drew.heap.size (X.alloc (.cells #[.slice p.oa y.ops.length p.oc,.int .i8 y.fin,.int .u8 y.a,.slice p.ba y.body.length p.bc,.int .i64 y.thn,.int .i64 y.els] 36)).drew W->(At W d (dcs t (some ⟨b,f,none⟩) ps.length cap la ll)/\BAt W b (f+k*6) y p/\b<W.heap.size/\Ob w W ⟨(k:Int),false,(op:Int),xs⟩/\W.cell? ⟨la,k,none⟩=some (.int .i64 0)/\la<W.heap.size)/\At W X.heap.size #[.slice p.oa y.ops.length p.oc,.int .i8 y.fin,.int .u8 y.a,.slice p.ba y.body.length p.bc,.int .i64 y.thn,.int .i64 y.els]):=fun W hW=>⟨HS.out W (HY.out.1.trans (hW.mono HY.out.1.size)),At.fr HY.out.2 (Fr.of (X:=Non) hW) (fun e=>e)⟩;generalize (X.alloc (.cells #[.slice p.oa y.ops.length p.oc,.int .i8 y.fin,.int .u8 y.a,.slice p.ba y.body.length p.bc,.int .i64 y.thn,.int .i64 y.els] 36)).drew=Y at *;generalize X.heap.size=bx at *;have hwo:IntKind.i64.wrap (op:Int)=(op:Int):=by rw [IntKind.wrap_i64];omega
 refine wp_region_held_drew (S:=fun W'=>At W' d (dcs t (some ⟨b,f,none⟩) ps.length cap la ll)/\BAt W' b (f+k*6) y p/\b<W'.heap.size/\Ob w W' ⟨(k:Int),false,(op:Int),xs⟩/\W'.cell? ⟨la,k,none⟩=some (.int .i64 0)/\la<W'.heap.size) (by kernel_rfl) (HS2.out _ (drew_up _)).1 (fun zH=>?_);refine wg 0 (.pointer (some ⟨w.heap.size,2,none⟩)) rfl zH ?_;simp only [pq];refine wt 1 (.int .i64 (op:Int)) rfl (fun w' hSw=>by (have q:=hSw.2.2.2.1.t.c 2 _ rfl;have ql:=hSw.2.2.2.1.t.lt;go_simp)) zH ?_;simp only [pq];refine wg 2 (.pointer (some ⟨d,0,none⟩)) rfl zH ?_;simp only [pq];refine wg 3 (.pointer (some ⟨d,0,none⟩)) rfl zH ?_;simp only [pq];refine wg 4 (.pointer (some ⟨d,14,none⟩)) rfl zH ?_;simp only [pq];refine wt 5 (.slice (some ⟨la,0,none⟩) ps.length ps.length) rfl (fun w' hSw=>by (have q:w'.cell? ⟨d,14,none⟩=some (.slice (some ⟨la,0,none⟩) ps.length ps.length):=hSw.1.c 14 _ rfl;have ql:=hSw.1.lt;go_simp)) zH ?_;simp only [pq];refine wg 6 (.pointer (some ⟨w.heap.size,0,none⟩)) rfl zH ?_;simp only [pq];refine wt 7 (.int .i64 (k:Int)) rfl (fun w' hSw=>by (have q:=hSw.2.2.2.1.t.c 0 _ rfl;have ql:=hSw.2.2.2.1.t.lt;go_simp)) zH ?_;simp only [pq];refine wg 8 (.pointer (some ⟨la,k,none⟩)) rfl zH ?_;simp only [pq];refine wt 9 (.int .i64 0) rfl (fun w' hSw=>by (have q:=hSw.2.2.2.2.1;have ql:=hSw.2.2.2.2.2;go_simp)) zH ?_;simp only [pq];refine wt 10 (.int .i64 (op:Int)) rfl (fun w' hSw=>by (go_simp;try exact hwo)) zH ?_;simp only [pq];refine wg 11 (.pointer (some ⟨w.heap.size,2,none⟩)) rfl zH ?_;simp only [pq];refine wpAnyH_ready (rs:=[12]) (by kernel_rfl) (by simp) ?_;refine AllReadyH.cons rfl (fun K hK=>?_) AllReadyH.nil;have z2:=(HS2.out _ (drew_up Y)).1.2.2.2.1.t.c 2 _ rfl;have zf:=(HS2.out _ (drew_up Y)).1.2.2.2.1.t.f;have zl:=(HS2.out _ (drew_up Y)).1.2.2.2.1.t.lt;have hsm:Y.drew.setCell ⟨w.heap.size,2,none⟩ (.int .i64 (op:Int))=Y.drew:=same_set z2;have hsm2:(Y.setCell ⟨w.heap.size,2,none⟩ (.int .i64 (op:Int))).drew=Y.drew:=hsm;have y2:Y.cell? ⟨w.heap.size,2,none⟩=some (.int .i64 (op:Int)):=z2;have yf:∀ j,Y.frozen? ⟨w.heap.size,j,none⟩=false:=zf;have yl:w.heap.size<Y.heap.size:=zl;go_simp
 refine hK.out _ _ (by first|exact (HS2.out _ (drew_up Y)).1|(rw [hsm2];exact (HS2.out _ (drew_up Y)).1)|(rw [hsm];exact (HS2.out _ (drew_up Y)).1)) (fun zH=>?_);clear hK K zH;refine wpAnyH_done (by kernel_rfl) ?_ _
 try rw [hsm2]
 try rw [hsm]
 have HZ:Hid (Ob w Y.drew ⟨(k:Int),false,(op:Int),xs⟩/\At Y.drew bx #[.slice p.oa y.ops.length p.oc,.int .i8 y.fin,.int .u8 y.a,.slice p.ba y.body.length p.bc,.int .i64 y.thn,.int .i64 y.els]):=⟨(HS2.out _ (drew_up Y)).1.2.2.2.1,(HS2.out _ (drew_up Y)).2⟩;clear z2 zf zl y2 yf yl hsm hsm2 HS2 HS HO HD HY;generalize Y.drew=Z at *;have t0:=HZ.out.1.t.c 0 _ rfl;have t1:=HZ.out.1.t.c 1 _ rfl;have t2:=HZ.out.1.t.c 2 _ rfl;have t3:=HZ.out.1.t.c 3 _ rfl;have tl:=HZ.out.1.t.lt;have r0:=HZ.out.1.r.c 0 _ rfl;have r1:=HZ.out.1.r.c 1 _ rfl;have r2:=HZ.out.1.r.c 2 _ rfl;have r3:=HZ.out.1.r.c 3 _ rfl;have rf:=HZ.out.1.r.f;have rl:=HZ.out.1.r.lt;have y0:=HZ.out.2.c 0 _ rfl;have yl:=HZ.out.2.lt;have hge:¬ (y.ops.length:Int)<=(op:Int):=by omega
 go_wp2_with fail
 refine bodyPost_ret (v:=.agg #[.int .i64 (k:Int),.bool false,.int .i64 (op:Int),.bool xs]) (by simp [results,Tryz.results198,go_sem,r0,r1,r2,r3]) rfl ⟨rfl,?_⟩;exact (((HZ.out.1.u.setCell (p:=⟨w.heap.size+1,0,none⟩) (by simp) _).setCell (p:=⟨w.heap.size+1,1,none⟩) (by simp) _).setCell (p:=⟨w.heap.size+1,2,none⟩) (by simp) _).setCell (p:=⟨w.heap.size+1,3,none⟩) (by simp) _
end Go.Proofs.YtpdaknbmcpmhjaaGreatDoor.Pk
namespace Go.Proofs.YtpdaknbmcpmhjaaGreatDoor.Pk
open Go.ChangeShapes Go.WideShapes Go.ChangeAt Go.RowKit
open YtpdaknbmcpmhjaaGreatDoor.Op YtpdaknbmcpmhjaaGreatDoor.So YtpdaknbmcpmhjaaGreatDoor.Bu
open YtpdaknbmcpmhjaaGreatDoor.Tb (Tab TabAt Bnds)
open YtpdaknbmcpmhjaaGreatDoor.Ly (At.set At.fr drew_up Tg BsL TgB TgAt Tw tcells)
theorem tcells_at {l:List Tg} {j:Nat} {x:Tg} (h:l[j]?=some x):(tcells l)[j*4]?=some (.int .i64 x.b)/\(tcells l)[j*4+1]?=some (.bool x.l)/\(tcells l)[j*4+2]?=some (.int .i64 x.o)/\(tcells l)[j*4+3]?=some (.bool x.s):=by
 induction l generalizing j with
 | nil=>simp at h
 | cons y l ih=>
  have hc:tcells (y::l)=[.int .i64 y.b,.bool y.l,.int .i64 y.o,.bool y.s]++tcells l:=rfl
  cases j with
  | zero=>
   simp only [List.getElem?_cons_zero,Option.some.injEq] at h;subst h;rw [hc];exact ⟨rfl,rfl,rfl,rfl⟩
  | succ j=>
   have:=ih (j:=j) (by simpa using h)
   rw [hc,show (j+1)*4=j*4+4 by omega];exact this
structure Lh (w W:World) (ps:List Bk) (mo:Option Addr) (pb lb:Nat):Prop where
 r:At W w.heap.size #[.slice none 0 0,.slice none 0 0]
 p:At W pb #[.slice mo ps.length ps.length]
 l:At W lb #[.slice none 0 0,.slice none 0 0]
 m:PAc W mo ps
 u:Below w.heap.size w W
 h1:w.heap.size<pb
 h2:pb<lb
theorem Lh.up {w W W':World} {ps:List Bk} {mo:Option Addr} {pb lb:Nat} (h:Lh w W ps mo pb lb) (g:Below W.heap.size W W'):Lh w W' ps mo pb lb:=⟨At.fr h.r (Fr.of (X:=Non) g) (fun e=>e),At.fr h.p (Fr.of (X:=Non) g) (fun e=>e),At.fr h.l (Fr.of (X:=Non) g) (fun e=>e),h.m.below g,h.u.trans (g.mono h.u.size),h.h1,h.h2⟩
theorem lh_of {w W:World} {ps:List Bk} {mo:Option Addr} (hb:Below (w.alloc (.cells #[.slice none 0 0,.slice none 0 0] 217)).heap.size (w.alloc (.cells #[.slice none 0 0,.slice none 0 0] 217)) W) (hm:PAc W mo ps):Lh w ((W.alloc (.cells #[.slice mo ps.length ps.length] 24)).alloc (.cells #[.slice none 0 0,.slice none 0 0] 217)) ps mo W.heap.size (W.heap.size+1):=by
 have hz:=hb.size;simp at hz
 have h0:At W w.heap.size #[.slice none 0 0,.slice none 0 0]:=At.fr (At.new w #[.slice none 0 0,.slice none 0 0] 217) (Fr.of (X:=Non) hb) (fun e=>e);obtain ⟨a1,a2,a3,-,-⟩:=two_new W #[.slice mo ps.length ps.length] #[.slice none 0 0,.slice none 0 0] 24 217 (Below.refl _ _);exact ⟨At.fr h0 (Fr.of (X:=Non) a3) (fun e=>e),a1,a2,hm.below a3,(((Below.refl _ w).alloc (Nat.le_refl _) _).trans (hb.mono (by simp))).trans (a3.mono (by omega)),by omega,by omega⟩
theorem lay_any (d:Nat) (ps:List Bk) (t:Tab) (ao:Option Addr) (cap la ll:Nat) (k N:Nat) (bl:List Bn) (tl:Nat->List Tg) (w:World) (h:Dr w d ps t ao cap la ll) (hn:ps.length<=128) (h0:∀ x∈ps,0<x.ops.length) (hth:∀ x∈ps,∃ j:Nat,j<ps.length/\x.thn=(j:Int)) (hk:k<ps.length) (hf:ps[k].fin≠3) (hN:N<=100000) (hlen:∀ i,i<N->(tl i).length<=1000)
  (hbk:∀ W mo,Below w.heap.size w W->PAc W mo ps->Calls Tryz.prog 14 #[.agg #[.slice mo ps.length ps.length],.int .i64 (k:Int),t.val] W fun e w'=>∃ ab cb a,e=.returned (.tuple #[.slice ab N cb,.slice a N N,.int .i64 0])/\BsL w' W.heap.size ab bl/\TgB w' W.heap.size a N tl/\Below W.heap.size W w')
  (hor:∀ W i x,Below w.heap.size w W->i<N->x∈tl i->Calls Tryz.prog 198 #[.pointer (some ⟨d,0,none⟩),x.val] W fun e w'=>e=.returned x.val/\Below W.heap.size W w') :
  Calls Tryz.prog 137 #[.pointer (some ⟨d,0,none⟩),.int .i64 (k:Int)] w fun e w'=>∃ ab cb a,e=.returned (.agg #[.slice ab N cb,.slice a N N])/\BsL w' w.heap.size ab bl/\TgB w' w.heap.size a N tl/\Below w.heap.size w w':=by
 have HD:Hid (∀ W,Below w.heap.size w W->Dr W d ps t ao cap la ll):=fun W hW=>h.below hW;have HM:Hid (Calls Tryz.prog 197 #[.pointer (some ⟨d,0,none⟩)] (w.alloc (.cells #[.slice none 0 0,.slice none 0 0] 217)) fun e w'=>e=.returned (.agg #[.slice (some ⟨w.heap.size+2,0,none⟩) ps.length ps.length])/\PAc w' (some ⟨w.heap.size+2,0,none⟩) ps/\Below (w.alloc (.cells #[.slice none 0 0,.slice none 0 0] 217)).heap.size (w.alloc (.cells #[.slice none 0 0,.slice none 0 0] 217)) w'):=by
  have:=moved_any d ps t ao cap la ll (w.alloc (.cells #[.slice none 0 0,.slice none 0 0] 217)) (h.below ((Below.refl _ _).alloc (Nat.le_refl _) _)) hn h0 hth
  simp only [World.size_alloc] at this ⊢;exact this
 have HBk:Hid _:=hbk;have HOr:Hid _:=hor;have k0:(0:Int)<=(k:Int):=by omega
 have k1:(k:Int)<(ps.length:Int):=by omega
 clear h hbk hor;go_enter Tryz.func137,Tryz.ntmps137;go_upto_region 3 with (first|(go_at_call 197;refine Calls.mono HM.out ?_;rintro e w1 ⟨rfl,h1,h2⟩;have HL:Hid (Lh w ((w1.alloc (.cells #[.slice (some ⟨w.heap.size+2,0,none⟩) ps.length ps.length] 24)).alloc (.cells #[.slice none 0 0,.slice none 0 0] 217)) ps (some ⟨w.heap.size+2,0,none⟩) w1.heap.size (w1.heap.size+1)):=lh_of h2 h1;clear h1 h2))
 clear HM;generalize ((w1.alloc (.cells #[.slice (some ⟨w.heap.size+2,0,none⟩) ps.length ps.length] 24)).alloc (.cells #[.slice none 0 0,.slice none 0 0] 217))=X at *;generalize w1.heap.size=pb at *;obtain ⟨mb,mf,em,hmb,hmx⟩:=HL.out.m
 injection em with em
 injection em with em1 em2
 subst em1 em2;obtain ⟨p,-,hba,-⟩:=hmx k hk;obtain ⟨c0,c1,c2,c3,c4,c5⟩:=hba;have q0:=HL.out.p.c 0 _ rfl;have ql:=HL.out.p.lt;have hfb:(ps[k].fin==3)=false:=by simpa using hf
 have HY:Hid (Lh w (X.alloc (.cells (ps[k].cells p) 36)) ps (some ⟨w.heap.size+2,0,none⟩) pb (pb+1)):=HL.out.up ((Below.refl _ _).alloc (Nat.le_refl _) _);rw [Nat.zero_add] at c0 c1 c2 c3 c4 c5;clear hmx hf;generalize ps[k]=x at *;go_upto_region 6 with fail
 generalize (X.alloc (.cells (x.cells p) 36))=Y at *;clear c0 c1 c2 c3 c4 c5 q0 ql HL;have HS:Hid (∀ W,Below Y.heap.size Y W->(Dr W d ps t ao cap la ll/\At W pb #[.slice (some ⟨w.heap.size+2,0,none⟩) ps.length ps.length])/\Lh w W ps (some ⟨w.heap.size+2,0,none⟩) pb (pb+1)):=fun W hW=>by
  have hl:=HY.out.up hW;exact ⟨⟨HD.out W hl.u,hl.p⟩,hl⟩
 refine wp_region_held_drew (S:=fun W'=>Dr W' d ps t ao cap la ll/\At W' pb #[.slice (some ⟨w.heap.size+2,0,none⟩) ps.length ps.length]) (by kernel_rfl) (HS.out _ (drew_up _)).1 (fun zH=>?_);refine wt 0 (.agg #[.slice (some ⟨w.heap.size+2,0,none⟩) ps.length ps.length]) rfl (fun w' hSw=>by (have q:=hSw.2.c 0 _ rfl;have ql:=hSw.2.lt;go_simp)) zH ?_;simp only [pq];refine wg 1 (.int .i64 (k:Int)) rfl zH ?_;simp only [pq];refine wg 2 (.pointer (some ⟨d,0,none⟩)) rfl zH ?_;simp only [pq];refine wg 3 (.pointer (some ⟨d,0,none⟩)) rfl zH ?_;simp only [pq];refine wg 4 (.pointer (some ⟨d,1,none⟩)) rfl zH ?_;simp only [pq];refine wt 5 (.agg #[.int .i64 (t.u 0),.int .i64 (t.u 1),.int .i64 (t.u 2),.int .i64 (t.u 3),.int .i64 (t.l 0),.int .i64 (t.l 1),.int .i64 (t.l 2),.int .i64 (t.l 3),.int .i64 (t.b 0),.int .i64 (t.b 1),.int .i64 (t.b 2),.int .i64 (t.b 3),.int .i64 t.d]) rfl (fun w' hSw=>by (have a0:=hSw.1.d;have y1:=a0.c 1 _ rfl;have y2:=a0.c 2 _ rfl;have y3:=a0.c 3 _ rfl;have y4:=a0.c 4 _ rfl;have y5:=a0.c 5 _ rfl;have y6:=a0.c 6 _ rfl;have y7:=a0.c 7 _ rfl;have y8:=a0.c 8 _ rfl;have y9:=a0.c 9 _ rfl;have y10:=a0.c 10 _ rfl;have y11:=a0.c 11 _ rfl;have y12:=a0.c 12 _ rfl;have y13:=a0.c 13 _ rfl;have yl:=a0.lt;clear a0;go_simp)) zH ?_;simp only [pq];refine wpAnyH_ready (rs:=[6]) (by kernel_rfl) (by simp) ?_;refine AllReadyH.cons rfl (fun K hK=>?_) AllReadyH.nil;go_simp
 refine Calls.mono (HBk.out Y.drew (some ⟨w.heap.size+2,0,none⟩) (HS.out _ (drew_up Y)).2.u (HS.out _ (drew_up Y)).2.m) ?_;rintro e w5 ⟨ab,cb,aa,rfl,h1,h2,h3⟩;have hs5:(Dr w5 d ps t ao cap la ll/\At w5 pb #[.slice (some ⟨w.heap.size+2,0,none⟩) ps.length ps.length])/\Lh w w5 ps (some ⟨w.heap.size+2,0,none⟩) pb (pb+1):=HS.out w5 ((drew_up Y).trans (h3.mono (Nat.le_refl _)));refine hK.out _ _ hs5.1 (fun zH=>?_);clear hK K;have H5:Hid (BsL w5 Y.drew.heap.size ab bl/\TgB w5 Y.drew.heap.size aa N tl/\Lh w w5 ps (some ⟨w.heap.size+2,0,none⟩) pb (pb+1)):=⟨h1,h2,hs5.2⟩;clear h1 h2 h3 hs5;refine wg 7 (.tuple #[.slice ab N cb,.slice aa N N,.int .i64 0]) rfl zH ?_;simp only [pq];refine wg 8 (.slice ab N cb) rfl zH ?_;simp only [pq];refine wg 9 (.slice aa N N) rfl zH ?_;simp only [pq];refine wg 10 (.int .i64 0) rfl zH ?_;simp only [pq];refine wg 11 (.pointer (some ⟨pb+1,0,none⟩)) rfl zH ?_;simp only [pq];have l0:=H5.out.2.2.l.c 0 _ rfl;have l1:=H5.out.2.2.l.c 1 _ rfl;have lf:=H5.out.2.2.l.f;have lt:=H5.out.2.2.l.lt;have hpl:=H5.out.2.2.h1;have hbY:pb+1<Y.drew.heap.size:=HY.out.l.lt;have f1:Fr (One (pb+1)) w5 (w5.setCell ⟨pb+1,0,none⟩ (.slice ab N cb)):=(Fr.refl (One (pb+1)) w5).setCell (.inr rfl) _ _;have f2:Fr (One (pb+1)) w5 ((w5.setCell ⟨pb+1,0,none⟩ (.slice ab N cb)).setCell ⟨pb+1,1,none⟩ (.slice aa N N)):=f1.setCell (.inr rfl) _ _;have npb:¬ One (pb+1) pb:=fun e=>by have e:pb=pb+1:=e;omega
 have u1:Below w.heap.size w (w5.setCell ⟨pb+1,0,none⟩ (.slice ab N cb)):=H5.out.2.2.u.setCell (p:=⟨pb+1,0,none⟩) (by show w.heap.size<=pb+1;omega) _;have u2:Below w.heap.size w ((w5.setCell ⟨pb+1,0,none⟩ (.slice ab N cb)).setCell ⟨pb+1,1,none⟩ (.slice aa N N)):=u1.setCell (p:=⟨pb+1,1,none⟩) (by show w.heap.size<=pb+1;omega) _;have HZ:Hid (At ((w5.setCell ⟨pb+1,0,none⟩ (.slice ab N cb)).setCell ⟨pb+1,1,none⟩ (.slice aa N N)) (pb+1) #[.slice ab N cb,.slice aa N N]/\At ((w5.setCell ⟨pb+1,0,none⟩ (.slice ab N cb)).setCell ⟨pb+1,1,none⟩ (.slice aa N N)) w.heap.size #[.slice none 0 0,.slice none 0 0]/\BsL ((w5.setCell ⟨pb+1,0,none⟩ (.slice ab N cb)).setCell ⟨pb+1,1,none⟩ (.slice aa N N)) Y.drew.heap.size ab bl/\TgB ((w5.setCell ⟨pb+1,0,none⟩ (.slice ab N cb)).setCell ⟨pb+1,1,none⟩ (.slice aa N N)) Y.drew.heap.size aa N tl/\Below w.heap.size w ((w5.setCell ⟨pb+1,0,none⟩ (.slice ab N cb)).setCell ⟨pb+1,1,none⟩ (.slice aa N N))):=by
  have f3:Fr (fun j=>j<Y.drew.heap.size) w5 ((w5.setCell ⟨pb+1,0,none⟩ (.slice ab N cb)).setCell ⟨pb+1,1,none⟩ (.slice aa N N)):=f2.mono fun j _ e=>by have e:j=pb+1:=e;omega
  exact ⟨At.set (k:=1) (At.set (k:=0) H5.out.2.2.l (by simp)) (by simp),At.fr H5.out.2.2.r f2 (fun e=>by have e:w.heap.size=pb+1:=e;omega),H5.out.1.fr f3,H5.out.2.1.fr f3,u2⟩
 refine wpAnyH_ready (rs:=[12]) (by kernel_rfl) (by simp) ?_;refine AllReadyH.cons rfl (fun K hK=>?_) AllReadyH.nil;go_simp
 refine hK.out _ _ ⟨HD.out _ u1,At.fr H5.out.2.2.p f1 npb⟩ (fun zH=>?_);clear hK K;refine wg 13 (.pointer (some ⟨pb+1,1,none⟩)) rfl zH ?_;simp only [pq];refine wpAnyH_ready (rs:=[14]) (by kernel_rfl) (by simp) ?_;refine AllReadyH.cons rfl (fun K hK=>?_) AllReadyH.nil;go_simp
 refine hK.out _ _ ⟨HD.out _ u2,At.fr H5.out.2.2.p f2 npb⟩ (fun zH=>?_);clear hK K zH l0 l1 lf lt f1 f2 u1 u2;refine wpAnyH_done (by kernel_rfl) ?_ _;generalize ((w5.setCell ⟨pb+1,0,none⟩ (.slice ab N cb)).setCell ⟨pb+1,1,none⟩ (.slice aa N N))=Z at *;have z1:=HZ.out.1.c 1 _ rfl;have zl:=HZ.out.1.lt;go_wp2_with fail
 clear z1 zl
 go_loopw [51] (fun v wr=>∃ i:Nat,i<=N/\v=.int .i64 i/\Hid (Below Z.heap.size Z wr)) (fun v _=>N-(intOf v).toNat)
 case atStart=>exact ⟨0,by omega,rfl,Below.refl _ _⟩
 case round=>
  rename World=>wr;obtain ⟨i,hi,rfl,HB⟩:=hrel
  by_cases hlt:i<N
  ·have i1:(i:Int)<(N:Int):=by omega
   obtain ⟨tb,rfl,htb,htx⟩:=HZ.out.2.2.2.1.at.is (by omega);obtain ⟨v,hv,htw⟩:=htx i hlt;obtain ⟨va,vc,rfl,hvx⟩:=htw.is;have r1:wr.cell? ⟨tb,i,none⟩=some (.slice va (tl i).length vc):=by rw [(bcell HB.out).1 _ _ htb];exact hv
   have htb2:tb<wr.heap.size:=Nat.lt_of_lt_of_le htb HB.out.size;have HV:Hid (0<(tl i).length->∃ b,va=some ⟨b,0,none⟩/\b<Z.heap.size/\(∀ j u,(tcells (tl i))[j]?=some u->Z.cell? ⟨b,j,none⟩=some u)/\∀ j,Z.frozen? ⟨b,j,none⟩=false):=hvx;have hle:=hlen i hlt;have HO:Hid (∀ W x,Below w.heap.size w W->x∈tl i->Calls Tryz.prog 198 #[.pointer (some ⟨d,0,none⟩),x.val] W fun e w'=>e=.returned x.val/\Below W.heap.size W w'):=fun W x hW hx=>HOr.out W i x hW hlt hx;clear htx htw hvx hv;generalize tl i=l at *;go_wp2_with fail
   go_loopw [57] (fun v wz=>∃ j:Nat,j<=l.length/\v=.int .i64 j/\Hid (Below Z.heap.size Z wz)) (fun v _=>l.length-(intOf v).toNat)
   case atStart=>exact ⟨0,by omega,rfl,HB⟩
   case round=>
    rename World=>wz;clear HB r1 htb2;obtain ⟨j,hj,rfl,HB⟩:=hrel
    by_cases hjl:j<l.length
    ·have j1:(j:Int)<(l.length:Int):=by omega
     obtain ⟨x,hx⟩:∃ x,l[j]?=some x:=⟨_,List.getElem?_eq_getElem hjl⟩;obtain ⟨vb,rfl,hvb,hvc,hvf⟩:=HV.out (by omega);obtain ⟨t0,t1,t2,t3⟩:=tcells_at hx;have HC:Hid (∀ W,Below Z.heap.size Z W->W.cell? ⟨vb,j*4,none⟩=some (.int .i64 x.b)/\W.cell? ⟨vb,j*4+1,none⟩=some (.bool x.l)/\W.cell? ⟨vb,j*4+2,none⟩=some (.int .i64 x.o)/\W.cell? ⟨vb,j*4+3,none⟩=some (.bool x.s)/\(∀ q,W.frozen? ⟨vb,q,none⟩=false)/\vb<W.heap.size):=fun W hW=>⟨by rw [(bcell hW).1 _ _ hvb];exact hvc _ _ t0,by rw [(bcell hW).1 _ _ hvb];exact hvc _ _ t1,by rw [(bcell hW).1 _ _ hvb];exact hvc _ _ t2,by rw [(bcell hW).1 _ _ hvb];exact hvc _ _ t3,fun q=>by rw [(bcell hW).2 _ _ hvb];exact hvf q,Nat.lt_of_lt_of_le hvb hW.size⟩;obtain ⟨c0,c1,c2,c3,cf,cl⟩:=HC.out wz HB.out;have hZw:=HZ.out.2.2.2.2;have hbx:Below wz.heap.size wz (wz.alloc (.cells x.cells 67)):=(Below.refl _ _).alloc (Nat.le_refl _) _;have HBx:Hid (Below Z.heap.size Z (wz.alloc (.cells x.cells 67))/\Below w.heap.size w (wz.alloc (.cells x.cells 67))):=by
      have:=HB.out.trans (hbx.mono HB.out.size)
      exact ⟨this,hZw.trans (this.mono hZw.size)⟩
     have HOc:Hid (Calls Tryz.prog 198 #[.pointer (some ⟨d,0,none⟩),.agg #[.int .i64 x.b,.bool x.l,.int .i64 x.o,.bool x.s]] (wz.alloc (.cells x.cells 67)) fun e w'=>e=.returned (.agg #[.int .i64 x.b,.bool x.l,.int .i64 x.o,.bool x.s])/\Below (wz.alloc (.cells x.cells 67)).heap.size (wz.alloc (.cells x.cells 67)) w'):=HO.out _ x HBx.out.2 (List.mem_of_getElem? hx);clear hvc hvf hbx hZw t0 t1 t2 t3;go_wp2_with (first|(go_at_call 198;refine Calls.mono HOc.out ?_;rintro e w6 ⟨rfl,h6⟩;have HB6:Hid (Below Z.heap.size Z w6):=HBx.out.1.trans (h6.mono HBx.out.1.size);obtain ⟨y0,y1,y2,y3,yf,yl⟩:=HC.out w6 HB6.out;have s0:=same_set y0;have s1:=same_set y1;have s2:=same_set y2;have s3:=same_set y3;clear h6))
     go_roundw
     case rel=>exact ⟨j+1,by omega,by go_num,HB6⟩
     case measure=>simp [intOf];omega
    ·obtain rfl:j=l.length:=by omega
     have j1:¬ (l.length:Int)<(l.length:Int):=by omega
     go_wp2_with fail
     go_roundw
     case rel=>exact ⟨i+1,by omega,by go_num,HB⟩
     case measure=>simp [intOf];omega
  ·obtain rfl:i=N:=by omega
   have i1:¬ (i:Int)<(i:Int):=by omega
   have zz:=HZ.out.1;have z0:wr.cell? ⟨pb+1,0,none⟩=some (.slice ab i cb):=by rw [(bcell HB.out).1 _ _ zz.lt];exact zz.c 0 _ rfl
   have z1:wr.cell? ⟨pb+1,1,none⟩=some (.slice aa i i):=by rw [(bcell HB.out).1 _ _ zz.lt];exact zz.c 1 _ rfl
   have zl:pb+1<wr.heap.size:=Nat.lt_of_lt_of_le zz.lt HB.out.size;have rr:=At.fr HZ.out.2.1 (Fr.of (X:=Non) HB.out) (fun e=>e);have r0:=rr.c 0 _ rfl;have r1:=rr.c 1 _ rfl;have rf:=rr.f;have rl:=rr.lt;go_wp2_with fail
   have g1:Fr (fun q=>q<Y.drew.heap.size) Z ((wr.setCell ⟨w.heap.size,0,none⟩ (.slice ab i cb)).setCell ⟨w.heap.size,1,none⟩ (.slice aa i i)):=((Fr.of (X:=fun q=>q<Y.drew.heap.size) HB.out).setCell (.inr (by show w.heap.size<Y.drew.heap.size;omega)) _ _).setCell (.inr (by show w.heap.size<Y.drew.heap.size;omega)) _ _;refine bodyPost_ret (v:=.agg #[.slice ab i cb,.slice aa i i]) (by simp [results,Tryz.results137,go_sem,r0,r1]) rfl ⟨ab,cb,aa,rfl,fun V hV=>HZ.out.2.2.1 V (g1.same (hV.mono fun q _ e=>by have e:q<w.heap.size:=e;show q<Y.drew.heap.size;omega)),fun V hV=>HZ.out.2.2.2.1 V (g1.same (hV.mono fun q _ e=>by have e:q<w.heap.size:=e;show q<Y.drew.heap.size;omega)),?_⟩;have hu:=HZ.out.2.2.2.2.trans (HB.out.mono HZ.out.2.2.2.2.size);exact (hu.setCell (p:=⟨w.heap.size,0,none⟩) (Nat.le_refl _) _).setCell (p:=⟨w.heap.size,1,none⟩) (Nat.le_refl _) _
end Go.Proofs.YtpdaknbmcpmhjaaGreatDoor.Pk
