/- Parts Ug Ui Uj. -/
import Derived.Test.YtiejdpjgplikjaaGreatDoorN27
import Derived.Shelf.Bits.Mul64
import Derived.Shelf.Spec.SlicesInsert
import Derived.BigRegion
import Derived.Test.YtiejdpjgplikjaaGreatDoorN00
set_option maxRecDepth 20000
set_option maxHeartbeats 16000000
namespace Go.Proofs.YtiejdpjgplikjaaGreatDoor.Mo
open Go.ChangeShapes Go.WideShapes Go.ChangeAt Go.RowKit Go.Great Go.Maps
open YtiejdpjgplikjaaGreatDoor.Op YtiejdpjgplikjaaGreatDoor.So YtiejdpjgplikjaaGreatDoor.Dp YtiejdpjgplikjaaGreatDoor.Bn
open YtiejdpjgplikjaaGreatDoor.Ls (Nl)
theorem mul64_one (N:Nat) (hN:N<=64) (w:World):Calls Tryz.prog 168 #[.int .u64 1,.int .u64 (N:Int)] w fun e w'=>e=.returned (.tuple #[.int .u64 0,.int .u64 (N:Int)])/\w'=w:=by
 have h1:bits .and .u64 1 4294967295=1:=by kernel_rfl
 have h0:bits .and .u64 0 4294967295=0:=by kernel_rfl
 have h2:bits .and .u64 (N:Int) 4294967295=(N:Int):=by rw [Mul64.maskN N (by omega)];omega
 have h3:(N:Int) / 4294967296=0:=by omega
 have h4:IntKind.u64.wrap (N:Int)=(N:Int):=by rw [IntKind.wrap_u64];omega
 have h5:IntKind.u64.wrap (1*(N:Int))=(N:Int):=by rw [Int.one_mul];exact h4
 have h6:IntKind.u64.wrap 0=0:=by rw [IntKind.wrap_u64];omega
 have hN':(N:Int)<=64:=by omega
 have n0:(0:Int)<=(N:Int):=by omega
 go_enter Tryz.func168,Tryz.ntmps168;go_wp2_with fail
 go_ret2
 exact ⟨by simp,rfl⟩
theorem mul_one (N:Nat) (hN:N<=64) (w:World):Calls Tryz.prog 155 #[.int .u64 1,.int .u64 (N:Int)] w fun e w'=>e=.returned (.tuple #[.int .u64 0,.int .u64 (N:Int)])/\w'=w:=by
 have HM:Hid (Calls Tryz.prog 168 #[.int .u64 1,.int .u64 (N:Int)] w fun e w'=>e=.returned (.tuple #[.int .u64 0,.int .u64 (N:Int)])/\w'=w):=mul64_one N hN w;clear hN;go_enter Tryz.func155,Tryz.ntmps155;go_wp2_with (first
  | (go_at_call 168;refine Calls.mono HM.out ?_;rintro e w1 ⟨rfl,rfl⟩))
 go_ret2
 exact ⟨rfl,rfl⟩
theorem frz_setCells (b:Nat):∀ (vs:List Value) (o:Nat) (w:World) (x:Addr),(w.setCells b o vs).frozen? x=w.frozen? x
 | [],_,_,_=>rfl
 | v::r,o,w,x=>by rw [World.setCells,frz_setCells b r,World.frozen?_setCell]
def rpF (v:Int) (k:Nat):Nat->Int:=fun j=>if j<k then v else 0
theorem Ir.put {W:World} {b n:Nat} {v:Int} {k m:Nat} (h:Ir W b n (rpF v k)) (hm:k+m<=n):Ir (W.setCells b k (List.replicate m (.int .i64 v))) b n (rpF v (k+m)):=by
 have ht:W.there b k (List.replicate m (Value.int .i64 v)).length:=fun j hj=>by
  rw [List.length_replicate] at hj;exact ⟨by rw [h.c (k+j) (by omega)];rfl,h.f _⟩
 refine ⟨fun j hj=>?_,fun j=>by rw [frz_setCells];exact h.f j,Nat.lt_of_lt_of_le h.lt (fr_setCells (X:=So.One b) rfl _ _ (So.Fr.refl _ W)).size⟩
 by_cases e:k<=j/\j<k+m
 ·have hr:=World.rangeAt_setCells_same W b k _ ht (j-k) (.int .i64 v) (by rw [List.getElem?_replicate,if_pos (by omega)]);rw [show k+(j-k)=j by omega] at hr;rw [hr];unfold rpF;rw [if_pos (by omega)]
 ·rw [World.cell?_setCells_out]
  ·rw [h.c j hj];unfold rpF
   by_cases d:j<k
   ·rw [if_pos d,if_pos (by omega)]
   ·rw [if_neg d,if_neg (by omega)]
  ·intro _ _;rw [List.length_replicate];show j<k\/k+m<=j;omega
theorem copy_in {W:World} {b n:Nat} {v:Int} {k m:Nat} (h:Ir W b n (rpF v k)) (hm:m=Nat.min k (n-k)) (hk:k<=n) (ty:TypeId):(Builtin.copy_ #[27,27] ty #[.slice (some ⟨b,k,none⟩) (n-k) (n-k),.slice (some ⟨b,0,none⟩) k n]).run Tryz.prog W=.ok (.int .i64 (m:Int)) (W.setCells b k (List.replicate m (.int .i64 v))):=by
 have hmk:m<=k:=by rw [hm];exact Nat.min_le_left _ _
 have hmn:m<=n-k:=by rw [hm];exact Nat.min_le_right _ _
 have:=run_copy_cells (P:=Tryz.prog) W 27 27 ty 3 b k (n-k) (n-k) ⟨b,0,none⟩ k n (List.replicate m (.int .i64 v)) Tryz.underlying27 (by kernel_rfl) (by rw [List.length_replicate];exact hm) (fun j u hu=>by
  have hj:j<m:=by have:=(List.getElem?_eq_some_iff.1 hu).1;rw [List.length_replicate] at this;exact this
  rw [List.getElem?_replicate,if_pos hj] at hu
  injection hu with hu
  rw [Addr.add_mid,Nat.zero_add,h.c j (by omega),<- hu];unfold rpF;rw [if_pos (by omega)]) (fun j hj=>by rw [List.length_replicate] at hj;rw [h.c (k+j) (by omega)];rfl) (fun j _=>h.f _) (fun u hu=>by rw [List.eq_of_mem_replicate hu];rfl)
 rw [List.length_replicate] at this;exact this
theorem copy_one {W:World} {b n xb:Nat} {v:Int} (h:Ir W b n (rpF v 0)) (hn:0<n) (hx:W.cell? ⟨xb,0,none⟩=some (.int .i64 v)) (ty:TypeId):(Builtin.copy_ #[27,27] ty #[.slice (some ⟨b,0,none⟩) n n,.slice (some ⟨xb,0,none⟩) 1 1]).run Tryz.prog W=.ok (.int .i64 1) (W.setCells b 0 (List.replicate 1 (.int .i64 v))):=by
 have:=run_copy_cells (P:=Tryz.prog) W 27 27 ty 3 b 0 n n ⟨xb,0,none⟩ 1 1 (List.replicate 1 (.int .i64 v)) Tryz.underlying27 (by kernel_rfl) (by show 1=Nat.min 1 n;exact (Nat.min_eq_left hn).symm) (fun j u hu=>by
  have hj:j<1:=by have:=(List.getElem?_eq_some_iff.1 hu).1;rw [List.length_replicate] at this;exact this
  obtain rfl:j=0:=by omega
  rw [List.getElem?_replicate,if_pos hj] at hu
  injection hu with hu
  rw [Addr.add_mid,hx,hu]) (fun j hj=>by
  have hj:j<1:=hj;rw [Nat.zero_add,h.c j (by omega)];rfl) (fun j _=>h.f _) (fun u hu=>by rw [List.eq_of_mem_replicate hu];rfl)
 exact this
theorem repeat_any (xb N:Nat) (v:Int) (w:World) (hx:w.cell? ⟨xb,0,none⟩=some (.int .i64 v)) (hl:xb<w.heap.size) (hN0:0<N) (hN:N<=64) :
  Calls Tryz.prog 130 #[.slice (some ⟨xb,0,none⟩) 1 1,.int .i64 (N:Int)] w fun r w'=>r=.returned (.slice (some ⟨w.heap.size,0,none⟩) N N)/\Ir w' w.heap.size N (fun _=>v)/\Below w.heap.size w w':=by
 have HM:Hid (Calls Tryz.prog 155 #[.int .u64 1,.int .u64 (N:Int)] w fun e w'=>e=.returned (.tuple #[.int .u64 0,.int .u64 (N:Int)])/\w'=w):=mul_one N hN w;obtain ⟨i0,hi,hi2⟩:=Option.map_eq_some_iff.1 info3;simp only [Prod.mk.injEq] at hi2;obtain ⟨hz0,hz1,hz2⟩:=hi2;have HI:Hid (Tryz.prog.info? 3=some i0/\i0.zero=some (.int .i64 0)/\i0.size=1/\i0.bytes=8):=⟨hi,hz0,hz1,hz2⟩;have b0:Below w.heap.size w (w.alloc (.cells (madeCells #[.int .i64 0] N) 3)):=(Below.refl _ _).alloc (Nat.le_refl _) _;have r0:Ir (w.alloc (.cells (madeCells #[.int .i64 0] N) 3)) w.heap.size N (rpF v 0):=(Ir.new w N 3).same fun i hi=>by unfold rpF;rw [if_neg (by omega)]
 have HC1:Hid (∀ ty,(Builtin.copy_ #[27,27] ty #[.slice (some ⟨w.heap.size,0,none⟩) N N,.slice (some ⟨xb,0,none⟩) 1 1]).run Tryz.prog (w.alloc (.cells (madeCells #[.int .i64 0] N) 3))=.ok (.int .i64 1) ((w.alloc (.cells (madeCells #[.int .i64 0] N) 3)).setCells w.heap.size 0 (List.replicate 1 (.int .i64 v)))):=fun ty=>copy_one r0 hN0 (by rw [(bcell b0).1 _ _ hl];exact hx) ty;have HQ0:Hid (Ir ((w.alloc (.cells (madeCells #[.int .i64 0] N) 3)).setCells w.heap.size 0 (List.replicate 1 (.int .i64 v))) w.heap.size N (rpF v 1)/\Below w.heap.size w ((w.alloc (.cells (madeCells #[.int .i64 0] N) 3)).setCells w.heap.size 0 (List.replicate 1 (.int .i64 v)))):=⟨Ir.put r0 (by omega),b0.trans ((fr_setCells (X:=So.One w.heap.size) rfl _ _ (So.Fr.refl _ (w.alloc (.cells (madeCells #[.int .i64 0] N) 3)))).below b0.size fun j hj e=>by have e:j=w.heap.size:=e;omega)⟩;have hN':(N:Int)<=64:=by omega
 have n0:(0:Int)<=(N:Int):=by omega
 have h4:IntKind.u64.wrap (N:Int)=(N:Int):=by rw [IntKind.wrap_u64];omega
 clear hi hz0 hz1 hz2 hx b0 r0;go_enter Tryz.func130,Tryz.ntmps130;go_upto_region 8 with (first
  | (go_at_call 155;refine Calls.mono HM.out ?_;rintro e w1 ⟨rfl,hw1⟩;rw [hw1];clear hw1 w1)
  | (at_make;refine wpList_make_row _ rfl _ _ 27 rfl 3 i0 (.int .i64 0) Tryz.underlying27 HI.out.1 HI.out.2.1 HI.out.2.2.1 rfl .i64 .i64 N rfl rfl (by rw [HI.out.2.2.2];omega) (by omega) ?_)
  | (refine Go.Proofs.wpList_copy_runI _ rfl (.tmp 31) (.tmp 32) 27 27 rfl _ _ rfl rfl (HC1.out _) ?_))
 clear HM HI HC1;go_wp2_with fail
 go_loopw [8] (fun x wr=>∃ k:Nat,0<k/\k<=N/\x=.int .i64 k/\Ir wr w.heap.size N (rpF v k)/\Below w.heap.size w wr) (fun x _=>N-(intOf x).toNat)
 case atStart=>exact ⟨1,by omega,by omega,rfl,HQ0.out⟩
 case round=>
  rename World=>wr;obtain ⟨k,hk0,hk,rfl,hq⟩:=hrel;have HQ:Hid (Ir wr w.heap.size N (rpF v k)/\Below w.heap.size w wr):=hq;clear hq HQ0
  by_cases hlt:k<N
  ·have k0:(0:Int)<=(k:Int):=by omega
   have k1:(k:Int)<(N:Int):=by omega
   have k2:(k:Int)<=(N:Int):=by omega
   obtain ⟨m,hm⟩:∃ m,m=Nat.min k (N-k):=⟨_,rfl⟩;have hm0:0<m:=by rw [hm];exact Nat.lt_min.2 ⟨hk0,by omega⟩
   have hm1:m<=k:=by rw [hm];exact Nat.min_le_left _ _
   have hm2:m<=N-k:=by rw [hm];exact Nat.min_le_right _ _
   have HCp:Hid (∀ W,Ir W w.heap.size N (rpF v k)->(Builtin.copy_ #[27,27] 3 #[.slice (some ⟨w.heap.size,k,none⟩) (N-k) (N-k),.slice (some ⟨w.heap.size,0,none⟩) k N]).run Tryz.prog W=.ok (.int .i64 (m:Int)) (W.setCells w.heap.size k (List.replicate m (.int .i64 v)))):=fun W h=>copy_in h hm (by omega) 3;have HQ2:Hid (Ir (wr.drew.setCells w.heap.size k (List.replicate m (.int .i64 v))) w.heap.size N (rpF v (k+m))/\Below w.heap.size w (wr.drew.setCells w.heap.size k (List.replicate m (.int .i64 v)))):=⟨Ir.put (HQ.out.1.up (drew_up _)) (by omega),(HQ.out.2.trans ((drew_up wr).mono HQ.out.2.size)).trans ((fr_setCells (X:=So.One w.heap.size) rfl _ _ (So.Fr.refl _ wr.drew)).below HQ.out.2.size fun j hj e=>by have e:j=w.heap.size:=e;omega)⟩;have hwk:IntKind.i64.wrap ((k:Int)+(m:Int))=((k+m:Nat):Int):=by rw [IntKind.wrap_i64];omega
   have hNk:¬ N=k:=by omega
   clear hm;go_upto_region 9 with fail
   refine wp_region_held_drew (S:=fun _=>True) (by kernel_rfl) trivial (fun zH=>?_);refine wg 0 (.int .i64 (k:Int)) rfl zH ?_;simp only [pq];refine wg 1 (.slice (some ⟨w.heap.size,0,none⟩) N N) rfl zH ?_;simp only [pq];refine wg 2 (.int .i64 (k:Int)) rfl zH ?_;simp only [pq];refine wg 3 (.slice (some ⟨w.heap.size,k,none⟩) (N-k) (N-k)) rfl zH ?_;simp only [pq];refine wg 4 (.slice (some ⟨w.heap.size,0,none⟩) N N) rfl zH ?_;simp only [pq];refine wg 5 (.int .i64 (k:Int)) rfl zH ?_;simp only [pq];refine wg 6 (.slice (some ⟨w.heap.size,0,none⟩) k N) rfl zH ?_;simp only [pq];refine wpAnyH_ready (rs:=[7]) (by kernel_rfl) (by simp) ?_;refine AllReadyH.cons rfl (fun K hK=>?_) AllReadyH.nil;refine Go.Proofs.step_copy_runI rfl (.tmp 41) (.tmp 44) 27 27 rfl (.slice (some ⟨w.heap.size,k,none⟩) (N-k) (N-k)) (.slice (some ⟨w.heap.size,0,none⟩) k N) rfl rfl (HCp.out wr.drew (HQ.out.1.up (drew_up _))) ?_;refine hK.out _ _ trivial (fun zH=>?_);clear hK K;simp only [pq];refine wg 8 (.int .i64 ((k+m:Nat):Int)) rfl zH ?_;simp only [pq];refine wg 9 (.int .i64 ((k+m:Nat):Int)) rfl zH ?_;simp only [pq];refine wpAnyH_done (by kernel_rfl) ?_ _;clear zH;go_wp2_with fail
   go_roundw
   case rel=>exact ⟨k+m,by omega,by omega,rfl,HQ2.out⟩
   case measure=>simp [intOf];omega
  ·obtain rfl:k=N:=by omega
   have k1:¬ (k:Int)<(k:Int):=by omega
   go_wp2_with fail
   go_ret
   exact ⟨rfl,HQ.out.1.same fun i hi=>by unfold rpF;rw [if_pos hi],HQ.out.2⟩
end Go.Proofs.YtiejdpjgplikjaaGreatDoor.Mo
namespace Go.Proofs.YtiejdpjgplikjaaGreatDoor.Mo
open Go.ChangeShapes Go.WideShapes Go.ChangeAt Go.RowKit Go.Great
open YtiejdpjgplikjaaGreatDoor.Op YtiejdpjgplikjaaGreatDoor.So YtiejdpjgplikjaaGreatDoor.Dp YtiejdpjgplikjaaGreatDoor.Bn
structure Lw (w W:World) (b:Nat) (r:Nat->Nat) (N K:Nat) (F:Mat):Prop where
 wb:w.heap.size<=b
 lt:b<W.heap.size
 row:∀ i,i<K->W.cell? ⟨b,i,none⟩=some (.slice (some ⟨r i,0,none⟩) N N)
 rest:∀ i,i<N->(W.cell? ⟨b,i,none⟩).isSome=true
 bf:∀ j,W.frozen? ⟨b,j,none⟩=false
 c:∀ i j,i<K->j<N->W.cell? ⟨r i,j,none⟩=some (.int .i64 (F i j))
 f:∀ i j,i<K->W.frozen? ⟨r i,j,none⟩=false
 rb:∀ i,i<K->b<r i
 rl:∀ i,i<K->r i<W.heap.size
 inj:∀ i j,i<K->j<K->r i=r j->i=j
 up:Below w.heap.size w W
theorem Lw.same {w W:World} {b:Nat} {r:Nat->Nat} {N K:Nat} {F G:Mat} (h:Lw w W b r N K F) (e:∀ i j,i<K->j<N->F i j=G i j):Lw w W b r N K G:=
 ⟨h.wb,h.lt,h.row,h.rest,h.bf,fun i j hi hj=>by rw [<- e i j hi hj];exact h.c i j hi hj,h.f,h.rb,h.rl,h.inj,h.up⟩
theorem Lw.next {w W W':World} {b:Nat} {r:Nat->Nat} {N K:Nat} {F:Mat} (h:Lw w W b r N K F) (g:Below W.heap.size W W'):Lw w W' b r N K F:=
 ⟨h.wb,Nat.lt_of_lt_of_le h.lt g.size,fun i hi=>by rw [(bcell g).1 _ _ h.lt];exact h.row i hi,fun i hi=>by rw [(bcell g).1 _ _ h.lt];exact h.rest i hi,fun j=>by rw [(bcell g).2 _ _ h.lt];exact h.bf j,
  fun i j hi hj=>by rw [(bcell g).1 _ _ (h.rl i hi)];exact h.c i j hi hj,fun i j hi=>by rw [(bcell g).2 _ _ (h.rl i hi)];exact h.f i j hi,h.rb,fun i hi=>Nat.lt_of_lt_of_le (h.rl i hi) g.size,h.inj,h.up.trans (g.mono h.up.size)⟩
theorem Lw.set {w W:World} {b:Nat} {r:Nat->Nat} {N K:Nat} {F:Mat} (h:Lw w W b r N K F) {i j:Nat} (hi:i<K) (hj:j<N) (v:Int):Lw w (W.setCell ⟨r i,j,none⟩ (.int .i64 v)) b r N K (upd2 F i j v):=by
 have g:So.Fr (So.One (r i)) W (W.setCell ⟨r i,j,none⟩ (.int .i64 v)):=(So.Fr.refl (So.One (r i)) W).setCell (.inr rfl) _ _;have nb:¬ So.One (r i) b:=fun e=>by have e:b=r i:=e;have:=h.rb i hi;omega
 refine ⟨h.wb,Nat.lt_of_lt_of_le h.lt g.size,fun k hk=>by rw [g.cell h.lt nb];exact h.row k hk,fun k hk=>by rw [g.cell h.lt nb];exact h.rest k hk,fun k=>by rw [g.frozen h.lt nb];exact h.bf k,fun x y hx hy=>?_,fun x y hx=>by rw [World.frozen?_setCell];exact h.f x y hx,h.rb,fun k hk=>Nat.lt_of_lt_of_le (h.rl k hk) g.size,h.inj,h.up.trans (g.below h.up.size fun k hk e=>by
  have e:k=r i:=e
  have:=h.rb i hi;have:=h.wb
  omega)⟩
 by_cases e:x=i/\y=j
 ·obtain ⟨rfl,rfl⟩:=e;rw [upd2_same,World.cell?_setCell_same _ _ _ (h.c x y hx hy)]
 ·rw [upd2_other _ _ e,World.cell?_setCell_other]
  ·exact h.c x y hx hy
  ·intro h'
   injection h' with h1 h2
   exact e ⟨h.inj x i hx hi h1.symm,h2.symm⟩
theorem Lw.add {w W:World} {b:Nat} {r:Nat->Nat} {N K:Nat} {F:Mat} (h:Lw w W b r N K F) {q:Nat} {v:Int} (hi:Ir W q N (fun _=>v)) (hq:∀ i,i<K->r i<q) (hbq:b<q) (hK:K<N) :
  Lw w (W.setCell ⟨b,K,none⟩ (.slice (some ⟨q,0,none⟩) N N)) b (fun i=>if i=K then q else r i) N (K+1) (fun i j=>if i=K then v else F i j):=by
 have g:So.Fr (So.One b) W (W.setCell ⟨b,K,none⟩ (.slice (some ⟨q,0,none⟩) N N)):=(So.Fr.refl (So.One b) W).setCell (.inr rfl) _ _;have nq:¬ So.One b q:=fun e=>by have e:q=b:=e;omega
 have nr:∀ i,i<K->¬ So.One b (r i):=fun i hi e=>by have e:r i=b:=e;have:=h.rb i hi;omega
 obtain ⟨x,hx⟩:=Option.isSome_iff_exists.1 (h.rest K hK);refine ⟨h.wb,Nat.lt_of_lt_of_le h.lt g.size,fun i h1=>?_,fun i h1=>?_,fun j=>by rw [World.frozen?_setCell];exact h.bf j,fun i j h1 h2=>?_,fun i j h1=>?_,fun i h1=>?_,fun i h1=>?_,fun i j h1 h2 e=>?_,h.up.trans (g.below h.up.size fun k hk e=>by
  have e:k=b:=e
  have:=h.wb
  omega)⟩
 ·by_cases e:i=K
  ·subst e;rw [if_pos rfl,World.cell?_setCell_same _ _ _ hx]
  ·rw [if_neg e,World.cell?_setCell_other]
   ·exact h.row i (by omega)
   ·intro h';injection h' with _ h2;omega
 ·by_cases e:i=K
  ·subst e;rw [World.cell?_setCell_same _ _ _ hx];rfl
  ·rw [World.cell?_setCell_other]
   ·exact h.rest i h1
   ·intro h';injection h' with _ h2;omega
 ·by_cases e:i=K
  ·subst e;rw [if_pos rfl,if_pos rfl,g.cell hi.lt nq];exact hi.c j h2
  ·rw [if_neg e,if_neg e,g.cell (h.rl i (by omega)) (nr i (by omega))];exact h.c i j (by omega) h2
 ·by_cases e:i=K
  ·subst e;rw [if_pos rfl,g.frozen hi.lt nq];exact hi.f j
  ·rw [if_neg e,g.frozen (h.rl i (by omega)) (nr i (by omega))];exact h.f i j (by omega)
 ·by_cases e:i=K
  ·rw [if_pos e];exact hbq
  ·rw [if_neg e];exact h.rb i (by omega)
 ·by_cases e:i=K
  ·rw [if_pos e];exact Nat.lt_of_lt_of_le hi.lt g.size
  ·rw [if_neg e];exact Nat.lt_of_lt_of_le (h.rl i (by omega)) g.size
 ·by_cases e1:i=K
  ·by_cases e2:j=K
   ·omega
   ·rw [if_pos e1,if_neg e2] at e
    have:=hq j (by omega);omega
  ·by_cases e2:j=K
   ·rw [if_neg e1,if_pos e2] at e
    have:=hq i (by omega);omega
   ·rw [if_neg e1,if_neg e2] at e;exact h.inj i j (by omega) (by omega) e
theorem Lw.bh {w W:World} {b:Nat} {r:Nat->Nat} {N:Nat} {F:Mat} (h:Lw w W b r N N F):Bh W (some ⟨b,0,none⟩) N F:=⟨fun _=>⟨b,r,rfl,h.lt,fun i hi=>⟨h.rl i hi,h.row i hi,fun j hj=>h.c i j hi hj⟩⟩⟩
theorem info27:(Tryz.prog.info? 27).map (fun i=>(i.zero,i.size,i.bytes))=some (some (.slice none 0 0),1,24):=by kernel_rfl
theorem lw_new (w:World) (N:Nat) (F:Mat):Lw w (w.alloc (.cells (madeCells #[.slice none 0 0] N) 27)) w.heap.size (fun _=>0) N 0 F:=by
 have h:=At.new w (madeCells #[.slice none 0 0] N) 27;refine ⟨Nat.le_refl _,h.lt,fun i hi=>by omega,fun i hi=>?_,h.f,fun i j hi=>by omega,fun i j hi=>by omega,fun i hi=>by omega,fun i hi=>by omega,fun i j hi=>by omega,(Below.refl _ _).alloc (Nat.le_refl _) _⟩;rw [h.c i (.slice none 0 0) (by rw [<- Array.getElem?_toList,toList_madeCells_one];simp [hi])];rfl
def LwOut (w:World) (N:Nat) (F:Mat) (e:Ending) (w':World):Prop:=∃ b r,e=.returned (.slice (some ⟨b,0,none⟩) N N)/\Lw w w' b r N N F
def lwT (q:Int) (es:List Ed) (k:Nat):Mat:=(es.take k).foldl (stE q) dg
theorem lwT_next (q:Int) {es:List Ed} {k:Nat} (h:k<es.length):lwT q es (k+1)=stE q (lwT q es k) es[k]:=by
 unfold lwT;rw [List.take_succ_eq_append_getElem h,List.foldl_append];rfl
theorem lwT_all (q:Int) (es:List Ed):lwT q es es.length=lwS q es:=by unfold lwT lwS;rw [List.take_length]
theorem dg_next (k:Nat):∀ i j,i<k+1->upd2 (fun i j=>if i=k then noW else dg i j) k k 0 i j=dg i j:=fun i j _=>by
 unfold upd2 dg
 by_cases e:i=k/\j=k
 ·obtain ⟨rfl,rfl⟩:=e;rw [if_pos ⟨rfl,rfl⟩,if_pos rfl]
 ·rw [if_neg e]
  by_cases c:i=k
  ·subst c;show (if i=i then noW else _)=_;rw [if_pos rfl,if_neg (by omega)]
  ·show (if i=k then noW else _)=_;rw [if_neg c]
theorem longestWays_any (N M:Nat) (ea:Option Addr) (ec:Nat) (es:List Ed) (E:Int) (w:World) (he:Es w ea es) (hEL:EL N es) (hM:es.length=M) (hM2:M<=100000000) (hP:Pot es E) (hN0:0<N) (hN:N<=64) (hE0:0<=E) (hE1:E<=65536) :
  Calls Tryz.prog 128 #[.int .i64 (N:Int),.slice ea M ec,.int .i64 E] w (LwOut w N (lw E es N)):=by
 have HRp:Hid (∀ W xb q,W.cell? ⟨xb,0,none⟩=some (.int .i64 noW)->xb<W.heap.size->W.heap.size=q->Calls Tryz.prog 130 #[.slice (some ⟨xb,0,none⟩) 1 1,.int .i64 (N:Int)] W fun r w'=>r=.returned (.slice (some ⟨q,0,none⟩) N N)/\Ir w' q N (fun _=>noW)/\Below q W w'):=fun W xb q h1 h2 h3=>by subst h3;exact repeat_any xb N noW W h1 h2 hN0 hN
 have HE:Hid (Es w ea es/\EL N es/\es.length=M/\Pot es E):=⟨he,hEL,hM,hP⟩;obtain ⟨i0,hi,hi2⟩:=Option.map_eq_some_iff.1 info27;simp only [Prod.mk.injEq] at hi2;obtain ⟨hz0,hz1,hz2⟩:=hi2;have HI:Hid (Tryz.prog.info? 27=some i0/\i0.zero=some (.slice none 0 0)/\i0.size=1/\i0.bytes=24):=⟨hi,hz0,hz1,hz2⟩;have HL0:Hid (Lw w (w.alloc (.cells (madeCells #[.slice none 0 0] N) 27)) w.heap.size (fun _=>0) N 0 dg):=lw_new w N dg;have hN':(N:Int)<=64:=by omega
 have hN1:(0:Int)<(N:Int):=by omega
 have hM':(M:Int)<=100000000:=by omega
 clear hi hz0 hz1 hz2 he hEL hP hM hM2;unfold LwOut;go_enter Tryz.func128,Tryz.ntmps128;go_upto_region 2 with (first
  | (at_make;refine wpList_make_row _ rfl _ _ 178 rfl 27 i0 (.slice none 0 0) Tryz.underlying178 HI.out.1 HI.out.2.1 HI.out.2.2.1 rfl .i64 .i64 N rfl rfl (by rw [HI.out.2.2.2];omega) (by omega) ?_))
 generalize w.alloc (.cells (madeCells #[.slice none 0 0] N) 27)=W0 at *;clear HI;go_wp2_with fail
 go_loopw [21] (fun v wr=>∃ (k:Nat) (r:Nat->Nat),k<=N/\v=.int .i64 k/\Lw w wr w.heap.size r N k dg) (fun v _=>N-(intOf v).toNat)
 case atStart=>exact ⟨0,_,by omega,rfl,HL0.out⟩
 case round=>
  rename World=>wr;obtain ⟨k,r,hk,rfl,hq⟩:=hrel;have HQ:Hid (Lw w wr w.heap.size r N k dg):=hq;clear hq HL0
  by_cases hlt:k<N
  ·have k0:(0:Int)<=(k:Int):=by omega
   have k1:(k:Int)<(N:Int):=by omega
   go_upto_region 6 with (first
    | (go_at_call 130;refine Calls.mono (HRp.out _ wr.heap.size (wr.heap.size+1) (by simp) (by simp) (by simp)) ?_;rintro e1 w2 ⟨rfl,ir2,b2⟩;have HL2:Hid (Lw w w2 w.heap.size r N k dg/\Ir w2 (wr.heap.size+1) N (fun _=>noW)):=⟨HQ.out.next ((Below.refl wr.heap.size wr).alloc (Nat.le_refl _) _ |>.trans (b2.mono (by simp))),ir2⟩;obtain ⟨x,hx⟩:=Option.isSome_iff_exists.1 (HL2.out.1.rest k hlt);have hxf:=HL2.out.1.bf k;have hxl:=HL2.out.1.lt;clear ir2 b2))
   have HL3:Hid (Lw w (w2.setCell ⟨w.heap.size,k,none⟩ (.slice (some ⟨wr.heap.size+1,0,none⟩) N N)) w.heap.size (fun i=>if i=k then wr.heap.size+1 else r i) N (k+1) (fun i j=>if i=k then noW else dg i j)):=HL2.out.1.add HL2.out.2 (fun i hi=>by have:=HQ.out.rl i hi;omega) (by have:=HQ.out.lt;omega) hlt;clear hx hxf hxl HL2 HQ;generalize w2.setCell ⟨w.heap.size,k,none⟩ (.slice (some ⟨wr.heap.size+1,0,none⟩) N N)=X at *;generalize hrr:(fun i=>if i=k then wr.heap.size+1 else r i)=r2 at *;have hrk:r2 k=wr.heap.size+1:=by rw [<- hrr];exact if_pos rfl
   have a1:=HL3.out.row k (by omega);have a2:=HL3.out.c k k (by omega) hlt;have a3:=HL3.out.f k k (by omega);have a4:=HL3.out.rl k (by omega);have a5:=HL3.out.lt;have HL4:Hid (Lw w (X.setCell ⟨r2 k,k,none⟩ (.int .i64 0)) w.heap.size r2 N (k+1) dg):=(HL3.out.set (i:=k) (j:=k) (by omega) hlt 0).same fun i j hi _=>dg_next k i j hi;clear hrr HL3;rw [<- hrk];clear hrk;generalize (if k=k then noW else dg k k)=y at a2;go_wp2_with fail
   go_roundw
   case rel=>exact ⟨k+1,r2,by omega,by go_num,HL4.out⟩
   case measure=>simp [intOf];omega
  ·obtain rfl:k=N:=by omega
   have k1:¬ (k:Int)<(k:Int):=by omega
   have HQ0:Hid (Lw w wr w.heap.size r k k (lwT E es 0)):=HQ.out;clear HQ HRp hlt;go_wp2_with fail
   go_loopw [39] (fun v wr=>∃ j:Nat,j<=M/\v=.int .i64 j/\Lw w wr w.heap.size r k k (lwT E es j)) (fun v _=>M-(intOf v).toNat)
   case atStart=>exact ⟨0,by omega,rfl,HQ0.out⟩
   case round=>
    rename World=>wz;obtain ⟨j,hj,rfl,hq⟩:=hrel;have HZ:Hid (Lw w wz w.heap.size r k k (lwT E es j)):=hq;clear hq HQ0
    by_cases hjt:j<M
    ·have j0:(0:Int)<=(j:Int):=by omega
     have j1:(j:Int)<(M:Int):=by omega
     have hje:j<es.length:=by rw [HE.out.2.2.1];exact hjt
     have e1:=HE.out.2.1 _ (List.getElem_mem hje);obtain ⟨eb,rfl,l1,f0,f1,f2,f3,f4⟩:=(HE.out.1.up HZ.out.up).2 j hje;have HNx:Hid (lwT E es (j+1)=stE E (lwT E es j) es[j]):=lwT_next E hje;have g0:=e1.f0;have g1:=e1.fn;have g2:=e1.t0;have g3:=e1.tn;have g4:=e1.l0;have g5:=e1.l8;have g6:es[j].d=0\/es[j].d=1:=by
      rcases e1.d with h|h;· exact .inl h.1
      ·exact .inr h
     clear e1;generalize es[j]=x at *;obtain ⟨xf,xt,xl,xd,xy⟩:=x;dsimp only at g0 g1 g2 g3 g4 g5 g6 f0 f1 f2 f3 f4;obtain ⟨fi,rfl⟩:∃ fi:Nat,xf=fi:=⟨xf.toNat,by omega⟩;obtain ⟨ti,rfl⟩:∃ ti:Nat,xt=ti:=⟨xt.toNat,by omega⟩;have HNx:Hid (lwT E es (j+1)=upd2 (lwT E es j) fi ti (max (lwT E es j fi ti) (xl-E*xd))):=HNx.out;have hed:0<=E*xd/\E*xd<=65536:=by rcases g6 with rfl|rfl <;> simp <;> omega
     obtain ⟨hd0,hd1⟩:=hed;have hwm:IntKind.i64.wrap (E*xd)=E*xd:=by rw [IntKind.wrap_i64];omega
     have hws:IntKind.i64.wrap (xl-E*xd)=xl-E*xd:=by rw [IntKind.wrap_i64];omega
     have HX:Hid (Lw w (wz.alloc (.cells #[.int .i64 (fi:Int),.int .i64 (ti:Int),.int .i64 xl,.int .i64 xd,.int .i8 xy] 47)) w.heap.size r k k (lwT E es j)/\At (wz.alloc (.cells #[.int .i64 (fi:Int),.int .i64 (ti:Int),.int .i64 xl,.int .i64 xd,.int .i8 xy] 47)) wz.heap.size #[.int .i64 (fi:Int),.int .i64 (ti:Int),.int .i64 xl,.int .i64 xd,.int .i8 xy]/\r fi<wz.heap.size):=⟨HZ.out.next ((Below.refl _ _).alloc (Nat.le_refl _) _),At.new _ _ _,HZ.out.rl fi (by omega)⟩;generalize lwT E es j=G at *;have z0:(0:Int)<=(fi:Int):=by omega
     have z1:(0:Int)<=(ti:Int):=by omega
     clear g0 g2 g6;go_upto_region 11 with fail
     generalize (wz.alloc (.cells #[.int .i64 (fi:Int),.int .i64 (ti:Int),.int .i64 xl,.int .i64 xd,.int .i8 xy] 47))=X at *;have obn:¬ r fi=wz.heap.size:=by have:=HX.out.2.2;omega
     generalize wz.heap.size=ob at *;clear HZ f0 f1 f2 f3 f4 l1;obtain ⟨p,hp⟩:∃ p,xl-E*xd=p:=⟨_,rfl⟩;rw [hp] at HNx hws;have hws2:IntKind.i64.wrap (xl-E*xd)=p:=by rw [hp];exact hws
     have hfn:fi<k:=by omega
     have htn:ti<k:=by omega
     refine wp_region_held_drew (S:=fun W=>W.cell? ⟨w.heap.size,fi,none⟩=some (.slice (some ⟨r fi,0,none⟩) k k)/\w.heap.size<W.heap.size/\At W ob #[.int .i64 (fi:Int),.int .i64 (ti:Int),.int .i64 xl,.int .i64 xd,.int .i8 xy]) (by kernel_rfl) ⟨HX.out.1.row fi hfn,HX.out.1.lt,HX.out.2.1.below (drew_up _) HX.out.2.1.lt⟩ (fun zH=>?_);refine wg 0 (.slice (some ⟨w.heap.size,0,none⟩) k k) rfl zH ?_;simp only [pq];refine wg 1 (.pointer (some ⟨ob,0,none⟩)) rfl zH ?_;simp only [pq];refine wt 2 (.int .i64 (fi:Int)) rfl (fun w' hSw=>by (have y:=hSw.2.2.c 0 _ rfl;have yl:=hSw.2.2.lt;go_simp)) zH ?_;simp only [pq];refine wg 3 (.pointer (some ⟨w.heap.size,fi,none⟩)) rfl zH ?_;simp only [pq];refine wt 4 (.slice (some ⟨r fi,0,none⟩) k k) rfl (fun w' hSw=>by (have y:=hSw.1;have yl:=hSw.2.1;go_simp)) zH ?_;simp only [pq];refine wg 5 (.pointer (some ⟨ob,1,none⟩)) rfl zH ?_;simp only [pq];refine wt 6 (.int .i64 (ti:Int)) rfl (fun w' hSw=>by (have y:=hSw.2.2.c 1 _ rfl;have yl:=hSw.2.2.lt;go_simp)) zH ?_;simp only [pq];refine wg 7 (.slice (some ⟨w.heap.size,0,none⟩) k k) rfl zH ?_;simp only [pq];refine wg 8 (.pointer (some ⟨ob,0,none⟩)) rfl zH ?_;simp only [pq];refine wt 9 (.int .i64 (fi:Int)) rfl (fun w' hSw=>by (have y:=hSw.2.2.c 0 _ rfl;have yl:=hSw.2.2.lt;go_simp)) zH ?_;simp only [pq];refine wg 10 (.pointer (some ⟨w.heap.size,fi,none⟩)) rfl zH ?_;simp only [pq];refine wt 11 (.slice (some ⟨r fi,0,none⟩) k k) rfl (fun w' hSw=>by (have y:=hSw.1;have yl:=hSw.2.1;go_simp)) zH ?_;simp only [pq];refine wg 12 (.pointer (some ⟨ob,1,none⟩)) rfl zH ?_;simp only [pq];refine wt 13 (.int .i64 (ti:Int)) rfl (fun w' hSw=>by (have y:=hSw.2.2.c 1 _ rfl;have yl:=hSw.2.2.lt;go_simp)) zH ?_;simp only [pq];refine wg 14 (.pointer (some ⟨r fi,ti,none⟩)) rfl zH ?_;simp only [pq];refine wg 16 (.pointer (some ⟨ob,2,none⟩)) rfl zH ?_;simp only [pq];refine wt 17 (.int .i64 xl) rfl (fun w' hSw=>by (have y:=hSw.2.2.c 2 _ rfl;have yl:=hSw.2.2.lt;go_simp)) zH ?_;simp only [pq];refine wg 18 (.int .i64 E) rfl zH ?_;simp only [pq];refine wg 19 (.pointer (some ⟨ob,3,none⟩)) rfl zH ?_;simp only [pq];refine wt 20 (.int .i64 xd) rfl (fun w' hSw=>by (have y:=hSw.2.2.c 3 _ rfl;have yl:=hSw.2.2.lt;go_simp)) zH ?_;simp only [pq];refine wg 21 (.int .i64 (E*xd)) rfl zH ?_;simp only [pq];refine wg 22 (.int .i64 p) rfl zH ?_;simp only [pq];have ck:=HX.out.1.c fi ti hfn htn;have cf:=HX.out.1.f fi ti hfn;have cl:=HX.out.1.rl fi hfn;refine wpAnyH_ready (rs:=[15]) (by kernel_rfl) (by simp) ?_;refine AllReadyH.cons rfl (fun K hK=>?_) AllReadyH.nil;go_simp
     refine hK.out _ _ ⟨HX.out.1.row fi hfn,HX.out.1.lt,HX.out.2.1.below (drew_up _) HX.out.2.1.lt⟩ (fun zH=>?_);clear hK K;refine wg 23 (.int .i64 (max (G fi ti) p)) rfl zH ?_;simp only [pq];refine wg 24 (.pointer (some ⟨r fi,ti,none⟩)) rfl zH ?_;simp only [pq];refine wpAnyH_ready (rs:=[25]) (by kernel_rfl) (by simp) ?_;refine AllReadyH.cons rfl (fun K hK=>?_) AllReadyH.nil;go_simp
     have HW:Hid (Lw w (X.drew.setCell ⟨r fi,ti,none⟩ (.int .i64 (max (G fi ti) p))) w.heap.size r k k (lwT E es (j+1))/\At (X.drew.setCell ⟨r fi,ti,none⟩ (.int .i64 (max (G fi ti) p))) ob #[.int .i64 (fi:Int),.int .i64 (ti:Int),.int .i64 xl,.int .i64 xd,.int .i8 xy]):=⟨by rw [HNx.out];exact (HX.out.1.next (drew_up _)).set hfn htn _,by
      have gg:So.Fr (So.One (r fi)) X.drew (X.drew.setCell ⟨r fi,ti,none⟩ (.int .i64 (max (G fi ti) p))):=(So.Fr.refl (So.One (r fi)) X.drew).setCell (.inr rfl) _ _;have ha:At X.drew ob #[.int .i64 (fi:Int),.int .i64 (ti:Int),.int .i64 xl,.int .i64 xd,.int .i8 xy]:=HX.out.2.1.below (drew_up _) HX.out.2.1.lt;have no:¬ So.One (r fi) ob:=fun e=>obn (by have e:ob=r fi:=e;exact e.symm);exact ⟨fun j v e=>by rw [gg.cell ha.lt no];exact ha.c j v e,fun j=>by rw [gg.frozen ha.lt no];exact ha.f j,Nat.lt_of_lt_of_le ha.lt gg.size⟩⟩
     refine hK.out _ _ ⟨HW.out.1.row fi hfn,HW.out.1.lt,HW.out.2⟩ (fun zH=>?_);clear hK K;refine wpAnyH_done (by kernel_rfl) ?_ _;clear zH;clear ck cf cl;go_wp2_with fail
     go_roundw
     case rel=>exact ⟨j+1,by omega,by go_num,HW.out.1⟩
     case measure=>simp [intOf];omega
    ·obtain rfl:j=M:=by omega
     have j1:¬ (j:Int)<(j:Int):=by omega
     have HF0:Hid (Lw w wz w.heap.size r k k (lw E es 0)):=by
      have h:=HZ.out;rw [<- HE.out.2.2.1,lwT_all] at h;exact h
     have HDi:Hid (∀ o,lw E es o o o<=0):=fun o=>by rw [lw_0 HE.out.2.2.2];omega
     have HSm:Hid (∀ o,o<=64->Sm 4260360 (lw E es o)):=fun o ho=>lw_sm HE.out.2.1 hE0 hE1 HE.out.2.2.2 ho;clear HZ HE;go_wp2_with fail
     go_loopw [71] (fun v wr=>∃ o:Nat,o<=k/\v=.int .i64 o/\Lw w wr w.heap.size r k k (lw E es o)) (fun v _=>k-(intOf v).toNat)
     case atStart=>exact ⟨0,by omega,rfl,HF0.out⟩
     case round=>
      rename World=>wo;obtain ⟨o,ho,rfl,hq⟩:=hrel;have HO:Hid (Lw w wo w.heap.size r k k (lw E es o)):=hq;clear hq HF0
      by_cases hot:o<k
      ·have o0:(0:Int)<=(o:Int):=by omega
       have o1:(o:Int)<(k:Int):=by omega
       have hdi:=HDi.out o;have hsm:=HSm.out o (by omega);have HNx:Hid (lw E es (o+1)=gOv (lw E es o) o):=rfl;have HI0:Hid (Lw w wo w.heap.size r k k (gTr (lw E es o) o 0 0)):=by
        have h:=HO.out;rw [<- gTr_0 (lw E es o) o] at h;exact h
       have a1:=HO.out.row o hot;have a2:=HO.out.lt;have HS:Hid (Sm 4260360 (lw E es o)):=hsm;clear hsm HO;generalize lw E es o=F at *;go_wp2_with fail
       clear a1 a2
       go_loopw [78] (fun v wr=>∃ i:Nat,i<=k/\v=.int .i64 i/\Lw w wr w.heap.size r k k (gTr F o i 0)) (fun v _=>k-(intOf v).toNat)
       case atStart=>exact ⟨0,by omega,rfl,HI0.out⟩
       case round=>
        rename World=>wi;obtain ⟨i,hi,rfl,hq⟩:=hrel;have HQ:Hid (Lw w wi w.heap.size r k k (gTr F o i 0)):=hq;clear hq HI0
        by_cases hit:i<k
        ·have i0:(0:Int)<=(i:Int):=by omega
         have i1:(i:Int)<(k:Int):=by omega
         have a1:=HQ.out.row i hit;have a2:=HQ.out.lt;have a3:=HQ.out.c i o hit hot;have a4:=HQ.out.rl i hit;rw [gTr_to hdi] at a3;have s2:=HS.out i o
         by_cases hik:F i o=noW
         ·have HN2:Hid (gTr F o i 0=gTr F o (i+1) 0):=gTr_skip F o i hik;rw [hik] at a3;clear hik s2;go_wp2_with fail
          go_roundw
          case rel=>exact ⟨i+1,by omega,by go_num,by rw [<- HN2.out];exact HQ.out⟩
          case measure=>simp [intOf];omega
         ·obtain ⟨p,hpx⟩:∃ p,F i o=p:=⟨_,rfl⟩;have HP:Hid (F i o=p):=hpx;rw [hpx] at a3 hik s2;have hb1:(p==noW)=false:=by simpa using hik
          go_wp2_with fail
          clear a1 a2 a3 a4 hb1
          go_loopw [89] (fun v wr=>∃ j:Nat,j<=k/\v=.int .i64 j/\Lw w wr w.heap.size r k k (gTr F o i j)) (fun v _=>k-(intOf v).toNat)
          case atStart=>exact ⟨0,by omega,rfl,HQ.out⟩
          case round=>
           rename World=>wj;obtain ⟨j,hj,rfl,hq⟩:=hrel;have HZ:Hid (Lw w wj w.heap.size r k k (gTr F o i j)):=hq;clear hq HQ
           by_cases hjt:j<k
           ·have j0:(0:Int)<=(j:Int):=by omega
            have j1:(j:Int)<(k:Int):=by omega
            have ck:=HZ.out.c o j hot hjt;rw [gTr_k hdi] at ck;have l1:=HZ.out.rl o hot
            by_cases hkj:F o j=noW
            ·have HN3:Hid (gTr F o i j=gTr F o i (j+1)):=gTr_no F o i j hkj;rw [hkj] at ck;clear hkj;go_wp2_with fail
             go_roundw
             case rel=>exact ⟨j+1,by omega,by go_num,by rw [<- HN3.out];exact HZ.out⟩
             case measure=>simp [intOf];omega
            ·have hv:gOv F o i j=max (F i j) (F i o+F o j):=gOv_yes fun c=>c.elim (fun e=>hik (by rw [<- hpx];exact e)) hkj;have s3:=HS.out o j;obtain ⟨y,hy⟩:∃ y,F o j=y:=⟨_,rfl⟩;rw [hy,HP.out] at hv;have HV:Hid (gOv F o i j=max (F i j) (p+y)):=hv;rw [hy] at ck hkj s3;have hb2:(y != (-9223372036854775808))=true:=by simpa using hkj
             have hwy:IntKind.i64.wrap (p+y)=p+y:=by
              rcases s2 with s2|s2
              ·exact absurd s2 hik
              ·rcases s3 with s3|s3
               ·exact absurd s3 hkj
               ·rw [IntKind.wrap_i64];omega
             clear hv hy;go_upto_region 24 with fail
             clear ck l1 hb2;refine wp_region_held_drew (S:=fun _=>True) (by kernel_rfl) trivial (fun zH=>?_);refine wg 0 (.slice (some ⟨r i,0,none⟩) k k) rfl zH ?_;simp only [pq];refine wg 1 (.int .i64 (j:Int)) rfl zH ?_;simp only [pq];refine wg 2 (.slice (some ⟨r i,0,none⟩) k k) rfl zH ?_;simp only [pq];refine wg 3 (.int .i64 (j:Int)) rfl zH ?_;simp only [pq];refine wg 4 (.pointer (some ⟨r i,j,none⟩)) rfl zH ?_;simp only [pq];refine wg 6 (.slice (some ⟨r i,0,none⟩) k k) rfl zH ?_;simp only [pq];refine wg 7 (.int .i64 (o:Int)) rfl zH ?_;simp only [pq];refine wg 8 (.pointer (some ⟨r i,o,none⟩)) rfl zH ?_;simp only [pq];refine wg 10 (.int .i64 y) rfl zH ?_;simp only [pq];have c5:=HZ.out.c i j hit hjt;have c9:=HZ.out.c i o hit hot;rw [gTr_at] at c5;rw [gTr_to hdi] at c9;rw [hpx] at c9;have cf:=HZ.out.f i j hit;have cl:=HZ.out.rl i hit;obtain ⟨g,hg⟩:∃ g,F i j=g:=⟨_,rfl⟩;rw [hg] at c5 HV;have HG:Hid (F i j=g):=hg;clear hg;refine wpAnyH_ready (rs:=[5,9]) (by kernel_rfl) (by simp) ?_;refine AllReadyH.cons rfl (fun K hK=>?_) (AllReadyH.cons rfl (fun K hK=>?_) AllReadyH.nil)
             ·go_simp
              refine hK.out _ _ trivial (fun zH=>?_);clear hK K;refine wpAnyH_ready (rs:=[9]) (by kernel_rfl) (by simp) ?_;refine AllReadyH.cons rfl (fun K hK=>?_) AllReadyH.nil;go_simp
              refine hK.out _ _ trivial (fun zH=>?_);clear hK K;refine wg 11 (.int .i64 (p+y)) rfl zH ?_;simp only [pq];refine wg 12 (.int .i64 (max g (p+y))) rfl zH ?_;simp only [pq];refine wg 13 (.pointer (some ⟨r i,j,none⟩)) rfl zH ?_;simp only [pq];refine wpAnyH_ready (rs:=[14]) (by kernel_rfl) (by simp) ?_;refine AllReadyH.cons rfl (fun K hK=>?_) AllReadyH.nil;go_simp
              refine hK.out _ _ trivial (fun zH=>?_);clear hK K;refine wpAnyH_done (by kernel_rfl) ?_ _;clear zH;clear c5 c9 cf cl;go_wp2_with fail
              go_roundw
              case rel=>exact ⟨j+1,by omega,by go_num,by have h:=(HZ.out.next (drew_up _)).set hit hjt (max g (p+y));rw [gTr_set F o i j _ HV.out] at h;exact h⟩
              case measure=>simp [intOf];omega
             ·go_simp
              refine hK.out _ _ trivial (fun zH=>?_);clear hK K;refine wg 11 (.int .i64 (p+y)) rfl zH ?_;simp only [pq];refine wpAnyH_ready (rs:=[5]) (by kernel_rfl) (by simp) ?_;refine AllReadyH.cons rfl (fun K hK=>?_) AllReadyH.nil;go_simp
              refine hK.out _ _ trivial (fun zH=>?_);clear hK K;refine wg 12 (.int .i64 (max g (p+y))) rfl zH ?_;simp only [pq];refine wg 13 (.pointer (some ⟨r i,j,none⟩)) rfl zH ?_;simp only [pq];refine wpAnyH_ready (rs:=[14]) (by kernel_rfl) (by simp) ?_;refine AllReadyH.cons rfl (fun K hK=>?_) AllReadyH.nil;go_simp
              refine hK.out _ _ trivial (fun zH=>?_);clear hK K;refine wpAnyH_done (by kernel_rfl) ?_ _;clear zH;clear c5 c9 cf cl;go_wp2_with fail
              go_roundw
              case rel=>exact ⟨j+1,by omega,by go_num,by have h:=(HZ.out.next (drew_up _)).set hit hjt (max g (p+y));rw [gTr_set F o i j _ HV.out] at h;exact h⟩
              case measure=>simp [intOf];omega
           ·obtain rfl:j=k:=by omega
            have j1:¬ (j:Int)<(j:Int):=by omega
            have HN4:Hid (Lw w wj w.heap.size r j j (gTr F o (i+1) 0)):=HZ.out.same fun x y hx hy=>gTr_next F o j i x y hx hy;clear HZ;go_wp2_with fail
            go_roundw
            case rel=>exact ⟨i+1,by omega,by go_num,HN4.out⟩
            case measure=>simp [intOf];omega
        ·obtain rfl:i=k:=by omega
         have i1:¬ (i:Int)<(i:Int):=by omega
         have HN5:Hid (Lw w wi w.heap.size r i i (lw E es (o+1))):=by
          rw [HNx.out];exact HQ.out.same fun x y hx hy=>gTr_n F o i x y hx hy
         clear HQ;go_wp2_with fail
         go_roundw
         case rel=>exact ⟨o+1,by omega,by go_num,HN5.out⟩
         case measure=>simp [intOf];omega
      ·obtain rfl:o=k:=by omega
       have o1:¬ (o:Int)<(o:Int):=by omega
       go_wp2_with fail
       go_ret
       exact ⟨w.heap.size,rfl,r,HO.out⟩
end Go.Proofs.YtiejdpjgplikjaaGreatDoor.Mo
