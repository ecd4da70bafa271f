/- Parts Wk Wl Wm Jf. -/
import Derived.Test.YtcmlnemokckbdaaDoorN21
import Derived.Test.YtcmlnemokckbdaaDoorN22
import Derived.Test.YtcmlnemokckbdaaDoorN25
import Derived.Test.YtcmlnemokckbdaaDoorN18
import Derived.Test.YtcmlnemokckbdaaDoorN03
set_option maxRecDepth 20000
namespace Go.Proofs.YtcmlnemokckbdaaDoor.Ls
open Go.ChangeShapes Go.WideShapes Go.ChangeAt Go.RowKit
open YtcmlnemokckbdaaDoor.Op YtcmlnemokckbdaaDoor.So YtcmlnemokckbdaaDoor.Dp YtcmlnemokckbdaaDoor.ListWay
open YtcmlnemokckbdaaDoor.Tb (Tab TabAt Bnds)
def f3 (x y z:Int):Nat->Int:=fun k=>if k=0 then x else if k=1 then y else z

end Go.Proofs.YtcmlnemokckbdaaDoor.Ls
namespace Go.Proofs.YtcmlnemokckbdaaDoor.Ls
open Go.ChangeShapes Go.WideShapes Go.ChangeAt Go.RowKit
open YtcmlnemokckbdaaDoor.Op YtcmlnemokckbdaaDoor.So YtcmlnemokckbdaaDoor.Dp YtcmlnemokckbdaaDoor.ListWay
open YtcmlnemokckbdaaDoor.Rv (frB)
open YtcmlnemokckbdaaDoor.Tb (Tab TabAt Bnds)
structure Lo (w W:World) (t:Tab) (hb n:Nat) (c:Nat->Int) (ea:Option Addr) (ec:Nat) (es:List Ed):Prop where
 t:TabAt W w.heap.size t
 up:Below w.heap.size w W
 ir:Ir W hb n c
 eo:EOwn w.heap.size W ea ec es
theorem Lo.next {w W W':World} {t:Tab} {hb n:Nat} {c:Nat->Int} {ea:Option Addr} {ec:Nat} {es:List Ed} (h:Lo w W t hb n c ea ec es) (g:Below W.heap.size W W'):Lo w W' t hb n c ea ec es:=⟨h.t.below g h.t.lt,h.up.trans (g.mono h.up.size),h.ir.up g,row_up h.eo g⟩
theorem Lo.drewN {w W:World} {t:Tab} {hb n k:Nat} {c:Nat->Int} {ea:Option Addr} {ec:Nat} {es:List Ed} (h:Lo w W t hb n c ea ec es):Lo w (W.drewN k) t hb n c ea ec es:=h.next ⟨rfl,rfl,rfl,Nat.le_refl _,fun _ _=>rfl⟩
theorem ckB_cyL {t:Tab} {xs:List O} (hok':∀ o∈xs,o.Ok) (he:lisE t xs=0) (hu:hvU t xs=true):ckB t xs xs.length (cyL t xs)=true:=by
 obtain ⟨h1,h2,h3,-⟩:=cyL_is hok' he hu;have hn:=(lis_all he).2.1;have ht:=(lis_all he).1;have a1:arC xs.length (cyL t xs)=true:=(arC_yes fun k hk=>by have:=h1 k hk;omega).symm;have a2:kpE (ofE t xs) (cyL t xs)=true:=(kpE_yes fun k hk=>h2 (eg (ofE t xs)[k]) (List.mem_map.2 ⟨_,List.getElem_mem hk,rfl⟩)).symm;have a3:kpU t xs (cyL t xs)=true:=by
  refine (kpU_yes fun k hk=>?_).symm;have hb:=h1 k hk;refine (free_sys ht _ k (by omega) (by omega)).2 ?_;exact units_taken (s:=sysL t xs []) (c:=cyL t xs) (fun i hi=>(h1 i hi).1) (fun i hi z=>h3 i hi z) hk
 unfold ckB;rw [a1,a2,a3,hu];simp [he]
theorem cy_nl {W:World} {t:Tab} {xs:List O} {hb:Nat} (hok':∀ o∈xs,o.Ok) (he:lisE t xs=0) (hu:hvU t xs=true) (h:Ir W hb xs.length (cyL t xs)):Nl W (some ⟨hb,0,none⟩) xs.length (cyL t xs):=Nl.of h fun k hk=>by
 have:=(cyL_is hok' he hu).1 k hk
 have:=(lis_all he).2.1
 omega
end Go.Proofs.YtcmlnemokckbdaaDoor.Ls
namespace Go.Proofs.YtcmlnemokckbdaaDoor.Dl
open Go.ChangeShapes Go.WideShapes Go.ChangeAt Go.RowKit Go.Great
open YtcmlnemokckbdaaDoor.Op YtcmlnemokckbdaaDoor.So YtcmlnemokckbdaaDoor.Dp YtcmlnemokckbdaaDoor.Ls
open YtcmlnemokckbdaaDoor.Tb (Tab TabAt Bnds)
theorem clV_clD:∀ n:Nat,n<18->1<=(n:Int)->clV (n:Int)=(clD (n:Int):Int)/\clB (n:Int)=true:=by decide
theorem okL_op {o:O} (h:okL o=true):1<=o.op/\o.op<=17/\okO o=true:=by
 simp only [okL,Bool.and_eq_true,decide_eq_true_eq] at h;exact ⟨h.1.1,h.1.2,h.2⟩
theorem clV_D {o:O} (h:okL o=true):clV o.op=(clD o.op:Int):=by
 obtain ⟨h1,h2,_⟩:=okL_op h;have e:((o.op.toNat : Nat):Int)=o.op:=by omega
 rw [<- e];exact (clV_clD o.op.toNat (by omega) (by omega)).1
theorem kD:∀ n:Nat,n<18->1<=(n:Int)->∀ k,kOf (n:Int)=some k->k.D=decide ((n:Int)<=15):=by decide
theorem wrB_L {o:O} (h:okL o=true):wrB o=decide (o.op<=15):=by
 obtain ⟨h1,h2,h3⟩:=okL_op h;have e:((o.op.toNat : Nat):Int)=o.op:=by omega
 cases hk:kOf o.op with
 | none=>rw [okO_none hk] at h3;cases h3
 | some k=>
  rw [wr_yes hk (by rw [<- okO_some hk];exact h3)];rw [<- e] at hk ⊢;exact kD o.op.toNat (by omega) (by omega) k hk
theorem sh_and:∀ d:Nat,d<32->(bits BinOp.and IntKind.u32 (sh (d:Int)) (sh (d:Int)) != 0)=true:=by decide
theorem ptL_at {t:Tab} {o:O} (h:okL o=true) (h15:o.op<=15):(ptL t o).w=sh o.d/\(ptL t o).l=t.l (clD o.op):=by
 obtain ⟨h1,h2,h3⟩:=okL_op h;unfold ptL
 cases hk:kOf o.op with
 | none=>rw [okO_none hk] at h3;cases h3
 | some k=>
  show (if wrB o then sh o.d else 0)=sh o.d/\t.l (clV o.op).toNat = _;rw [wrB_L h,if_pos (by simpa using h15),clV_D h];exact ⟨rfl,by rw [Int.toNat_natCast]⟩
theorem out_edge {t:Tab} {xs:List O} {i j:Nat} (hij:i<j) (hj:j<xs.length) (hok:∀ o∈xs,o.Ok) (hL:∀ o∈xs,okL o=true) (wi:xs[i].op<=15) (wj:xs[j].op<=15) (hd:xs[i].d=xs[j].d):(⟨i,j,max 0 (t.l (clD xs[i].op)-t.l (clD xs[j].op)+1),0,2⟩:Ed)∈ofE t xs:=by
 have hi:i<xs.length:=by omega
 have pl:(ptsL t xs).length=xs.length:=by simp [ptsL]
 have pi:pAt (ptsL t xs) i=ptL t xs[i]:=by rw [pAt_at (by rw [pl];exact hi)];simp [ptsL]
 have pj:pAt (ptsL t xs) j=ptL t xs[j]:=by rw [pAt_at (by rw [pl];exact hj)];simp [ptsL]
 have mi:=List.getElem_mem hi;have mj:=List.getElem_mem hj;obtain ⟨d0,d1⟩:=d_in (hok _ mj) (hL _ mj) wj;obtain ⟨aw,al⟩:=ptL_at (t:=t) (hL _ mi) wi;obtain ⟨bw,bl⟩:=ptL_at (t:=t) (hL _ mj) wj;unfold ofE withinE;refine cat_mem.2 ⟨j,hj,?_⟩;unfold rowW;refine cat_mem.2 ⟨i,hij,?_⟩;unfold pairE edL;rw [pi,pj];refine List.mem_flatMap.2 ⟨⟨2,(bits BinOp.and IntKind.u32 (ptL t xs[i]).w (ptL t xs[j]).w != 0),max 0 ((ptL t xs[i]).l-(ptL t xs[j]).l+1)⟩,by unfold rowsP;simp,?_⟩;have hb:(bits BinOp.and IntKind.u32 (ptL t xs[i]).w (ptL t xs[j]).w != 0)=true:=by
  rw [aw,bw,hd];have e:((xs[j].d.toNat : Nat):Int)=xs[j].d:=by omega
  rw [<- e];exact sh_and _ (by omega)
 rw [if_pos hb,al,bl];exact List.mem_singleton.2 rfl
theorem out_kept {t:Tab} {xs:List O} {g:Nat->Int} {i j:Nat} (hk:kpE (ofE t xs) g=true) (hij:i<j) (hj:j<xs.length) (hok:∀ o∈xs,o.Ok) (hL:∀ o∈xs,okL o=true) (wi:xs[i].op<=15) (wj:xs[j].op<=15) (hd:xs[i].d=xs[j].d):laI t xs g i<=laI t xs g j:=by
 have h:=List.all_eq_true.1 hk _ (out_edge (t:=t) hij hj hok hL wi wj hd);simp only [decide_eq_true_eq,Int.toNat_natCast] at h;unfold laI;rw [oAt_at (by omega),oAt_at hj];omega
theorem ln_last {t:Tab} {xs:List O} {g:Nat->Int} (hk:kpE (ofE t xs) g=true) (hok:∀ o∈xs,o.Ok) (hL:∀ o∈xs,okL o=true) (r:Nat):∀ n,n<=xs.length->∀ (i:Nat) (hi:i<xs.length),i<n->xs[i].op<=15->xs[i].d=r->laI t xs g i<=lnI t xs g n r
 | 0,_,_,_,h,_,_=>by omega
 | n+1,hn,i,hi,h,wi,hd=>by
  have hn':n<xs.length:=by omega
  show laI t xs g i<=(if (oAt xs n).op<=15 then updI (lnI t xs g n) (oAt xs n).d.toNat (laI t xs g n) else lnI t xs g n) r;rw [oAt_at hn']
  by_cases e:i=n
  ·subst e;rw [if_pos wi];unfold updI;rw [if_pos (by rw [hd];rfl)];exact Int.le_refl _
  ·have ih:=ln_last hk hok hL r n (by omega) i hi (by omega) wi hd
   by_cases wn:xs[n].op<=15
   ·rw [if_pos wn];unfold updI
    by_cases er:r=xs[n].d.toNat
    ·rw [if_pos er];obtain ⟨d0,d1⟩:=d_in (hok _ (List.getElem_mem hn')) (hL _ (List.getElem_mem hn')) wn;exact out_kept hk (by omega) hn' hok hL wi wn (by rw [hd];omega)
    ·rw [if_neg er];exact ih
   ·rw [if_neg wn];exact ih
theorem dr_last {t:Tab} {xs:List O} {g:Nat->Int} : ∀ (n i:Nat),i<n->laI t xs g i<=drI t xs g n/\frI t xs g i<=drI t xs g n/\laI t xs g i<=rsI t xs g n
 | 0,_,h=>by omega
 | n+1,i,h=>by
  simp only [drI,rsI]
  by_cases e:i=n
  ·subst e;omega
  ·have:=dr_last (t:=t) (xs:=xs) (g:=g) n i (by omega);omega
end Go.Proofs.YtcmlnemokckbdaaDoor.Dl
