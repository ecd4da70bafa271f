/- Parts QDc Yg Yh Yi Ys Yj. -/
import Derived.Test.YtcmlnemokckbdaaGreatDoorN36
import Derived.Test.YtcmlnemokckbdaaGreatDoorN24
import Derived.Test.YtcmlnemokckbdaaGreatDoorN31
import Derived.Test.YtcmlnemokckbdaaGreatDoorN32
import Derived.Test.YtcmlnemokckbdaaGreatDoorN22
import Derived.Test.YtcmlnemokckbdaaGreatDoorN23
import Derived.Deep.RegionHeld3
set_option maxRecDepth 20000
namespace Go.Proofs.YtcmlnemokckbdaaGreatDoor.L8.Li
open Go.ChangeShapes Go.WideShapes Go.ChangeAt Go.RowKit
open YtcmlnemokckbdaaGreatDoor.L8.So YtcmlnemokckbdaaGreatDoor.L8.Op YtcmlnemokckbdaaGreatDoor.L8.Fl YtcmlnemokckbdaaGreatDoor.L8.Lv
structure D2 (w wr:World) (ao:Option Addr) (cap:Nat) (ps:List Bk) (bI:Nat) (xs:List Nat):Prop where
 q:Bw w wr ao cap ps
 hI:w.heap.size<bI
 u:Op.At wr bI (uc xs)
 so:So (PB ps) xs
theorem D2.xl {w wr:World} {ao:Option Addr} {cap:Nat} {ps:List Bk} {bI:Nat} {xs:List Nat} (h:D2 w wr ao cap ps bI xs):xs.length=ps.length:=by rw [h.so.len];simp
theorem D2.up {w wr w':World} {ao:Option Addr} {cap:Nat} {ps:List Bk} {bI:Nat} {xs:List Nat} (h:D2 w wr ao cap ps bI xs) (hb:Below wr.heap.size wr w'):D2 w w' ao cap ps bI xs:=⟨h.q.up hb,h.hI,h.u.below hb h.u.lt,h.so⟩
theorem D2.set {w wr:World} {ao:Option Addr} {cap:Nat} {ps:List Bk} {bI g:Nat} {xs:List Nat} (h:D2 w wr ao cap ps bI xs) (hs:∀ (i:Nat) k,(PB ps)[i]?=some k->SmallB k) (hg:g<ps.length):D2 w (wr.setCell ⟨bI,g,none⟩ (.int .u32 ((inN xs g ||| intoN (bOf ps[g]) xs:Nat):Int))) ao cap ps bI (xs.set g (inN xs g ||| intoN (bOf ps[g]) xs)):=by
 have hx:=h.xl;have hI:=h.hI;refine ⟨⟨at_fr h.q.a ((Fr.refl (One bI) wr).setCell (Or.inr rfl) _ _) (fun e=>?_),?_⟩,hI,?_,h.so.put (pb_at hg) (hs g _ (pb_at hg))⟩
 ·have e:w.heap.size=bI:=e;omega
 ·exact ((Fr.of (X:=Non) h.q.b).setCell (Or.inl (by omega)) _ _).non
 ·rw [<- uc_set];exact h.u.set (by rw [uc_size];omega) _
theorem D2.start {w w1:World} {ao:Option Addr} {cap:Nat} {ps:List Bk} (h:Bw w w1 ao cap ps) (t:TypeId):D2 w (w1.alloc (.cells (madeCells #[.int .u32 0] ps.length) t)) ao cap ps w1.heap.size (List.replicate ps.length 0):=by
 refine ⟨h.up (below_al _),h.a.lt,?_,?_⟩
 ·rw [uc_made];exact Op.At.new _ _ _
 ·have:=So.init (PB ps)
  simpa using this
theorem left_step {ps:List Bk} {xs:List Nat} {g:Nat} (hs:∀ (i:Nat) k,(PB ps)[i]?=some k->SmallB k) (hf:Fit xs) (hg:g<ps.length) (hx:xs.length=ps.length):left (xs.set g (inN xs g ||| intoN (bOf ps[g]) xs))<=left xs/\(inN xs g ||| intoN (bOf ps[g]) xs≠inN xs g->left (xs.set g (inN xs g ||| intoN (bOf ps[g]) xs))<left xs):=by
 have key:inN xs g ||| intoN (bOf ps[g]) xs≠inN xs g->left (xs.set g (inN xs g ||| intoN (bOf ps[g]) xs))<left xs:=fun hne=>by
  refine left_set (by omega) ?_ (Nat.or_lt_two_pow (n:=32) (hf g) (intoN_lt (hs g _ (pb_at hg)) hf))
  have:=grow_lt hne
  rw [<- inN_eq (by omega:g<xs.length)];exact this
 refine ⟨?_,key⟩
 by_cases e:inN xs g ||| intoN (bOf ps[g]) xs=inN xs g
 ·rw [e,inN_eq (by omega),List.set_getElem_self];exact Nat.le_refl _
 ·exact Nat.le_of_lt (key e)
structure D3 (ps:List Bk) (xs0 xs:List Nat) (grown:Bool) (k:Nat):Prop where
 r:Rnd (PB ps) xs grown k
 le:left xs<=left xs0
 lt:grown=true->left xs<left xs0
theorem D3.step {ps:List Bk} {xs0 xs:List Nat} {grown:Bool} {g:Nat} (h:D3 ps xs0 xs grown (g+1)) (hs:∀ (i:Nat) k,(PB ps)[i]?=some k->SmallB k) (hf:Fit xs) (hg:g<ps.length) (hx:xs.length=ps.length) :
  D3 ps xs0 (xs.set g (inN xs g ||| intoN (bOf ps[g]) xs)) (grown || (inN xs g ||| intoN (bOf ps[g]) xs) != inN xs g) g:=by
 obtain ⟨h1,h2⟩:=left_step hs hf hg hx;refine ⟨h.r.step (pb_at hg) (by omega),Nat.le_trans h1 h.le,fun hn=>?_⟩;rw [Bool.or_eq_true] at hn;rcases hn with hn|hn
 ·exact Nat.lt_of_le_of_lt h1 (h.lt hn)
 ·exact Nat.lt_of_lt_of_le (h2 (by simpa using hn)) h.le
end Go.Proofs.YtcmlnemokckbdaaGreatDoor.L8.Li
namespace Go.Proofs.YtcmlnemokckbdaaGreatDoor.L8.El
open Go.ChangeShapes Go.WideShapes Go.ChangeAt Go.RowKit
open YtcmlnemokckbdaaGreatDoor.L8.Op YtcmlnemokckbdaaGreatDoor.L8.Fl YtcmlnemokckbdaaGreatDoor.L8.Li
open YtcmlnemokckbdaaGreatDoor.L8.Lv (inN pow32)


theorem laB_yes {ps:List Bk} {x:Bk} {k:Int} (h:laB ps x k=true):x.fin=1/\x.thn≠0/\x.thn≠x.els/\x.thn≠k/\(aheadL ps x.thn).length=1:=by
 unfold laB at h;simp only [Bool.and_eq_true,decide_eq_true_eq,Bool.not_eq_true',decide_eq_false_iff_not] at h;obtain ⟨⟨⟨⟨h1,h2⟩,h3⟩,h4⟩,h5⟩:=h;exact ⟨h1,h2,h3,h4,by rw [h5];rfl⟩
structure Ez (w W:World) (v:Value) (xb:Nat) (cs:Array Value) (a:Option Addr) (c j:Nat):Prop where
 e:Ey w W v a c j
 r:W.ownsRow (xb+1) 3 1 (.slice a j c) j ((List.range j).map fun (i:Nat)=>Value.int .i64 (i:Int))
 b:At W xb cs
 lt:w.heap.size<xb
theorem Ez.next {w W W':World} {v:Value} {xb:Nat} {cs:Array Value} {a:Option Addr} {c j:Nat} (h:Ez w W v xb cs a c j) (g:Below W.heap.size W W'):Ez w W' v xb cs a c j:=⟨h.e.next g,row_upE h.r g,h.b.below g h.b.lt,h.lt⟩
theorem row_less {w:World} {B C:Nat} {e:TypeId} {z:Nat} {v:Value} {n:Nat} {xs:List Value} (h:w.ownsRow B e z v n xs) (hb:C<=B):w.ownsRow C e z v n xs:=by
 refine ⟨h.1,h.2.imp id ?_⟩;rintro ⟨b,cap,cur,rfl,h2,h3,h4⟩;exact ⟨b,cap,cur,rfl,by omega,h3,h4⟩
theorem Ez.add {w X w4:World} {v:Value} {xb:Nat} {cs:Array Value} {a:Option Addr} {c g cap j:Nat} {o:Obj} (s:Ez w X v xb cs a c j) (hgrow:(X.alloc o).grownBy w4 (Value.slice a j c).ownBlock) (hown:w4.ownsRow (xb+1) 3 1 (.slice (some ⟨g,0,none⟩) (j+1) cap) (j+1) (((List.range j).map fun (i:Nat)=>Value.int .i64 (i:Int))++[.int .i64 (j:Int)])):Ez w w4 v xb cs (some ⟨g,0,none⟩) cap (j+1):=by
 have n2:=s.next ((Below.refl _ _).alloc (Nat.le_refl _) o);have hl:=n2.b.lt;have hlt:=s.lt;have B:Below (xb+1) (X.alloc o) w4:=⟨hgrow.os,hgrow.tape,hgrow.output,hgrow.size,fun k hk=>hgrow.block k (Nat.lt_of_lt_of_le hk hl) fun e=>by
  have:=(n2.r.lt k e.symm).1
  omega⟩
 refine ⟨n2.e.add hgrow (row_less hown (by omega)),?_,n2.b.below B (by omega),s.lt⟩;rw [List.range_succ,List.map_append];exact hown
end Go.Proofs.YtcmlnemokckbdaaGreatDoor.L8.El
namespace Go.Proofs.YtcmlnemokckbdaaGreatDoor.Ls
open Go.ChangeShapes Go.WideShapes Go.ChangeAt Go.RowKit
open YtcmlnemokckbdaaGreatDoor.Op YtcmlnemokckbdaaGreatDoor.So YtcmlnemokckbdaaGreatDoor.Dp

end Go.Proofs.YtcmlnemokckbdaaGreatDoor.Ls
namespace Go.Proofs.YtcmlnemokckbdaaGreatDoor.L8.El
open Go.ChangeShapes Go.WideShapes Go.ChangeAt Go.RowKit
open YtcmlnemokckbdaaGreatDoor.L8.So YtcmlnemokckbdaaGreatDoor.L8.Op YtcmlnemokckbdaaGreatDoor.L8.Fl YtcmlnemokckbdaaGreatDoor.L8.Li
open YtcmlnemokckbdaaGreatDoor.L8.Lv (inN pow32 psOk_of)
def earR (ps:List Bk) (I:List Nat) (b:Int):List Int:=if ckP ps=0/\0<=b/\b<ps.length then earL ps I b.toNat (ps.getD b.toNat bk0) else []
theorem earR_in {ps:List Bk} {I:List Nat} {k:Nat} (hc:ckP ps=0) (hk:k<ps.length):earR ps I (k:Int)=earL ps I k ps[k]:=by
 unfold earR;rw [if_pos ⟨hc,by omega,by omega⟩];simp [List.getD_eq_getElem?_getD,hk]
theorem earR_out {ps:List Bk} {I:List Nat} {b:Int} (h:¬ (ckP ps=0/\0<=b/\b<ps.length)):earR ps I b=[]:=by
 unfold earR;rw [if_neg h]
theorem out_cases {ps:List Bk} {b:Int} (h:¬ (ckP ps=0/\0<=b/\b<ps.length)):ckP ps≠0\/b<0\/(ps.length:Int)<=b:=by
 by_cases hc:ckP ps=0
 ·refine .inr ?_
  by_cases h0:b<0
  ·exact .inl h0
  ·exact .inr (by omega)
 ·exact .inl hc
theorem early_all (I:List Nat) (ao:Option Addr) (cap:Nat) (ps:List Bk) (b:Int) (w:World) (hI:InIs ps I) (h:PAt w ao ps) (he:Env w) :
  Calls Tryz.prog 16 #[.agg #[.slice ao ps.length cap],.int .i64 b] w fun e w'=>∃ v,e=.returned v/\Got w w' v (earR ps I b):=by
 by_cases hr:ckP ps=0/\0<=b/\b<ps.length
 ·obtain ⟨hc,h0,h1⟩:=hr;obtain ⟨k,rfl⟩:=Int.eq_ofNat_of_zero_le h0;have hk:k<ps.length:=by omega
  rw [earR_in hc hk];exact early_some I ao cap ps k hk w hI h he hc
 ·rw [earR_out hr];exact (early_none ao cap ps b w h he (out_cases hr)).mono fun e w' ⟨h1,h2⟩=>⟨_,h1,got_nil h2⟩
theorem len_le {ps:List Bk} (hc:ckP ps=0):ps.length<=8192:=Nat.le_trans (good_of hc).le (by decide)
structure Wz (w V:World) (ao a:Option Addr) (cap c q:Nat) (ps:List Bk):Prop where
 x:Bw w V ao cap ps
 m:At V q #[.slice a ps.length c]
 p:PAt V a ps
theorem Wz.up {w V V':World} {ao a:Option Addr} {cap c q:Nat} {ps:List Bk} (h:Wz w V ao a cap c q ps) (hb:Below V.heap.size V V'):Wz w V' ao a cap c q ps:=⟨h.x.up hb,h.m.below hb h.m.lt,h.p.below hb⟩
theorem Wz.s {w V:World} {ao a:Option Addr} {cap c q:Nat} {ps:List Bk} (h:Wz w V ao a cap c q ps):V.cell? ⟨w.heap.size,0,none⟩=some (.slice ao ps.length cap)/\V.cell? ⟨q,0,none⟩=some (.slice a ps.length c):=⟨h.x.cell,h.m.c 0 _ rfl⟩
end Go.Proofs.YtcmlnemokckbdaaGreatDoor.L8.El
