/- Parts Wb Wg. -/
import Derived.Shelf.Slices.Delete
import Derived.Test.YtiejdpjgplikjaaGreatDoorProg
import Derived.Test.YtiejdpjgplikjaaGreatDoorN01
import Derived.Test.YtiejdpjgplikjaaGreatDoorN14
import Derived.Test.YtiejdpjgplikjaaGreatDoorN15
import Derived.ScopeJumps
set_option maxRecDepth 20000
namespace Go.Proofs.YtiejdpjgplikjaaGreatDoor.Ls
open Go.ChangeShapes Go.WideShapes Go.ChangeAt Go.RowKit Go.Shelf
open YtiejdpjgplikjaaGreatDoor.So
def delRen:Go.Shelf.Ren:=⟨fun|23=>86|n=>n,fun|22=>27|n=>n,fun|n=>n⟩
theorem delLays:Go.Proofs.Lays2.n23 Tryz.prog delRen:={
 mixed:=by kernel_rfl
 f23:=Tryz.func86.trans (congrArg some (by kernel_rfl))
 t0:=Tryz.underlying0
 a0:=Tryz.isAgg0
 z0:=Tryz.sizeOf0
 v0:=Tryz.zeroValue0
 t3:=Tryz.underlying3
 a3:=Tryz.isAgg3
 z3:=Tryz.sizeOf3
 v3:=Tryz.zeroValue3
 t4:=Tryz.underlying4
 a4:=Tryz.isAgg4
 z4:=Tryz.sizeOf4
 v4:=Tryz.zeroValue4
 t22:=Tryz.underlying27
 a22:=Tryz.isAgg27
 z22:=Tryz.sizeOf27
 v22:=Tryz.zeroValue27
 i3:=by kernel_rfl }
structure Lf (w:World) (b:Nat) (L:List Nat):Prop where
 c:∀ (k:Nat) (h:k<L.length),w.cell? ⟨b,k,none⟩=some (.int .i64 (L[k]:Int))
 f:∀ k,w.frozen? ⟨b,k,none⟩=false
 lt:b<w.heap.size
theorem Lf.fr {X:Nat->Prop} {W W':World} {b:Nat} {L:List Nat} (a:Lf W b L) (g:Fr X W W') (hx:¬ X b):Lf W' b L:=
 ⟨fun k hk=>(g.cell a.lt hx k).trans (a.c k hk),fun k=>(g.frozen a.lt hx k).trans (a.f k),Nat.lt_of_lt_of_le a.lt g.size⟩
theorem putRow_fr (w:World) (q blk:Nat) (d:Array Int):Fr (One blk) w (Sort.putRow (Value.int .i64) (Sort.ahead w q) blk 0 d):=by
 refine ⟨rfl,rfl,rfl,by simp [Sort.ahead],fun k hk hx=>?_⟩;have hx:¬ k=blk:=hx;show (Sort.mapBlock (Sort.ahead w q) blk _).heap[k]?=_;simp only [Sort.mapBlock,Sort.ahead];rw [Array.getElem?_modify,if_neg (fun e=>hx e.symm)]
theorem frozen_putRow (w:World) (q blk:Nat) (d:Array Int) (k:Nat):(Sort.putRow (Value.int .i64) (Sort.ahead w q) blk 0 d).frozen? ⟨blk,k,none⟩=w.frozen? ⟨blk,k,none⟩:=Sort.frozen?_putRow _ _ _ _ _ _
theorem del_any (blk cap k:Nat) (L:List Nat) (w:World) (h:Lf w blk L) (hk:k<L.length) (hcap:L.length<=cap) (hm:cap<=1000000) :
  Calls Tryz.prog 86 #[.slice (some ⟨blk,0,none⟩) L.length cap,.int .i64 (k:Int),.int .i64 ((k:Int)+1)] w fun e w'=>e=.returned (.slice (some ⟨blk,0,none⟩) (L.length-1) cap)/\Fr (One blk) w w'/\Lf w' blk (L.eraseIdx k):=by
 have hH:Sort.Holds (Value.int .i64) w blk 0 (L.map Int.ofNat).toArray:=fun j hj=>by
  have hj':j<L.length:=by simpa using hj
  rw [Nat.zero_add];refine ⟨?_,h.f j⟩;rw [h.c j hj',getElem!_pos (L.map Int.ofNat).toArray j hj];simp
 have hc:=Any.slices_Delete_int delLays blk 0 cap k (k+1) (L.map Int.ofNat) w hH (by simpa using hcap) (by omega) (by omega) (by rw [List.length_map];omega);simp only [List.length_map,show k+1-k=1 by omega] at hc;have he:((k+1:Nat):Int)=(k:Int)+1:=by omega
 rw [he] at hc;refine hc.mono fun e w' h'=>?_;obtain ⟨rfl,q,rfl⟩:=h';have hsz:(List.take k (L.map Int.ofNat)++List.drop (k+1) (L.map Int.ofNat)++List.replicate 1 (0:Int)).toArray.size=(L.map Int.ofNat).toArray.size:=by simp;omega
 have hH2:=Sort.holds_putRow (Value.int .i64) (Sort.ahead w q) blk 0 _ _ (Sort.holds_ahead _ w q blk 0 _ hH) hsz;refine ⟨rfl,putRow_fr w q blk _,⟨fun j hj=>?_,fun j=>by rw [frozen_putRow];exact h.f j,by simpa [Sort.ahead] using h.lt⟩⟩;have hj2:j<L.length-1:=by rw [List.length_eraseIdx_of_lt hk] at hj;exact hj
 have h1:=(hH2 j (by rw [hsz];simp;omega)).1;rw [Nat.zero_add] at h1;rw [h1,getElem!_pos _ _ (by rw [hsz];simp;omega)]
 congr 1
 congr 1
 rw [List.getElem_toArray,List.getElem_append_left (by simp;omega),List.getElem_eraseIdx]
 by_cases hjk:j<k
 ·rw [List.getElem_append_left (by simp;omega)];simp [hjk]
 ·rw [List.getElem_append_right (by simp;omega)];have ej:k+1+(j-min k L.length)=j+1:=by omega
  simp [hjk,ej]
end Go.Proofs.YtiejdpjgplikjaaGreatDoor.Ls
namespace Go.Proofs.YtiejdpjgplikjaaGreatDoor.Ls
open Go.ChangeShapes Go.WideShapes Go.ChangeAt Go.RowKit
open YtiejdpjgplikjaaGreatDoor.Op YtiejdpjgplikjaaGreatDoor.So YtiejdpjgplikjaaGreatDoor.Dp YtiejdpjgplikjaaGreatDoor.ListWay
open YtiejdpjgplikjaaGreatDoor.Rv (RAt Few frB tkF tk_few take_any free_any evOk NwOut new_ok ftB tms tn addK fr_parts)
open YtiejdpjgplikjaaGreatDoor.Tb (Tab TabAt Bnds)
theorem wp_scope_label {P:Program} {Q:Exit->Act->World->Prop} {a:Act} {w:World} {b:Code} (l:Nat) (J:Act->World->Prop) (μ:Act->World->Nat) (h0:J a w)
  (pass:∀ a w,J a w->b.wp P (Exit.jump l (fun a' w'=>J a' w'/\μ a' w'<μ a w) Q) a w):(Code.scope ((Code.label l).seq b)).wp P Q a w:=
 wp_scope_jumps (rest:=Code.skip.seq b) l J μ (by simp [findLabel]) (wp_seq (wp_label (show b.wp P (Exit.jump l J Q) a w from wp_mono (pass a w h0) fun e a w h=>by
  cases e <;> first|exact h|exact ⟨h.1,h.2.1⟩))) fun a w h=>wp_seq (wp_skip (pass a w h))
def clN (xs:List O) (i:Nat):Nat:=match xs[i]? with|some o=>clD o.op|none=>0
theorem clN_at {xs:List O} {i:Nat} (h:i<xs.length):clN xs i=clD xs[i].op:=by unfold clN;rw [List.getElem?_eq_getElem h]
theorem clN_lt (xs:List O) (i:Nat):clN xs i<4:=by
 unfold clN
 split
 ·exact clD_lt _
 ·omega
def sysL (t:Tab) (xs:List O) (es:List Ed):ListWay.Sys:=⟨xs.length,clN xs,fun c=>(t.u c).toNat,fun c=>if c<4 then (t.b c).toNat else 1,es.map eg⟩
theorem sysL_ok {t:Tab} {xs:List O} {es:List Ed} (ht:t.ok=true) (hu:hvU t xs=true) (hE:EOk xs.length es):(sysL t xs es).Ok:=by
 refine ⟨fun i hi=>?_,fun c=>?_,fun e he=>?_⟩
 ·have hi:i<xs.length:=hi;show 1<=(t.u (clN xs i)).toNat;have h1:=hvU_all hu i hi;have h2:=Tb.inB_iff ((Tb.ok_parts ht).2 (clN xs i) (clN_lt xs i)).1;rw [clN_at hi] at h2 ⊢;omega
 ·show 1<=(if c<4 then (t.b c).toNat else 1)/\(if c<4 then (t.b c).toNat else 1)<=8
  by_cases hc:c<4
  ·rw [if_pos hc];have h2:=Tb.inB_iff ((Tb.ok_parts ht).2 c hc).2.2;omega
  ·rw [if_neg hc];omega
 ·obtain ⟨x,hx,rfl⟩:=List.mem_map.1 he;have h1:=hE.f0 x hx;have h2:=hE.ft x hx;have h3:=hE.tn x hx;have h4:=hE.l0 x hx;show x.f.toNat<x.t.toNat/\x.t.toNat<xs.length/\0<=x.l/\x.l<=8;omega
theorem sysL_b {t:Tab} {xs:List O} {es:List Ed} (i:Nat):(sysL t xs es).b ((sysL t xs es).cls i)=(t.b (clN xs i)).toNat:=by
 show (if clN xs i<4 then _ else _)=_;rw [if_pos (clN_lt xs i)];rfl
theorem tms_hits (first cyc:Int):∀ k,tms none first cyc k=hits first cyc k
 | 0=>rfl
 | k+1=>by
  show tms none first cyc k+(if first+(k:Int)=cyc then 1 else 0)=hits first cyc k+(if first+(k:Int)=cyc then 1 else 0)
  rw [tms_hits first cyc k]
theorem free_sys {t:Tab} {xs:List O} {es:List Ed} (ht:t.ok=true) (c:Nat->Int) (i:Nat) {y:Int} (h0:0<=y) (h1:y<=65536):frB t none (cntF (sysL t xs es) c) (clN xs i:Int) y=true↔Free (sysL t xs es) c i y:=by
 rw [<- free_all,sysL_b];have h2:=Tb.inB_iff ((Tb.ok_parts ht).2 (clN xs i) (clN_lt xs i)).1;have hc:=clN_lt xs i;have hu:(((sysL t xs es).u ((sysL t xs es).cls i):Nat):Int)=t.u (clN xs i):=by
  show (((t.u (clN xs i)).toNat : Nat):Int)=_;omega
 rw [hu];have e1:decide (0<=(clN xs i:Int))=true:=by simp
 have e2:decide ((clN xs i:Int)<=3)=true:=by simp;omega
 have e3:decide (0<=tn none y)=true:=decide_eq_true h0;have e4:decide (tn none y<=65536)=true:=decide_eq_true h1;unfold frB;rw [e1,e2,e3,e4];simp only [Bool.true_and,Int.toNat_natCast];unfold ftB;simp only [tms_hits];exact Iff.rfl
theorem take_sys {t:Tab} {xs:List O} {es:List Ed} {c:Nat->Int} {i:Nat} {y:Int} (hi:i<xs.length) (hc:c i<0) (hy:0<=y) (h:frB t none (cntF (sysL t xs es) c) (clN xs i:Int) y=true):tkF t none (cntF (sysL t xs es) c) (clN xs i:Int) y=cntF (sysL t xs es) (ListWay.upd c i y):=by
 rw [<- cntF_place (s:=sysL t xs es) hi hc hy,sysL_b];unfold tkF;rw [if_pos h];unfold addK;funext a b
 rw [Int.toNat_natCast];show (if a=(clN xs i:Int) then cntF (sysL t xs es) c a b+tms none y b _ else _)=_;rw [tms_hits];rfl
def cyF (c:Nat->Int):Nat->Int:=fun i=>if 0<=c i then c i else 0
theorem cyF_upd (c:Nat->Int) (i:Nat) {y:Int} (hy:0<=y):updI (cyF c) i y=cyF (ListWay.upd c i y):=by
 funext j
 unfold updI cyF ListWay.upd
 by_cases e:j=i
 ·rw [if_pos e,if_pos e,if_pos hy]
 ·rw [if_neg e,if_neg e]
theorem cyF_start:cyF (fun _=>-1)=fun _=>0:=by
 funext j
 unfold cyF;exact if_neg (by show ¬ (0:Int)≤-1;decide)
theorem frm_es (es:List Ed) (i:Nat):(frm es i).map eg=(es.map eg).filter fun e=>decide (e.f=i):=by
 unfold frm;rw [List.filter_map];rfl
theorem toN_ok (t:Tab) (xs:List O) (es:List Ed):WOk (sysL t xs es) (fun _=>-1) (toN es):=by
 have h:=WOk.start (sysL t xs es);have e:(fun i=>(((sysL t xs es).es.countP fun e=>decide (e.t=i):Nat):Int))=toN es:=by
  funext i
  show ((((es.map eg).countP fun e=>decide (e.t=i)):Nat):Int)=_;rw [List.countP_map];rfl
 rw [e] at h;exact h
structure Pz (w W:World) (d:Dt) (ao:Option Addr) (cap:Nat) (t:Tab) (xs:List O) (es:List Ed) (lb:Nat) (ord:List Nat) (c:Nat->Int):Prop where
 ex:∃ m Wt Ff,Wy w W d ao cap t xs es m (cntF (sysL t xs es) c) (cyF c) Wt Ff/\WOk (sysL t xs es) c Wt/\FOk (sysL t xs es) c Ff/\m<=4*placed (sysL t xs es) c
 fw:Few (cntF (sysL t xs es) c)
 lf:Lf W lb (lft ord c)
theorem Pz.next {w W W':World} {d:Dt} {ao:Option Addr} {cap:Nat} {t:Tab} {xs:List O} {es:List Ed} {lb:Nat} {ord:List Nat} {c:Nat->Int} (h:Pz w W d ao cap t xs es lb ord c) (g:Below W.heap.size W W'):Pz w W' d ao cap t xs es lb ord c:=by
 obtain ⟨m,Wt,Ff,h1,h2,h3,h4⟩:=h.ex;exact ⟨⟨m,Wt,Ff,h1.next g,h2,h3,h4⟩,h.fw,h.lf.fr (Fr.of (X:=Non) g) fun h=>h⟩
theorem FOk.in' {s:ListWay.Sys} {c F:Nat->Int} {y:Int} (ok:s.Ok) (hF:FOk s c F) (hv:Inv s c y) (i:Nat):0<=F i/\F i<=y+8:=by
 refine ⟨((hF i (F i)).1 (Int.le_refl _)).1,(hF i (y+8)).2 ⟨by have:=hv.y0;omega,fun e he _ _=>?_⟩⟩;have h1:=ok.ed e he;have h2:=hv.le e.f (by omega);omega
theorem Wy.rebase {w w1 W:World} {d:Dt} {ao:Option Addr} {cap:Nat} {t:Tab} {xs:List O} {es:List Ed} {m:Nat} {f:Int->Int->Int} {C Wt Ff:Nat->Int} (h:Wy w1 W d ao cap t xs es m f C Wt Ff) (hb:Below w.heap.size w w1) (ho:OpsAt w ao xs):Wy w W d ao cap t xs es m f C Wt Ff:=by
 have o:=h.ok
 have:=hb.size
 have:=o.r0
 have:=o.m0
 exact ⟨⟨by omega,by omega,o.rw,o.mw,o.wc,o.wt,o.wf,o.ct,o.cf,o.tf,o.ca,o.ta,o.fa⟩,hb.trans (h.up.mono hb.size),ho,h.at',h.ra,h.cy,h.wt,h.fs,h.af,h.al,h.rw⟩
theorem ask_is {t:Tab} {xs:List O} {es:List Ed} (ht:t.ok=true) {c Wt Ff:Nat->Int} (hW:WOk (sysL t xs es) c Wt) (hF:FOk (sysL t xs es) c Ff) (i:Nat) {y:Int} (h0:0<=y) (h1:y<=65536):((decide (Wt i=0)&&decide (Ff i<=y))&&frB t none (cntF (sysL t xs es) c) (clN xs i:Int) y)=rfB (sysL t xs es) c y i:=by
 rw [Bool.eq_iff_iff,rfB_iff,Bool.and_eq_true,Bool.and_eq_true,decide_eq_true_eq,decide_eq_true_eq,free_sys ht c i h0 h1,ready_is hW hF h0]
theorem Pz.step {w W w3 w4:World} {d:Dt} {ao:Option Addr} {cap:Nat} {t:Tab} {xs:List O} {es:List Ed} {lb:Nat} {ord:List Nat} {c Wt Ff:Nat->Int} {m m' k:Nat} {y:Int} (h:Pz w W d ao cap t xs es lb ord c) (hd:ord.Nodup) (ho:∀ i,i∈ord↔i<xs.length) (hlb:w.heap.size<=lb/\lb<d.rb/\lb<d.mb) (ht:t.ok=true)
  (hW:WOk (sysL t xs es) c Wt) (hF:FOk (sysL t xs es) c Ff) (hm:m<=4*placed (sysL t xs es) c) (hk:k<(lft ord c).length) (hy:0<=y) (hfr:frB t none (cntF (sysL t xs es) c) (clN xs (lft ord c)[k]:Int) y=true)
  (h3:Wy w w3 d ao cap t xs es m' (tkF t none (cntF (sysL t xs es) c) (clN xs (lft ord c)[k]:Int) y) (updI (cyF c) (lft ord c)[k] y) (plW ((frm es (lft ord c)[k]).map eg) Wt) (plF y ((frm es (lft ord c)[k]).map eg) Ff)) (hm':m'<=m+4)
  (g4:Fr (One lb) w3 w4) (l4:Lf w4 lb ((lft ord c).eraseIdx k)):Pz w w4 d ao cap t xs es lb ord (ListWay.upd c (lft ord c)[k] y):=by
 obtain ⟨h5,h6⟩:=lft_mem hk;have hi:(lft ord c)[k]<xs.length:=(ho _).1 h5;have l5:lft ord (ListWay.upd c (lft ord c)[k] y)=(lft ord c).eraseIdx k:=lft_place hd hk hy;obtain ⟨i,hie⟩:∃ i,(lft ord c)[k]=i:=⟨_,rfl⟩;rw [hie] at h3 h6 hi l5 hfr ⊢;have o:=h3.ok;have o1:=o.rw;have o2:=o.wc;have o3:=o.wt;have o4:=o.wf;have o5:=o.ca;have q:∀ b,lb<b->¬ b=lb:=fun b hb e=>by omega
 have h4:Wy w w4 d ao cap t xs es m' (cntF (sysL t xs es) (ListWay.upd c i y)) (cyF (ListWay.upd c i y)) (plW ((frm es i).map eg) Wt) (plF y ((frm es i).map eg) Ff):=by
  rw [<- take_sys hi h6 hy hfr,<- cyF_upd c i hy];refine h3.gen g4 (fun k hk=>?_) (raFr h3.ra g4 (q _ hlb.2.1) (q _ hlb.2.2)) (h3.cy.fr g4 (q _ (by omega))) (h3.wt.fr g4 (q _ (by omega))) (h3.fs.fr g4 (q _ (by omega)));have hk:k=lb:=hk;omega
 refine ⟨⟨m',_,_,h4,?_,?_,?_⟩,?_,by rw [l5];exact l4⟩
 ·rw [frm_es];exact hW.place h6 hy
 ·rw [frm_es];exact hF.place h6 hy
 ·rw [placed_upd hi h6 hy];omega
 ·rw [<- take_sys hi h6 hy hfr];exact tk_few h.fw ht _ _
end Go.Proofs.YtiejdpjgplikjaaGreatDoor.Ls
