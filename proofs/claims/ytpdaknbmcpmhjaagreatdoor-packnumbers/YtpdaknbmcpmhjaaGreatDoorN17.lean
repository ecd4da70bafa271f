/- Parts Wb Wg Wh. -/
import Derived.Shelf.Slices.Delete
import Derived.Test.YtpdaknbmcpmhjaaGreatDoorProg
import Derived.Test.YtpdaknbmcpmhjaaGreatDoorN01
import Derived.Test.YtpdaknbmcpmhjaaGreatDoorN15
import Derived.Test.YtpdaknbmcpmhjaaGreatDoorN16
import Derived.ScopeJumps
import Derived.WalkMore
set_option maxRecDepth 20000
set_option maxHeartbeats 32000000
namespace Go.Proofs.YtpdaknbmcpmhjaaGreatDoor.Ls
open Go.ChangeShapes Go.WideShapes Go.ChangeAt Go.RowKit Go.Shelf
open YtpdaknbmcpmhjaaGreatDoor.So
def delRen:Go.Shelf.Ren:=⟨fun|23=>161|n=>n,fun|22=>48|n=>n,fun|n=>n⟩
theorem delLays:Go.Proofs.Lays2.n23 Tryz.prog delRen:={
 mixed:=by kernel_rfl
 f23:=Tryz.func161.trans (congrArg some (by kernel_rfl))
 t0:=Tryz.underlying0
 a0:=Tryz.isAgg0
 z0:=Tryz.sizeOf0
 v0:=Tryz.zeroValue0
 t3:=Tryz.underlying3
 a3:=Tryz.isAgg3
 z3:=Tryz.sizeOf3
 v3:=Tryz.zeroValue3
 t4:=Tryz.underlying4
 a4:=Tryz.isAgg4
 z4:=Tryz.sizeOf4
 v4:=Tryz.zeroValue4
 t22:=Tryz.underlying48
 a22:=Tryz.isAgg48
 z22:=Tryz.sizeOf48
 v22:=Tryz.zeroValue48
 i3:=by kernel_rfl }
structure Lf (w:World) (b:Nat) (L:List Nat):Prop where
 c:∀ (k:Nat) (h:k<L.length),w.cell? ⟨b,k,none⟩=some (.int .i64 (L[k]:Int))
 f:∀ k,w.frozen? ⟨b,k,none⟩=false
 lt:b<w.heap.size
theorem Lf.fr {X:Nat->Prop} {W W':World} {b:Nat} {L:List Nat} (a:Lf W b L) (g:Fr X W W') (hx:¬ X b):Lf W' b L:=
 ⟨fun k hk=>(g.cell a.lt hx k).trans (a.c k hk),fun k=>(g.frozen a.lt hx k).trans (a.f k),Nat.lt_of_lt_of_le a.lt g.size⟩
theorem putRow_fr (w:World) (q blk:Nat) (d:Array Int):Fr (One blk) w (Sort.putRow (Value.int .i64) (Sort.ahead w q) blk 0 d):=by
 refine ⟨rfl,rfl,rfl,by simp [Sort.ahead],fun k hk hx=>?_⟩;have hx:¬ k=blk:=hx;show (Sort.mapBlock (Sort.ahead w q) blk _).heap[k]?=_;simp only [Sort.mapBlock,Sort.ahead];rw [Array.getElem?_modify,if_neg (fun e=>hx e.symm)]
theorem frozen_putRow (w:World) (q blk:Nat) (d:Array Int) (k:Nat):(Sort.putRow (Value.int .i64) (Sort.ahead w q) blk 0 d).frozen? ⟨blk,k,none⟩=w.frozen? ⟨blk,k,none⟩:=Sort.frozen?_putRow _ _ _ _ _ _
theorem del_any (blk cap k:Nat) (L:List Nat) (w:World) (h:Lf w blk L) (hk:k<L.length) (hcap:L.length<=cap) (hm:cap<=1000000) :
  Calls Tryz.prog 161 #[.slice (some ⟨blk,0,none⟩) L.length cap,.int .i64 (k:Int),.int .i64 ((k:Int)+1)] w fun e w'=>e=.returned (.slice (some ⟨blk,0,none⟩) (L.length-1) cap)/\Fr (One blk) w w'/\Lf w' blk (L.eraseIdx k):=by
 have hH:Sort.Holds (Value.int .i64) w blk 0 (L.map Int.ofNat).toArray:=fun j hj=>by
  have hj':j<L.length:=by simpa using hj
  rw [Nat.zero_add];refine ⟨?_,h.f j⟩;rw [h.c j hj',getElem!_pos (L.map Int.ofNat).toArray j hj];simp
 have hc:=Any.slices_Delete_int delLays blk 0 cap k (k+1) (L.map Int.ofNat) w hH (by simpa using hcap) (by omega) (by omega) (by rw [List.length_map];omega);simp only [List.length_map,show k+1-k=1 by omega] at hc;have he:((k+1:Nat):Int)=(k:Int)+1:=by omega
 rw [he] at hc;refine hc.mono fun e w' h'=>?_;obtain ⟨rfl,q,rfl⟩:=h';have hsz:(List.take k (L.map Int.ofNat)++List.drop (k+1) (L.map Int.ofNat)++List.replicate 1 (0:Int)).toArray.size=(L.map Int.ofNat).toArray.size:=by simp;omega
 have hH2:=Sort.holds_putRow (Value.int .i64) (Sort.ahead w q) blk 0 _ _ (Sort.holds_ahead _ w q blk 0 _ hH) hsz;refine ⟨rfl,putRow_fr w q blk _,⟨fun j hj=>?_,fun j=>by rw [frozen_putRow];exact h.f j,by simpa [Sort.ahead] using h.lt⟩⟩;have hj2:j<L.length-1:=by rw [List.length_eraseIdx_of_lt hk] at hj;exact hj
 have h1:=(hH2 j (by rw [hsz];simp;omega)).1;rw [Nat.zero_add] at h1;rw [h1,getElem!_pos _ _ (by rw [hsz];simp;omega)]
 congr 1
 congr 1
 rw [List.getElem_toArray,List.getElem_append_left (by simp;omega),List.getElem_eraseIdx]
 by_cases hjk:j<k
 ·rw [List.getElem_append_left (by simp;omega)];simp [hjk]
 ·rw [List.getElem_append_right (by simp;omega)];have ej:k+1+(j-min k L.length)=j+1:=by omega
  simp [hjk,ej]
end Go.Proofs.YtpdaknbmcpmhjaaGreatDoor.Ls
namespace Go.Proofs.YtpdaknbmcpmhjaaGreatDoor.Ls
open Go.ChangeShapes Go.WideShapes Go.ChangeAt Go.RowKit
open YtpdaknbmcpmhjaaGreatDoor.Op YtpdaknbmcpmhjaaGreatDoor.So YtpdaknbmcpmhjaaGreatDoor.Dp YtpdaknbmcpmhjaaGreatDoor.ListWay
open YtpdaknbmcpmhjaaGreatDoor.Rv (RAt Few frB tkF tk_few take_any free_any evOk NwOut new_ok ftB tms tn addK fr_parts)
open YtpdaknbmcpmhjaaGreatDoor.Tb (Tab TabAt Bnds)
theorem wp_scope_label {P:Program} {Q:Exit->Act->World->Prop} {a:Act} {w:World} {b:Code} (l:Nat) (J:Act->World->Prop) (μ:Act->World->Nat) (h0:J a w)
  (pass:∀ a w,J a w->b.wp P (Exit.jump l (fun a' w'=>J a' w'/\μ a' w'<μ a w) Q) a w):(Code.scope ((Code.label l).seq b)).wp P Q a w:=
 wp_scope_jumps (rest:=Code.skip.seq b) l J μ (by simp [findLabel]) (wp_seq (wp_label (show b.wp P (Exit.jump l J Q) a w from wp_mono (pass a w h0) fun e a w h=>by
  cases e <;> first|exact h|exact ⟨h.1,h.2.1⟩))) fun a w h=>wp_seq (wp_skip (pass a w h))
def clN (xs:List O) (i:Nat):Nat:=match xs[i]? with|some o=>clD o.op|none=>0
theorem clN_at {xs:List O} {i:Nat} (h:i<xs.length):clN xs i=clD xs[i].op:=by unfold clN;rw [List.getElem?_eq_getElem h]
theorem clN_lt (xs:List O) (i:Nat):clN xs i<4:=by
 unfold clN
 split
 ·exact clD_lt _
 ·omega
def sysL (t:Tab) (xs:List O) (es:List Ed):ListWay.Sys:=⟨xs.length,clN xs,fun c=>(t.u c).toNat,fun c=>if c<4 then (t.b c).toNat else 1,es.map eg⟩
theorem sysL_ok {t:Tab} {xs:List O} {es:List Ed} (ht:t.ok=true) (hu:hvU t xs=true) (hE:EOk xs.length es):(sysL t xs es).Ok:=by
 refine ⟨fun i hi=>?_,fun c=>?_,fun e he=>?_⟩
 ·have hi:i<xs.length:=hi;show 1<=(t.u (clN xs i)).toNat;have h1:=hvU_all hu i hi;have h2:=Tb.inB_iff ((Tb.ok_parts ht).2 (clN xs i) (clN_lt xs i)).1;rw [clN_at hi] at h2 ⊢;omega
 ·show 1<=(if c<4 then (t.b c).toNat else 1)/\(if c<4 then (t.b c).toNat else 1)<=8
  by_cases hc:c<4
  ·rw [if_pos hc];have h2:=Tb.inB_iff ((Tb.ok_parts ht).2 c hc).2.2;omega
  ·rw [if_neg hc];omega
 ·obtain ⟨x,hx,rfl⟩:=List.mem_map.1 he;have h1:=hE.f0 x hx;have h2:=hE.ft x hx;have h3:=hE.tn x hx;have h4:=hE.l0 x hx;show x.f.toNat<x.t.toNat/\x.t.toNat<xs.length/\0<=x.l/\x.l<=8;omega
theorem sysL_b {t:Tab} {xs:List O} {es:List Ed} (i:Nat):(sysL t xs es).b ((sysL t xs es).cls i)=(t.b (clN xs i)).toNat:=by
 show (if clN xs i<4 then _ else _)=_;rw [if_pos (clN_lt xs i)];rfl
theorem tms_hits (first cyc:Int):∀ k,tms none first cyc k=hits first cyc k
 | 0=>rfl
 | k+1=>by
  show tms none first cyc k+(if first+(k:Int)=cyc then 1 else 0)=hits first cyc k+(if first+(k:Int)=cyc then 1 else 0)
  rw [tms_hits first cyc k]
theorem free_sys {t:Tab} {xs:List O} {es:List Ed} (ht:t.ok=true) (c:Nat->Int) (i:Nat) {y:Int} (h0:0<=y) (h1:y<=65536):frB t none (cntF (sysL t xs es) c) (clN xs i:Int) y=true↔Free (sysL t xs es) c i y:=by
 rw [<- free_all,sysL_b];have h2:=Tb.inB_iff ((Tb.ok_parts ht).2 (clN xs i) (clN_lt xs i)).1;have hc:=clN_lt xs i;have hu:(((sysL t xs es).u ((sysL t xs es).cls i):Nat):Int)=t.u (clN xs i):=by
  show (((t.u (clN xs i)).toNat : Nat):Int)=_;omega
 rw [hu];have e1:decide (0<=(clN xs i:Int))=true:=by simp
 have e2:decide ((clN xs i:Int)<=3)=true:=by simp;omega
 have e3:decide (0<=tn none y)=true:=decide_eq_true h0;have e4:decide (tn none y<=65536)=true:=decide_eq_true h1;unfold frB;rw [e1,e2,e3,e4];simp only [Bool.true_and,Int.toNat_natCast];unfold ftB;simp only [tms_hits];exact Iff.rfl
theorem take_sys {t:Tab} {xs:List O} {es:List Ed} {c:Nat->Int} {i:Nat} {y:Int} (hi:i<xs.length) (hc:c i<0) (hy:0<=y) (h:frB t none (cntF (sysL t xs es) c) (clN xs i:Int) y=true):tkF t none (cntF (sysL t xs es) c) (clN xs i:Int) y=cntF (sysL t xs es) (ListWay.upd c i y):=by
 rw [<- cntF_place (s:=sysL t xs es) hi hc hy,sysL_b];unfold tkF;rw [if_pos h];unfold addK;funext a b
 rw [Int.toNat_natCast];show (if a=(clN xs i:Int) then cntF (sysL t xs es) c a b+tms none y b _ else _)=_;rw [tms_hits];rfl
def cyF (c:Nat->Int):Nat->Int:=fun i=>if 0<=c i then c i else 0
theorem cyF_upd (c:Nat->Int) (i:Nat) {y:Int} (hy:0<=y):updI (cyF c) i y=cyF (ListWay.upd c i y):=by
 funext j
 unfold updI cyF ListWay.upd
 by_cases e:j=i
 ·rw [if_pos e,if_pos e,if_pos hy]
 ·rw [if_neg e,if_neg e]
theorem cyF_start:cyF (fun _=>-1)=fun _=>0:=by
 funext j
 unfold cyF;exact if_neg (by show ¬ (0:Int)≤-1;decide)
theorem frm_es (es:List Ed) (i:Nat):(frm es i).map eg=(es.map eg).filter fun e=>decide (e.f=i):=by
 unfold frm;rw [List.filter_map];rfl
theorem toN_ok (t:Tab) (xs:List O) (es:List Ed):WOk (sysL t xs es) (fun _=>-1) (toN es):=by
 have h:=WOk.start (sysL t xs es);have e:(fun i=>(((sysL t xs es).es.countP fun e=>decide (e.t=i):Nat):Int))=toN es:=by
  funext i
  show ((((es.map eg).countP fun e=>decide (e.t=i)):Nat):Int)=_;rw [List.countP_map];rfl
 rw [e] at h;exact h
structure Pz (w W:World) (d:Dt) (ao:Option Addr) (cap:Nat) (t:Tab) (xs:List O) (es:List Ed) (lb:Nat) (ord:List Nat) (c:Nat->Int):Prop where
 ex:∃ m Wt Ff,Wy w W d ao cap t xs es m (cntF (sysL t xs es) c) (cyF c) Wt Ff/\WOk (sysL t xs es) c Wt/\FOk (sysL t xs es) c Ff/\m<=4*placed (sysL t xs es) c
 fw:Few (cntF (sysL t xs es) c)
 lf:Lf W lb (lft ord c)
theorem Pz.next {w W W':World} {d:Dt} {ao:Option Addr} {cap:Nat} {t:Tab} {xs:List O} {es:List Ed} {lb:Nat} {ord:List Nat} {c:Nat->Int} (h:Pz w W d ao cap t xs es lb ord c) (g:Below W.heap.size W W'):Pz w W' d ao cap t xs es lb ord c:=by
 obtain ⟨m,Wt,Ff,h1,h2,h3,h4⟩:=h.ex;exact ⟨⟨m,Wt,Ff,h1.next g,h2,h3,h4⟩,h.fw,h.lf.fr (Fr.of (X:=Non) g) fun h=>h⟩
theorem FOk.in' {s:ListWay.Sys} {c F:Nat->Int} {y:Int} (ok:s.Ok) (hF:FOk s c F) (hv:Inv s c y) (i:Nat):0<=F i/\F i<=y+8:=by
 refine ⟨((hF i (F i)).1 (Int.le_refl _)).1,(hF i (y+8)).2 ⟨by have:=hv.y0;omega,fun e he _ _=>?_⟩⟩;have h1:=ok.ed e he;have h2:=hv.le e.f (by omega);omega
theorem Wy.rebase {w w1 W:World} {d:Dt} {ao:Option Addr} {cap:Nat} {t:Tab} {xs:List O} {es:List Ed} {m:Nat} {f:Int->Int->Int} {C Wt Ff:Nat->Int} (h:Wy w1 W d ao cap t xs es m f C Wt Ff) (hb:Below w.heap.size w w1) (ho:OpsAt w ao xs):Wy w W d ao cap t xs es m f C Wt Ff:=by
 have o:=h.ok
 have:=hb.size
 have:=o.r0
 have:=o.m0
 exact ⟨⟨by omega,by omega,o.rw,o.mw,o.wc,o.wt,o.wf,o.ct,o.cf,o.tf,o.ca,o.ta,o.fa⟩,hb.trans (h.up.mono hb.size),ho,h.at',h.ra,h.cy,h.wt,h.fs,h.af,h.al,h.rw⟩
theorem ask_is {t:Tab} {xs:List O} {es:List Ed} (ht:t.ok=true) {c Wt Ff:Nat->Int} (hW:WOk (sysL t xs es) c Wt) (hF:FOk (sysL t xs es) c Ff) (i:Nat) {y:Int} (h0:0<=y) (h1:y<=65536):((decide (Wt i=0)&&decide (Ff i<=y))&&frB t none (cntF (sysL t xs es) c) (clN xs i:Int) y)=rfB (sysL t xs es) c y i:=by
 rw [Bool.eq_iff_iff,rfB_iff,Bool.and_eq_true,Bool.and_eq_true,decide_eq_true_eq,decide_eq_true_eq,free_sys ht c i h0 h1,ready_is hW hF h0]
theorem Pz.step {w W w3 w4:World} {d:Dt} {ao:Option Addr} {cap:Nat} {t:Tab} {xs:List O} {es:List Ed} {lb:Nat} {ord:List Nat} {c Wt Ff:Nat->Int} {m m' k:Nat} {y:Int} (h:Pz w W d ao cap t xs es lb ord c) (hd:ord.Nodup) (ho:∀ i,i∈ord↔i<xs.length) (hlb:w.heap.size<=lb/\lb<d.rb/\lb<d.mb) (ht:t.ok=true)
  (hW:WOk (sysL t xs es) c Wt) (hF:FOk (sysL t xs es) c Ff) (hm:m<=4*placed (sysL t xs es) c) (hk:k<(lft ord c).length) (hy:0<=y) (hfr:frB t none (cntF (sysL t xs es) c) (clN xs (lft ord c)[k]:Int) y=true)
  (h3:Wy w w3 d ao cap t xs es m' (tkF t none (cntF (sysL t xs es) c) (clN xs (lft ord c)[k]:Int) y) (updI (cyF c) (lft ord c)[k] y) (plW ((frm es (lft ord c)[k]).map eg) Wt) (plF y ((frm es (lft ord c)[k]).map eg) Ff)) (hm':m'<=m+4)
  (g4:Fr (One lb) w3 w4) (l4:Lf w4 lb ((lft ord c).eraseIdx k)):Pz w w4 d ao cap t xs es lb ord (ListWay.upd c (lft ord c)[k] y):=by
 obtain ⟨h5,h6⟩:=lft_mem hk;have hi:(lft ord c)[k]<xs.length:=(ho _).1 h5;have l5:lft ord (ListWay.upd c (lft ord c)[k] y)=(lft ord c).eraseIdx k:=lft_place hd hk hy;obtain ⟨i,hie⟩:∃ i,(lft ord c)[k]=i:=⟨_,rfl⟩;rw [hie] at h3 h6 hi l5 hfr ⊢;have o:=h3.ok;have o1:=o.rw;have o2:=o.wc;have o3:=o.wt;have o4:=o.wf;have o5:=o.ca;have q:∀ b,lb<b->¬ b=lb:=fun b hb e=>by omega
 have h4:Wy w w4 d ao cap t xs es m' (cntF (sysL t xs es) (ListWay.upd c i y)) (cyF (ListWay.upd c i y)) (plW ((frm es i).map eg) Wt) (plF y ((frm es i).map eg) Ff):=by
  rw [<- take_sys hi h6 hy hfr,<- cyF_upd c i hy];refine h3.gen g4 (fun k hk=>?_) (raFr h3.ra g4 (q _ hlb.2.1) (q _ hlb.2.2)) (h3.cy.fr g4 (q _ (by omega))) (h3.wt.fr g4 (q _ (by omega))) (h3.fs.fr g4 (q _ (by omega)));have hk:k=lb:=hk;omega
 refine ⟨⟨m',_,_,h4,?_,?_,?_⟩,?_,by rw [l5];exact l4⟩
 ·rw [frm_es];exact hW.place h6 hy
 ·rw [frm_es];exact hF.place h6 hy
 ·rw [placed_upd hi h6 hy];omega
 ·rw [<- take_sys hi h6 hy hfr];exact tk_few h.fw ht _ _
end Go.Proofs.YtpdaknbmcpmhjaaGreatDoor.Ls
namespace Go.Proofs.YtpdaknbmcpmhjaaGreatDoor.Ls
open Go.ChangeShapes Go.WideShapes Go.ChangeAt Go.RowKit
open YtpdaknbmcpmhjaaGreatDoor.Op YtpdaknbmcpmhjaaGreatDoor.So YtpdaknbmcpmhjaaGreatDoor.Dp YtpdaknbmcpmhjaaGreatDoor.ListWay
open YtpdaknbmcpmhjaaGreatDoor.Rv (RAt Few frB tkF tk_few take_any free_any evOk)
open YtpdaknbmcpmhjaaGreatDoor.Tb (Tab TabAt Bnds)
def lenOf:Value->Nat | .slice _ n _=>n|_=>0
theorem placeAll_ok {w W:World} {d:Dt} {ao:Option Addr} {cap:Nat} {t:Tab} {xs:List O} {es:List Ed} {lb:Nat} {ord:List Nat} (lcap:Nat) (h:Pz w W d ao cap t xs es lb ord (fun _=>-1)) (hd:ord.Nodup) (ho:∀ i,i∈ord↔i<xs.length) (hlb:w.heap.size<=lb/\lb<d.rb/\lb<d.mb) (ht:t.ok=true) (hu:hvU t xs=true) (hE:EOk xs.length es) (hl:es.length<=100000000) (hn:xs.length<=1024) (hlc:ord.length<=lcap) (hlc2:lcap<=1000000) :
  Calls Tryz.prog 90 #[.pointer (some ⟨d.wb,0,none⟩),.slice (some ⟨lb,0,none⟩) ord.length lcap] W fun e w'=>e=.returned (.tuple #[])/\Pz w w' d ao cap t xs es lb ord (sch (sysL t xs es) ord):=by
 have hok:=sysL_ok ht hu hE;obtain ⟨s,hs⟩:∃ s,sysL t xs es=s:=⟨_,rfl⟩;have HSy:Hid (sysL t xs es=s):=hs;have hsn:s.n=xs.length:=by rw [<- hs];rfl
 have ho':∀ i,i∈ord↔i<s.n:=by rw [hsn];exact ho
 rw [hs] at hok ⊢;have HOk:Hid (s.Ok):=hok;have HOr:Hid (ord.Nodup/\(∀ i,i∈ord↔i<s.n)):=⟨hd,ho'⟩;have HE:Hid (EOk xs.length es/\es.length<=100000000/\t.ok=true/\(∀ i,i∈ord↔i<xs.length)):=⟨hE,hl,ht,ho⟩;have HLb0:Hid (w.heap.size<=lb/\lb<d.rb/\lb<d.mb):=hlb;have hn':(xs.length:Int)<=1024:=by omega
 have hlw:∀ c:Nat->Int,(lft ord c).length<=lcap:=fun c=>Nat.le_trans (List.length_filter_le ..) hlc;have HLw:Hid (∀ c:Nat->Int,(lft ord c).length<=lcap):=hlw;have hlc3:(lcap:Int)<=1000000:=by omega
 have HP0:Hid (Pz w W d ao cap t xs es lb ord (fun _=>-1)):=h;have HSn:Hid (s.n=xs.length):=hsn;have hwy:∃ m f C Wt Ff,Wy w W d ao cap t xs es m f C Wt Ff:=by obtain ⟨m,Wt,Ff,h1,-⟩:=h.ex;exact ⟨_,_,_,_,_,h1⟩
 obtain ⟨m0,f0,C0,Wt0,Ff0,hwy0⟩:=hwy;have wl:=hwy0.at'.lt;have c1:W.cell? ⟨d.wb,1,none⟩=some (.pointer (some ⟨d.rb,0,none⟩)):=hwy0.at'.c 1 _ rfl;have hol:ord.length=(lft ord (fun _=>-1)).length:=by rw [lft_start]
 rw [hol];clear hs hok hsn ho' hd ho hE hl hn ht hu hlb h hwy0 hlw hol hlc hlc2;go_enter Tryz.func90,Tryz.ntmps90;go_wp2_with fail
 go_region
 go_wp2_with fail
 go_loopw [1,6] (fun lv cv wr=>∃ (c:Nat->Int) (y:Int),lv=.slice (some ⟨lb,0,none⟩) (lft ord c).length lcap/\cv=.int .i64 y/\Pz w wr d ao cap t xs es lb ord c/\(∃ y0,OnWay s ord c y0)/\(lft ord c≠[]->OnWay s ord c y)/\0<=y/\y<=8*(xs.length:Int)+1) (fun _ cv _=>(8*(xs.length:Int)+2-intOf cv).toNat)
 case atStart=>exact ⟨_,0,rfl,rfl,by first|exact HP0.out|exact HP0.out.next (drew_up _),⟨0,OnWay.start s ord⟩,fun _=>OnWay.start s ord,by omega,by omega⟩
 case round=>
  rename World=>wr;obtain ⟨c,y,rfl,rfl,hp,hw0,hw,hy0,hy1⟩:=hrel;have HP:Hid (Pz w wr d ao cap t xs es lb ord c):=hp;have HW0:Hid (∃ y0,OnWay s ord c y0):=hw0;have HWy:Hid (lft ord c≠[]->OnWay s ord c y):=hw;clear hp hw0 hw HP0 wl c1
  by_cases hlen:(lft ord c).length=0
  ·rw [hlen];have l0:¬ (0:Int)<((0:Nat):Int):=by omega
   go_wp2_with fail
   go_end0
   obtain ⟨y0,hy⟩:=HW0.out
   have:=hy.done HOk.out HOr.out.2 (lft_all HOr.out.2 (List.length_eq_zero_iff.1 hlen))
   rw [<- this];exact ⟨rfl,HP.out⟩
  ·have l0:(0:Int)<((lft ord c).length:Int):=by omega
   have HWz:Hid (OnWay s ord c y):=HWy.out (fun e=>hlen (by rw [e];rfl));go_wp2_with fail
   obtain ⟨J,hJ0⟩:∃ J:Act->World->Prop,J=fun a' w'=>∃ (c:Nat->Int) (u7 u8 u16 u17 u18 u19 u20 u21 u22 u23 u24 u25 u26 u27 u28 u29 u30 u31 u32 u33 u34 u35 u36 u37 u38 u39 u40 u41 u42 u43 u44 u45 u46 u47 u48 u49 u50 u51 u52 u53 u54:Value),a' = { tmps:=#[.pointer (some ⟨d.wb,0,none⟩),.slice (some ⟨lb,0,none⟩) (lft ord c).length lcap,undef,undef,.func (.func 158) #[.pointer (some ⟨d.wb,0,none⟩)] #[],.func (.func 159) #[.pointer (some ⟨d.rb,0,none⟩)] #[],.int .i64 y,u7,u8,.pointer (some ⟨d.wb,0,none⟩),.func (.func 158) #[.pointer (some ⟨d.wb,0,none⟩)] #[],.pointer (some ⟨d.wb,0,none⟩),.pointer (some ⟨d.wb,0,none⟩),.pointer (some ⟨d.wb,1,none⟩),.pointer (some ⟨d.rb,0,none⟩),.func (.func 159) #[.pointer (some ⟨d.rb,0,none⟩)] #[],u16,u17,u18,u19,u20,u21,u22,u23,u24,u25,u26,u27,u28,u29,u30,u31,u32,u33,u34,u35,u36,u37,u38,u39,u40,u41,u42,u43,u44,u45,u46,u47,u48,u49,u50,u51,u52,u53,u54],defers:=[] }/\Pz w w' d ao cap t xs es lb ord c/\OnWay s ord c y:=⟨_,rfl⟩;have hJ:Hid (J=fun a' w'=>∃ (c:Nat->Int) (u7 u8 u16 u17 u18 u19 u20 u21 u22 u23 u24 u25 u26 u27 u28 u29 u30 u31 u32 u33 u34 u35 u36 u37 u38 u39 u40 u41 u42 u43 u44 u45 u46 u47 u48 u49 u50 u51 u52 u53 u54:Value),a' = { tmps:=#[.pointer (some ⟨d.wb,0,none⟩),.slice (some ⟨lb,0,none⟩) (lft ord c).length lcap,undef,undef,.func (.func 158) #[.pointer (some ⟨d.wb,0,none⟩)] #[],.func (.func 159) #[.pointer (some ⟨d.rb,0,none⟩)] #[],.int .i64 y,u7,u8,.pointer (some ⟨d.wb,0,none⟩),.func (.func 158) #[.pointer (some ⟨d.wb,0,none⟩)] #[],.pointer (some ⟨d.wb,0,none⟩),.pointer (some ⟨d.wb,0,none⟩),.pointer (some ⟨d.wb,1,none⟩),.pointer (some ⟨d.rb,0,none⟩),.func (.func 159) #[.pointer (some ⟨d.rb,0,none⟩)] #[],u16,u17,u18,u19,u20,u21,u22,u23,u24,u25,u26,u27,u28,u29,u30,u31,u32,u33,u34,u35,u36,u37,u38,u39,u40,u41,u42,u43,u44,u45,u46,u47,u48,u49,u50,u51,u52,u53,u54],defers:=[] }/\Pz w w' d ao cap t xs es lb ord c/\OnWay s ord c y):=hJ0;clear hJ0;refine wp_scope_label 0 J (fun a' _=>lenOf (a'.tmps.getD 1 undef)) (by rw [hJ.out];exact ⟨c,_,_,_,_,_,_,_,_,_,_,_,_,_,_,_,_,_,_,_,_,_,_,_,_,_,_,_,_,_,_,_,_,_,_,_,_,_,_,_,_,_,rfl,HP.out,HWz.out⟩) ?_;clear HP HW0 HWy HWz l0 hlen;intro a' wz hj;rw [hJ.out] at hj;obtain ⟨c,u7,u8,u16,u17,u18,u19,u20,u21,u22,u23,u24,u25,u26,u27,u28,u29,u30,u31,u32,u33,u34,u35,u36,u37,u38,u39,u40,u41,u42,u43,u44,u45,u46,u47,u48,u49,u50,u51,u52,u53,u54,rfl,hp,hw⟩:=hj;have HWz:Hid (OnWay s ord c y):=hw;have hiv:=hw.inv HOk.out HOr.out.2;have hyp:y<=8*(xs.length:Int):=by
    have h1:=hiv.yp;have h2:=placed_le s c;have h3:=HSn.out;omega
   obtain ⟨m,Wt,Ff,hwy,hWO,hFO,hmm⟩:=hp.ex;have HSt:Hid (WOk s c Wt/\FOk s c Ff/\m<=4*placed s c/\Few (cntF s c)/\m<=4096):=by
    have h2:=placed_le s c;have h3:=HSn.out;have h4:=hp.fw;rw [HSy.out] at hWO hFO hmm h4;exact ⟨hWO,hFO,hmm,h4,by omega⟩
   have HWb:Hid (∀ j,0<=Wt j/\Wt j<=100000000):=fun j=>by
    have h1:=hWO.in j;have h2:(sysL t xs es).es.length=es.length:=List.length_map ..;have h3:=HE.out.2.1;rw [h2] at h1;omega
   have HFb:Hid (∀ j,0<=Ff j/\Ff j<=100000):=fun j=>by
    have h1:=HSt.out.2.1;have h2:=FOk.in' HOk.out h1 hiv j;omega
   have HPz:Hid (Pz w wz d ao cap t xs es lb ord c):=hp;obtain ⟨L,hL⟩:∃ L,lft ord c=L:=⟨_,rfl⟩;have HL:Hid (lft ord c=L):=hL;have HQ0:Hid (Wy w wz d ao cap t xs es m (cntF s c) (cyF c) Wt Ff/\Lf wz lb L):=by
    rw [HSy.out] at hwy;exact ⟨hwy,by rw [<- hL];exact hp.lf⟩
   have hLl:L.length<=lcap:=by rw [<- hL];exact HLw.out c
   have HLm:Hid (∀ k (hk:k<L.length),L[k]<xs.length/\c L[k]<0):=fun k hk=>by
    subst hL;exact ⟨(HE.out.2.2.2 _).1 (lft_mem hk).1,(lft_mem hk).2⟩
   rw [hL];clear hp hw hwy hWO hFO hmm hL;obtain ⟨C,hC⟩:∃ C,cyF c=C:=⟨_,rfl⟩;have HC:Hid (cyF c=C):=hC;obtain ⟨f,hf⟩:∃ f,cntF s c=f:=⟨_,rfl⟩;have HF:Hid (cntF s c=f):=hf;rw [hC,hf] at HQ0;clear hC hf;have hLi:(L.length:Int)<=1000000:=by omega
   go_wp2_with fail
   go_loopw [1,23] (fun lv v wr=>∃ k:Nat,k<=L.length/\lv=.slice (some ⟨lb,0,none⟩) L.length lcap/\v=.int .i64 k/\(∀ (j:Nat) (hj:j<L.length),j<k->rfB s c y L[j]=false)/\Wy w wr d ao cap t xs es m f C Wt Ff/\Lf wr lb L) (fun _ v _=>L.length-(intOf v).toNat)
   case atStart=>exact ⟨0,by omega,rfl,rfl,fun j _ hj=>by omega,HQ0.out⟩
   case round=>
    rename World=>wx;obtain ⟨k,hk,rfl,rfl,hno,hq⟩:=hrel;have HNo:Hid (∀ (j:Nat) (hj:j<L.length),j<k->rfB s c y L[j]=false):=hno;have HQ:Hid (Wy w wx d ao cap t xs es m f C Wt Ff/\Lf wx lb L):=hq;clear hno hq HQ0
    by_cases hlt:k<L.length
    ·have k0:(0:Int)<=(k:Int):=by omega
     have k1:(k:Int)<(L.length:Int):=by omega
     have q0:=HQ.out.2.c k hlt;have ql:=HQ.out.2.lt;obtain ⟨hin,hcn⟩:=HLm.out k hlt;have HNo2:Hid (rfB s c y L[k]=false->∀ (j:Nat) (hj:j<L.length),j<k+1->rfB s c y L[j]=false):=fun e j hj hjk=>by
      rcases Nat.lt_or_ge j k with h|h
      ·exact HNo.out j hj h
      ·obtain rfl:j=k:=by omega
       exact e
     have HFd:Hid (rfB s c y L[k]=true->ord.find? (okB s c y)=some L[k]):=fun e=>by
      rw [find_lft,HL.out];exact find_first hlt e fun j hj=>HNo.out j (by omega) hj
     have HAsk:Hid (((decide (Wt L[k]=0)&&decide (Ff L[k]<=y))&&frB t none f (clN xs L[k]:Int) y)=rfB s c y L[k]):=by
      have h1:=HSt.out.1;have h2:=HSt.out.2.1;rw [<- HSy.out] at h1 h2;have h3:=ask_is HE.out.2.2.1 h1 h2 L[k] hy0 (by omega);rw [HSy.out,HF.out] at h3;exact h3
     have HStp:Hid (∀ (w5 w6:World) (m5:Nat),Wy w w5 d ao cap t xs es m5 (tkF t none f (clN xs L[k]:Int) y) (updI C L[k] y) (plW ((frm es L[k]).map eg) Wt) (plF y ((frm es L[k]).map eg) Ff)->m5<=m+4->frB t none f (clN xs L[k]:Int) y=true->Fr (One lb) w5 w6->Lf w6 lb (L.eraseIdx k)->Pz w w6 d ao cap t xs es lb ord (ListWay.upd c L[k] y)/\lft ord (ListWay.upd c L[k] y)=L.eraseIdx k):=fun w5 w6 m5 q1 q2 q3 q4 q5=>by
      have h1:=HSt.out.1;have h2:=HSt.out.2.1;have h3:=HSt.out.2.2.1;have h4:=HF.out;have hk':k<(lft ord c).length:=by rw [HL.out];exact hlt
      have hel:(lft ord c)[k]=L[k]:=by have:=HL.out;subst this;rfl
      rw [<- HSy.out] at h1 h2 h3 h4;rw [<- h4,<- HC.out,<- hel] at q1;rw [<- h4,<- hel] at q3;rw [<- HL.out] at q5;rw [<- hel,<- HL.out];exact ⟨HPz.out.step HOr.out.1 HE.out.2.2.2 HLb0.out HE.out.2.2.1 h1 h2 h3 hk' hy0 q3 q1 q2 q4 q5,lft_place HOr.out.1 hk' hy0⟩
     have HOw:Hid (ord.find? (okB s c y)=some L[k]->OnWay s ord (ListWay.upd c L[k] y) y):=fun e=>HWz.out.place HOr.out.2 e;have HDl:Hid (∀ Z,Lf Z lb L->Calls Tryz.prog 161 #[.slice (some ⟨lb,0,none⟩) L.length lcap,.int .i64 (k:Int),.int .i64 ((k:Int)+1)] Z fun e w'=>e=.returned (.slice (some ⟨lb,0,none⟩) (L.length-1) lcap)/\Fr (One lb) Z w'/\Lf w' lb (L.eraseIdx k)):=fun Z hZ=>del_any lb lcap k L Z hZ hlt hLl (by omega);have hopi:=HQ.out.1.op;obtain ⟨i,hie⟩:∃ i,L[k]=i:=⟨_,rfl⟩;rw [hie] at q0 hin hcn HNo2 HFd HAsk HStp HOw;clear hie;obtain ⟨b,g,rfl,hbl,hops⟩:=hopi.is (by omega);have HOp:Hid (∀ Z,Below w.heap.size w Z->OAt Z b (g+i*5) xs[i]):=fun Z hZ=>(hops i hin).below hZ hbl;have HOl:Hid (∀ Z,Below w.heap.size w Z->b<Z.heap.size):=fun Z hZ=>Nat.lt_of_lt_of_le hbl hZ.size;have HRd:Hid (∀ Z,Wy w Z d (some ⟨b,g,none⟩) cap t xs es m f C Wt Ff->Calls Tryz.prog 158 #[.pointer (some ⟨d.wb,0,none⟩),.int .i64 (i:Int),.int .i64 y] Z fun e w'=>e=.returned (.bool (decide (Wt i=0)&&decide (Ff i<=y)))/\Below Z.heap.size Z w'):=fun Z hZ=>wready_any i y hZ hin;have HFr:Hid (∀ Z,Wy w Z d (some ⟨b,g,none⟩) cap t xs es m f C Wt Ff->Calls Tryz.prog 159 #[.pointer (some ⟨d.rb,0,none⟩),.int .i64 (clN xs i:Int),.int .i64 y] Z fun e w'=>e=.returned (.bool (frB t none f (clN xs i:Int) y))/\Below Z.heap.size Z w'):=fun Z hZ=>free_any _ _ Z hZ.ra trivial (by have:=HSt.out.2.2.2.1;rw [HF.out] at this;exact this) HE.out.2.2.1;have HCl:Hid (∀ Z,Calls Tryz.prog 155 #[(xs[i]'hin).val] Z fun e w'=>e=.returned (.int .i64 (clN xs i:Int))/\Below Z.heap.size Z w'):=fun Z=>by rw [clN_at hin];exact classOf_any xs[i] Z
     have HPl:Hid (∀ Z,Wy w Z d (some ⟨b,g,none⟩) cap t xs es m f C Wt Ff->Calls Tryz.prog 160 #[.pointer (some ⟨d.wb,0,none⟩),.int .i64 (i:Int),.int .i64 y] Z fun e w'=>e=.returned (.tuple #[])/\∃ m',Wy w w' d (some ⟨b,g,none⟩) cap t xs es m' (tkF t none f (clN xs i:Int) y) (updI C i y) (plW ((frm es i).map eg) Wt) (plF y ((frm es i).map eg) Ff)/\m'<=m+4/\Fr (Tw d) Z w'):=fun Z hZ=>by
      rw [clN_at hin];exact place_any i y hZ hin hy0 (by omega) HE.out.1 HE.out.2.1 (by omega) HE.out.2.2.1 (by have:=HSt.out.2.2.2.1;rw [HF.out] at this;exact this) (by have:=HSt.out.2.2.2.2;omega) HWb.out HFb.out
     have HLbT:Hid (¬ Tw d lb):=by
      have o:=HQ.out.1.ok;have h1:=HLb0.out;have h2:=o.rw;have h3:=o.wc;have h4:=o.wt;have h5:=o.wf;intro e;rcases e with e|e|e|e <;> omega
     obtain ⟨o,hoe⟩:∃ o,xs[i]'hin=o:=⟨_,rfl⟩;rw [hoe] at HOp HCl;obtain ⟨cl,hcl⟩:∃ cl,clN xs i=cl:=⟨_,rfl⟩;rw [hcl] at HAsk HStp HFr HCl HPl;generalize tkF t none f (cl:Int) y=f2 at *;generalize updI C i y=C2 at *;generalize plW ((frm es i).map eg) Wt=W2 at *;generalize plF y ((frm es i).map eg) Ff=F2 at *;generalize frB t none f (cl:Int) y=fr at *;generalize (decide (Wt i=0)&&decide (Ff i<=y))=rd at *;clear hoe hcl hops hopi hbl;have i0:(0:Int)<=(i:Int):=by omega
     obtain ⟨n,hN⟩:∃ n,xs.length=n:=⟨_,rfl⟩;have HN:Hid (xs.length=n):=hN;have i1:(i:Int)<(n:Int):=by omega
     clear hN
     cases rd
     ·have HRn:Hid (rfB s c y i=false):=by rw [<- HAsk.out];rfl
      go_wp2_with (first
     | (go_at_call 158;refine Calls.mono (HRd.out _ HQ.out.1) ?_;rintro e w2 ⟨rfl,b2⟩;have HQ2:Hid (Wy w w2 d (some ⟨b,g,none⟩) cap t xs es m f C Wt Ff/\Lf w2 lb L):=⟨HQ.out.1.next b2,HQ.out.2.fr (Fr.of (X:=Non) b2) (fun h=>h)⟩;clear b2 HQ HRd q0 ql;have c0:w2.cell? ⟨d.wb,0,none⟩=some (.slice (some ⟨b,g,none⟩) n cap):=(by have:=HQ2.out.1.at'.c 0 _ rfl;rw [HN.out] at this;exact this);have wl:=HQ2.out.1.at'.lt;obtain ⟨p0,p1,p2,p3,p4⟩:=HOp.out _ HQ2.out.1.up;have pl:=HOl.out _ HQ2.out.1.up)
     | (go_at_call 155;refine Calls.mono (HCl.out _) ?_;rintro e w3 ⟨rfl,b3⟩;have HQ3:Hid (Wy w w3 d (some ⟨b,g,none⟩) cap t xs es m f C Wt Ff/\Lf w3 lb L):=⟨HQ2.out.1.next b3,HQ2.out.2.fr (Fr.of (X:=Non) b3) (fun h=>h)⟩;clear b3 HQ2 HCl p0 p1 p2 p3 p4 pl c0 wl)
     | (go_at_call 159;refine Calls.mono (HFr.out _ HQ3.out.1) ?_;rintro e w4 ⟨rfl,b4⟩;have HQ4:Hid (Wy w w4 d (some ⟨b,g,none⟩) cap t xs es m f C Wt Ff/\Lf w4 lb L):=⟨HQ3.out.1.next b4,HQ3.out.2.fr (Fr.of (X:=Non) b4) (fun h=>h)⟩;clear b4 HQ3 HFr)
     | (go_at_call 160;refine Calls.mono (HPl.out _ HQ4.out.1) ?_;rintro e w5 ⟨rfl,m5,y5,l5,f5⟩;have HQ5:Hid (Wy w w5 d (some ⟨b,g,none⟩) cap t xs es m5 f2 C2 W2 F2/\m5<=m+4/\Lf w5 lb L):=⟨y5,l5,HQ4.out.2.fr f5 HLbT.out⟩;clear y5 l5 f5 HQ4 HPl)
     | (go_at_call 161;refine Calls.mono (HDl.out _ HQ5.out.2.2) ?_;rintro e w6 ⟨rfl,f6,l6⟩;have HQ6:Hid (Fr (One lb) w5 w6/\Lf w6 lb (L.eraseIdx k)):=⟨f6,l6⟩;clear f6 l6 HDl))
      go_roundw
      case rel=>exact ⟨k+1,by omega,rfl,by go_num,HNo2.out HRn.out,HQ2.out⟩
      case measure=>simp [intOf];omega
     ·cases fr
      ·have HRn:Hid (rfB s c y i=false):=by rw [<- HAsk.out];rfl
       go_wp2_with (first
     | (go_at_call 158;refine Calls.mono (HRd.out _ HQ.out.1) ?_;rintro e w2 ⟨rfl,b2⟩;have HQ2:Hid (Wy w w2 d (some ⟨b,g,none⟩) cap t xs es m f C Wt Ff/\Lf w2 lb L):=⟨HQ.out.1.next b2,HQ.out.2.fr (Fr.of (X:=Non) b2) (fun h=>h)⟩;clear b2 HQ HRd q0 ql;have c0:w2.cell? ⟨d.wb,0,none⟩=some (.slice (some ⟨b,g,none⟩) n cap):=(by have:=HQ2.out.1.at'.c 0 _ rfl;rw [HN.out] at this;exact this);have wl:=HQ2.out.1.at'.lt;obtain ⟨p0,p1,p2,p3,p4⟩:=HOp.out _ HQ2.out.1.up;have pl:=HOl.out _ HQ2.out.1.up)
     | (go_at_call 155;refine Calls.mono (HCl.out _) ?_;rintro e w3 ⟨rfl,b3⟩;have HQ3:Hid (Wy w w3 d (some ⟨b,g,none⟩) cap t xs es m f C Wt Ff/\Lf w3 lb L):=⟨HQ2.out.1.next b3,HQ2.out.2.fr (Fr.of (X:=Non) b3) (fun h=>h)⟩;clear b3 HQ2 HCl p0 p1 p2 p3 p4 pl c0 wl)
     | (go_at_call 159;refine Calls.mono (HFr.out _ HQ3.out.1) ?_;rintro e w4 ⟨rfl,b4⟩;have HQ4:Hid (Wy w w4 d (some ⟨b,g,none⟩) cap t xs es m f C Wt Ff/\Lf w4 lb L):=⟨HQ3.out.1.next b4,HQ3.out.2.fr (Fr.of (X:=Non) b4) (fun h=>h)⟩;clear b4 HQ3 HFr)
     | (go_at_call 160;refine Calls.mono (HPl.out _ HQ4.out.1) ?_;rintro e w5 ⟨rfl,m5,y5,l5,f5⟩;have HQ5:Hid (Wy w w5 d (some ⟨b,g,none⟩) cap t xs es m5 f2 C2 W2 F2/\m5<=m+4/\Lf w5 lb L):=⟨y5,l5,HQ4.out.2.fr f5 HLbT.out⟩;clear y5 l5 f5 HQ4 HPl)
     | (go_at_call 161;refine Calls.mono (HDl.out _ HQ5.out.2.2) ?_;rintro e w6 ⟨rfl,f6,l6⟩;have HQ6:Hid (Fr (One lb) w5 w6/\Lf w6 lb (L.eraseIdx k)):=⟨f6,l6⟩;clear f6 l6 HDl))
       go_roundw
       case rel=>exact ⟨k+1,by omega,rfl,by go_num,HNo2.out HRn.out,HQ4.out⟩
       case measure=>simp [intOf];omega
      ·have HRy:Hid (rfB s c y i=true):=by rw [<- HAsk.out];rfl
       go_wp2_with (first
     | (go_at_call 158;refine Calls.mono (HRd.out _ HQ.out.1) ?_;rintro e w2 ⟨rfl,b2⟩;have HQ2:Hid (Wy w w2 d (some ⟨b,g,none⟩) cap t xs es m f C Wt Ff/\Lf w2 lb L):=⟨HQ.out.1.next b2,HQ.out.2.fr (Fr.of (X:=Non) b2) (fun h=>h)⟩;clear b2 HQ HRd q0 ql;have c0:w2.cell? ⟨d.wb,0,none⟩=some (.slice (some ⟨b,g,none⟩) n cap):=(by have:=HQ2.out.1.at'.c 0 _ rfl;rw [HN.out] at this;exact this);have wl:=HQ2.out.1.at'.lt;obtain ⟨p0,p1,p2,p3,p4⟩:=HOp.out _ HQ2.out.1.up;have pl:=HOl.out _ HQ2.out.1.up)
     | (go_at_call 155;refine Calls.mono (HCl.out _) ?_;rintro e w3 ⟨rfl,b3⟩;have HQ3:Hid (Wy w w3 d (some ⟨b,g,none⟩) cap t xs es m f C Wt Ff/\Lf w3 lb L):=⟨HQ2.out.1.next b3,HQ2.out.2.fr (Fr.of (X:=Non) b3) (fun h=>h)⟩;clear b3 HQ2 HCl p0 p1 p2 p3 p4 pl c0 wl)
     | (go_at_call 159;refine Calls.mono (HFr.out _ HQ3.out.1) ?_;rintro e w4 ⟨rfl,b4⟩;have HQ4:Hid (Wy w w4 d (some ⟨b,g,none⟩) cap t xs es m f C Wt Ff/\Lf w4 lb L):=⟨HQ3.out.1.next b4,HQ3.out.2.fr (Fr.of (X:=Non) b4) (fun h=>h)⟩;clear b4 HQ3 HFr)
     | (go_at_call 160;refine Calls.mono (HPl.out _ HQ4.out.1) ?_;rintro e w5 ⟨rfl,m5,y5,l5,f5⟩;have HQ5:Hid (Wy w w5 d (some ⟨b,g,none⟩) cap t xs es m5 f2 C2 W2 F2/\m5<=m+4/\Lf w5 lb L):=⟨y5,l5,HQ4.out.2.fr f5 HLbT.out⟩;clear y5 l5 f5 HQ4 HPl)
     | (go_at_call 161;refine Calls.mono (HDl.out _ HQ5.out.2.2) ?_;rintro e w6 ⟨rfl,f6,l6⟩;have HQ6:Hid (Fr (One lb) w5 w6/\Lf w6 lb (L.eraseIdx k)):=⟨f6,l6⟩;clear f6 l6 HDl))
       go_step3
       obtain ⟨hpz,hlf⟩:=HStp.out w5 w6 m5 HQ5.out.1 HQ5.out.2.1 (by simp) HQ6.out.1 HQ6.out.2;have hlen:L.length-1=(lft ord (ListWay.upd c i y)).length:=by rw [hlf,List.length_eraseIdx_of_lt hlt]
       change (0:Nat)=0/\(J _ w6/\_)
       refine ⟨rfl,?_,?_⟩
       ·rw [hJ.out,hlen];exact ⟨ListWay.upd c i y,_,_,_,_,_,_,_,_,_,_,_,_,_,_,_,_,_,_,_,_,_,_,_,_,_,_,_,_,_,_,_,_,_,_,_,_,_,_,_,_,_,rfl,hpz,HOw.out (HFd.out HRy.out)⟩
       ·show L.length-1<L.length;omega
    ·obtain rfl:k=L.length:=by omega
     have k1:¬ ((L.length:Nat):Int)<((L.length:Nat):Int):=by omega
     have HFn:Hid (ord.find? (okB s c y)=none):=by
      rw [find_lft,HL.out];exact find_not fun j hj=>HNo.out j hj hj
     go_wp2_with fail
     simp only [Exit.jump];go_wp2_with fail
     have hpz:Pz w wx d ao cap t xs es lb ord c:=by
      have h1:=HSt.out.1;have h2:=HSt.out.2.1;have h3:=HSt.out.2.2.1;have h4:=HSt.out.2.2.2.1;have h5:=HQ.out.1;rw [<- HF.out,<- HC.out,<- HSy.out] at h5;rw [<- HSy.out] at h1 h2 h3 h4;exact ⟨⟨m,Wt,Ff,h5,h1,h2,h3⟩,h4,by rw [HL.out];exact HQ.out.2⟩
     refine ⟨⟨_,_,_,_,_,_,_,_,_,_,_,_,_,_,_,_,_,_,_,_,_,_,_,_,_,_,_,_,_,_,_,_,_,_,_,_,_,_,_,_,_,_,_,⟨c,y+1,by rw [HL.out],by first|rfl|go_num,hpz,⟨y,HWz.out⟩,fun hne=>HWz.out.next (lft_lt HOr.out.2 hne) HFn.out,by omega,by omega⟩,rfl⟩,?_⟩;simp [intOf]
     omega
end Go.Proofs.YtpdaknbmcpmhjaaGreatDoor.Ls
