/- Parts Gj Gk. -/
import Derived.Test.YtpdaknbmcpmhjaaGreatDoorN34
import Derived.Maps.AppendAt
import Derived.Lib.AppendZeros
import Derived.Deep.AppendLies
import Derived.OwnWalk
set_option maxRecDepth 20000
set_option maxHeartbeats 8000000
namespace Go.Proofs.YtpdaknbmcpmhjaaGreatDoor.Ly
open Go.ChangeShapes Go.WideShapes Go.ChangeAt Go.RowKit
open YtpdaknbmcpmhjaaGreatDoor.So YtpdaknbmcpmhjaaGreatDoor.Op
theorem run_append_any {P:Program} (w:World) (base:Nat) (t ty e:TypeId) (i:TypeInfo) (z:Value) (size bytes:Nat) (ht:P.underlying t=some (.slice e)) (hi:P.info? e=some i) (hz:i.zero=some z)
  (hsize:i.size=size) (hby:i.bytes=bytes) (hzs:z.cells.size=size) (hsz:0<size)
  (v:Value) (n:Nat) (xs:List Value) (hown:w.ownsRow base e size v n xs)
  (ao:Option Addr) (m c:Nat) (news:List Value) (hl:news.length=m*size) (h0:ao=none->m=0) (hnews:∀ a,ao=some a->∀ j u,news[j]?=some u->w.cell? (a.add j)=some u) (h1:∀ u∈news,u.oneCell'=true)
  (h63:n+m<=maxLen) (hbytes:(n+m)*bytes<=140737488355328) (hbase:base<=w.heap.size) :
  ∃ v' w',(Builtin.append_ #[t,t] ty #[v,.slice ao m c]).run P w=.ok v' w'/\w'.ownsRow base e size v' (n+m) (xs++news)/\w.grownBy w' v.ownBlock/\(v'.ownBlock=v.ownBlock\/v'.ownBlock=some w.heap.size):=by
 cases ao with
 | some a=>
  obtain ⟨v',w',a1,a2,a3,-,a5⟩:=run_append_own_at (P:=P) w base t ty e i z size bytes ht hi hz hsize hby hzs hsz v n xs hown a m c news hl (hnews a rfl) h1 h63 hbytes hbase;exact ⟨v',w',a1,a2,a3,a5⟩
 | none=>
  obtain rfl:=h0 rfl;obtain rfl:news=[]:=List.eq_nil_of_length_eq_zero (by simpa using hl);have hown0:=hown;refine ⟨v,w,?_,by simpa using hown0,⟨rfl,rfl,rfl,Nat.le_refl _,fun _ _ _=>rfl⟩,.inl rfl⟩;obtain ⟨hx1,⟨h2,h3⟩|⟨g,cap,cur,h2,h3,h4,h5,h6⟩⟩:=hown
  ·subst h2;simp [Builtin.append_,run_underlying ht,sizeOf,typeInfo,hi,Builtin.lenOf,Builtin.firstCells]
  ·subst h2;simp [Builtin.append_,run_underlying ht,sizeOf,typeInfo,hi,Builtin.lenOf,h5,Builtin.firstCells,loadCells,storeCells]
theorem wpList_append_any {P:Program} (w:World) {ops:Array Oper} {rest:List Oper} {o:Oper} {a:Act} {Q:Exit->Act->World->Prop} (hgd:o.guard=none) (s x:Operand) (t:TypeId)
  (ho:o.op=.call { callee:=.builtin .append,args:=#[s,x],argTypes:=#[t,t] })
  (base:Nat) (e:TypeId) (i:TypeInfo) (z:Value) (size bytes:Nat) (ht:P.underlying t=some (.slice e)) (hi:P.info? e=some i) (hz:i.zero=some z)
  (hsize:i.size=size) (hby:i.bytes=bytes) (hzs:z.cells.size=size) (hsz:0<size)
  (v:Value) (n:Nat) (xs:List Value) (hs:a.eval s=v) (hown:w.ownsRow base e size v n xs)
  (ao:Option Addr) (m c:Nat) (news:List Value) (hx:a.eval x=.slice ao m c) (hl:news.length=m*size) (h0:ao=none->m=0) (hnews:∀ ad,ao=some ad->∀ j u,news[j]?=some u->w.cell? (ad.add j)=some u) (h1:∀ u∈news,u.oneCell'=true)
  (h63:n+m<=maxLen) (hbytes:(n+m)*bytes<=140737488355328) (hbase:base<=w.heap.size)
  (h:∀ v' w',w'.ownsRow base e size v' (n+m) (xs++news)->w.grownBy w' v.ownBlock->(v'.ownBlock=v.ownBlock\/v'.ownBlock=some w.heap.size)->wpList P ops Q rest (a.put o.dst v') w') :
  wpList P ops Q (o::rest) a w:=by
 refine wpList_plain hgd fun K hK=>?_;obtain ⟨v',w',hr,h2,h3,h5⟩:=run_append_any (P:=P) w base t o.type e i z size bytes ht hi hz hsize hby hzs hsz v n xs hown ao m c news hl h0 hnews h1 h63 hbytes hbase;unfold Oper.wp execOp;simp only [ho,resolve,invoke,builtin,Sem.run_bind,Sem.run_pure,Result.andThen_ok,List.map_toArray,List.map_cons,List.map_nil,hs,hx,hr];exact hK _ _ (h v' w' h2 h3 h5)
theorem grow_any (n:Nat) (w:World) (hn:n<=1000000000):Calls Tryz.prog 170 #[.slice none 0 0,.int .i64 (n:Int)] w fun e w'=>∃ v,e=.returned v/\w'.ownsRow w.heap.size 67 4 v 0 []/\Below w.heap.size w w':=by
 obtain ⟨i0,hi,hi2⟩:=Option.map_eq_some_iff.1 info67;simp only [Prod.mk.injEq] at hi2;obtain ⟨hz0,hz1,hz2⟩:=hi2
 by_cases h0:n=0
 ·subst h0;go_enter Tryz.func170,Tryz.ntmps170;go_wp2_with fail
  go_ret
  exact ⟨_,rfl,World.ownsRow_nil _ _ _ _,Below.refl _ _⟩
 ·have n0:¬ (n:Int)<0:=by omega
  have n1:(0:Int)<(n:Int):=by omega
  have n2:(n:Int)<=1000000000:=by omega
  have hge:=grownCap_ge w n 0 67;have hcm:grownCap w n 0 67<=maxLen:=grownCap_le_maxLen w n 0 67 (by unfold maxLen;omega);have HR:Hid _:=Lib.run_append_nil_zeros (P:=Tryz.prog) w 68 3 68 67 i0 (.agg #[.int .i64 0,.bool false,.int .i64 0,.bool false]) .i64 .i64 Tryz.underlying68 Tryz.underlying3 hi hz0 n (by omega) (by rw [hz1];omega) (by omega) (by rw [hz2];omega);have HO:Hid ((w.drew.alloc (.cells (Builtin.zeroCells (Value.agg #[.int .i64 0,.bool false,.int .i64 0,.bool false]).cells n++Builtin.zeroCells (Value.agg #[.int .i64 0,.bool false,.int .i64 0,.bool false]).cells (grownCap w n 0 67-n)) 67)).ownsRow w.heap.size 67 4 (.slice (some ⟨w.heap.size,0,none⟩) 0 (grownCap w n 0 67)) 0 []):=⟨rfl,.inr ⟨w.heap.size,_,_,rfl,Nat.le_refl _,heap_alloc_new w.drew _,Nat.zero_le _,hcm,by simp [size_zeroCells,Value.cells];omega,by simp⟩⟩;have HU:Hid (Below w.heap.size w (w.drew.alloc (.cells (Builtin.zeroCells (Value.agg #[.int .i64 0,.bool false,.int .i64 0,.bool false]).cells n++Builtin.zeroCells (Value.agg #[.int .i64 0,.bool false,.int .i64 0,.bool false]).cells (grownCap w n 0 67-n)) 67))):=((Below.refl _ _).drew).alloc (Nat.le_refl _) _;generalize grownCap w n 0 67=gc at *;clear hi hz0 hz1 hz2;go_enter Tryz.func170,Tryz.ntmps170;go_wp2_with (first|(at_builtin;refine Lib.wpList_append_run _ rfl _ _ _ _ rfl _ _ rfl rfl _ _ HR.out ?_))
  go_ret
  exact ⟨_,rfl,HO.out,HU.out⟩
theorem tcells_len (l:List Tg):(tcells l).length=l.length*4:=by
 induction l with
 | nil=>rfl
 | cons x l ih=>
  have:tcells (x::l)=[.int .i64 x.b,.bool x.l,.int .i64 x.o,.bool x.s]++tcells l:=rfl
  rw [this,List.length_append,ih]
  simp;omega
theorem tcells_one (l:List Tg):∀ u∈tcells l,u.oneCell'=true:=fun u hu=>by
 unfold tcells at hu;obtain ⟨x,-,hx⟩:=List.mem_flatMap.1 hu;simp at hx
 rcases hx with rfl|rfl|rfl|rfl <;> rfl
structure Tl (W:World) (v:Value) (l:List Tg):Prop where
 is:∃ ao c,v=.slice ao l.length c/\(ao=none->l.length=0)/\∀ a,ao=some a->0<l.length->a.block<W.heap.size/\∀ j u,(tcells l)[j]?=some u->W.cell? (a.add j)=some u
theorem addr_block (a:Addr) (j:Nat):(a.add j).block=a.block:=by
 unfold Addr.add;split <;> rfl
theorem Tl.up {W W':World} {v:Value} {l:List Tg} (h:Tl W v l) (g:Below W.heap.size W W'):Tl W' v l:=by
 obtain ⟨ao,c,e,h0,hc⟩:=h.is;refine ⟨ao,c,e,h0,fun a ha h1=>?_⟩;obtain ⟨hb,hx⟩:=hc a ha h1;refine ⟨Nat.lt_of_lt_of_le hb g.size,fun j u hu=>?_⟩;rw [g.cell (p:=a.add j) (by rw [addr_block];exact hb)];exact hx j u hu
theorem Tl.of {W:World} {B:Nat} {v:Value} {l:List Tg} (h:W.ownsRow B 67 4 v l.length (tcells l)):Tl W v l:=by
 have hlt:=h.lt;have hc:=h;obtain ⟨h1,⟨h2,h3⟩|⟨q,cap,cur,h2,h4⟩⟩:=h
 ·exact ⟨none,0,by rw [h3];exact h2,fun _=>h3,fun a e=>nomatch e⟩
 ·refine ⟨_,cap,h2,(fun e=>nomatch e),fun a e _=>?_⟩
  injection e with e
  subst e;exact ⟨(hlt q (by rw [h2];rfl)).2,hc.cells (by rw [h2];rfl)⟩
def catL (lf:Nat->List Tg):Nat->List Tg
 | 0=>[]
 | k+1=>catL lf k++lf k
theorem catL_le (lf:Nat->List Tg) {k n:Nat} (h:k<=n):(catL lf k).length<=(catL lf n).length:=by
 induction n with
 | zero=>
  obtain rfl:k=0:=by omega
  exact Nat.le_refl _
 | succ n ih=>
  by_cases e:k=n+1
  ·subst e;exact Nat.le_refl _
  ·refine Nat.le_trans (ih (by omega)) ?_;show _<=(catL lf n++lf n).length;rw [List.length_append];omega
theorem concat_any (cb n cp:Nat) (vf:Nat->Value) (lf:Nat->List Tg) (w:World) (hb:cb<w.heap.size) (hv:∀ k,k<n->w.cell? ⟨cb,k,none⟩=some (vf k)/\Tl w (vf k) (lf k)) (hn:n<=1000) (hl:(catL lf n).length<=1000000) :
  Calls Tryz.prog 99 #[.slice (some ⟨cb,0,none⟩) n cp] w fun e w'=>∃ v,e=.returned v/\w'.ownsRow w.heap.size 67 4 v (catL lf n).length (tcells (catL lf n))/\Below w.heap.size w w':=by
 have HV:Hid (∀ (W:World) (k:Nat),Below w.heap.size w W->k<n->W.cell? ⟨cb,k,none⟩=some (vf k)/\Tl W (vf k) (lf k)):=fun W k hW hk=>⟨by rw [hW.cell (p:=⟨cb,k,none⟩) hb];exact (hv k hk).1,(hv k hk).2.up hW⟩;have HL:Hid (∀ k:Nat,k<=n->(catL lf k).length<=1000000):=fun k hk=>Nat.le_trans (catL_le lf hk) hl;have HG:Hid (∀ (m:Nat) (W:World),m<=1000000000->Calls Tryz.prog 170 #[.slice none 0 0,.int .i64 (m:Int)] W fun e w'=>∃ v,e=.returned v/\w'.ownsRow W.heap.size 67 4 v 0 []/\Below W.heap.size W w'):=fun m W h=>grow_any m W h;obtain ⟨i0,hi,hi2⟩:=Option.map_eq_some_iff.1 info67;simp only [Prod.mk.injEq] at hi2;obtain ⟨hz0,hz1,hz2⟩:=hi2;have HI:Hid (Tryz.prog.info? 67=some i0/\i0.zero=some (.agg #[.int .i64 0,.bool false,.int .i64 0,.bool false])/\i0.size=4/\i0.bytes=32):=⟨hi,hz0,hz1,hz2⟩;have hn':(n:Int)<=1000:=by omega
 clear hv hl hi hz0 hz1 hz2;go_enter Tryz.func99,Tryz.ntmps99;go_wp2_with fail
 go_loop [3,11] (fun u t=>∃ k:Nat,k<=n/\t=.int .i64 k/\u=.int .i64 (((catL lf k).length:Nat):Int)) (fun _ t=>n-(intOf t).toNat)
 case atStart=>exact ⟨0,by omega,rfl,rfl⟩
 case round=>
  obtain ⟨k,hk,rfl,rfl⟩:=hrel;have hsm:=HL.out k hk
  by_cases hlt:k<n
  ·have k0:(0:Int)<=(k:Int):=by omega
   have k1:(k:Int)<(n:Int):=by omega
   obtain ⟨q1,q2⟩:=HV.out w k (Below.refl _ _) hlt;obtain ⟨ao,c,e,-,-⟩:=q2.is;rw [e] at q1;have HN:Hid ((catL lf (k+1)).length=(catL lf k).length+(lf k).length):=by show (catL lf k++lf k).length=_;rw [List.length_append]
   have hs2:=HL.out (k+1) (by omega);rw [HN.out] at hs2;generalize (catL lf k).length=s0 at *;generalize (lf k).length=l0 at *;have g1:¬ (s0:Int)+(l0:Int)<0:=by omega
   have g2:(s0:Int)+(l0:Int)<=1000000:=by omega
   clear q2 e;go_wp2_with fail
   go_round
   case rel=>exact ⟨k+1,by omega,by go_num,by rw [HN.out];rfl⟩
   case measure=>simp [intOf];omega
  ·obtain rfl:k=n:=by omega
   have k1:¬ (k:Int)<(k:Int):=by omega
   go_wp2_with (first
    | (go_at_call 170;refine Calls.mono (HG.out _ _ (by omega)) ?_;rintro e w1 ⟨v1,rfl,o1,u1⟩;have H1:Hid (w1.ownsRow w.heap.size 67 4 v1 0 []/\Below w.heap.size w w1):=⟨o1,u1⟩;clear o1 u1 HG))
   go_loopw [6,27] (fun u t wr=>∃ j:Nat,j<=k/\t=.int .i64 j/\wr.ownsRow w.heap.size 67 4 u (catL lf j).length (tcells (catL lf j))/\Below w.heap.size w wr) (fun _ t _=>k-(intOf t).toNat)
   case atStart=>exact ⟨0,by omega,rfl,H1.out.1,H1.out.2⟩
   case round=>
    rename World=>wr;obtain ⟨j,hj,rfl,o1,u1⟩:=hrel;have HQ:Hid (wr.ownsRow w.heap.size 67 4 u6 (catL lf j).length (tcells (catL lf j))/\Below w.heap.size w wr):=⟨o1,u1⟩;clear o1 u1 H1
    by_cases hjk:j<k
    ·have j0:(0:Int)<=(j:Int):=by omega
     have j1:(j:Int)<(k:Int):=by omega
     obtain ⟨q1,q2⟩:=HV.out wr j HQ.out.2 hjk;obtain ⟨ao,c,e,e0,e1⟩:=q2.is;rw [e] at q1;have HS:Hid ((ao=none->(lf j).length=0)/\∀ a,ao=some a->∀ i u,(tcells (lf j))[i]?=some u->wr.cell? (a.add i)=some u):=⟨e0,fun a ha i u hu=>by
      by_cases h0:0<(lf j).length
      ·exact (e1 a ha h0).2 i u hu
      ·rw [List.getElem?_eq_none (by rw [tcells_len];omega)] at hu;cases hu⟩
     have hs2:=HL.out (j+1) (by omega);have HN:Hid (catL lf (j+1)=catL lf j++lf j):=rfl;rw [HN.out,List.length_append] at hs2;have hbs:=HQ.out.2.size;clear q2 e e0 e1;go_wp2_with (first
      | (at_builtin;refine wpList_append_any _ rfl _ _ 68 rfl w.heap.size 67 i0 (.agg #[.int .i64 0,.bool false,.int .i64 0,.bool false]) 4 32 Tryz.underlying68 HI.out.1 HI.out.2.1 HI.out.2.2.1 HI.out.2.2.2 rfl (by decide) u6 (catL lf j).length (tcells (catL lf j)) rfl HQ.out.1 ao (lf j).length c (tcells (lf j)) rfl (tcells_len _) HS.out.1 HS.out.2 (tcells_one _) (by unfold maxLen;omega) (by omega) (by omega) ?_;intro v' w4 hown hgrow hat;have HR:Hid (w4.ownsRow w.heap.size 67 4 v' (catL lf (j+1)).length (tcells (catL lf (j+1)))/\Below w.heap.size w w4):=⟨(by rw [HN.out,List.length_append,tcells_app];exact hown),HQ.out.2.trans ⟨hgrow.os,hgrow.tape,hgrow.output,hgrow.size,fun q hq=>hgrow.block q (by omega) fun e=>by have:=(HQ.out.1.lt q e.symm).1;omega⟩⟩;clear hown hgrow hat))
     go_roundw
     case rel=>exact ⟨j+1,by omega,by go_num,HR.out.1,HR.out.2⟩
     case measure=>simp [intOf];omega
    ·obtain rfl:j=k:=by omega
     have j1:¬ (j:Int)<(j:Int):=by omega
     go_wp2_with fail
     go_ret
     exact ⟨_,rfl,HQ.out.1,HQ.out.2⟩
end Go.Proofs.YtpdaknbmcpmhjaaGreatDoor.Ly
namespace Go.Proofs.YtpdaknbmcpmhjaaGreatDoor.Ly
open Go.ChangeShapes Go.WideShapes Go.ChangeAt Go.RowKit
open YtpdaknbmcpmhjaaGreatDoor.Op YtpdaknbmcpmhjaaGreatDoor.So
open YtpdaknbmcpmhjaaGreatDoor.Tb (Tab TabAt Bnds)
open YtpdaknbmcpmhjaaGreatDoor.Bu (Bn Pb BnIn BsAt NAt)
def bnL (n:Nat) (bs:Nat->List O):List Bn:=(List.range n).map fun i=>⟨fun k=>bs (i*4+k)⟩
theorem bnL_len (n:Nat) (bs:Nat->List O):(bnL n bs).length=n:=by simp [bnL]
def tgL (ts:Nat->List Tg) (i:Nat):List Tg:=catL (fun k=>ts (i*4+k)) 4
structure Tw (W:World) (v:Value) (l:List Tg):Prop where
 is:∃ ao c,v=.slice ao l.length c/\(0<l.length->∃ b,ao=some ⟨b,0,none⟩/\b<W.heap.size/\(∀ j u,(tcells l)[j]?=some u->W.cell? ⟨b,j,none⟩=some u)/\∀ j,W.frozen? ⟨b,j,none⟩=false)
theorem Tw.up {W W':World} {v:Value} {l:List Tg} (h:Tw W v l) (g:Below W.heap.size W W'):Tw W' v l:=by
 obtain ⟨ao,c,e,hc⟩:=h.is;refine ⟨ao,c,e,fun h1=>?_⟩;obtain ⟨b,e1,hb,hx,hf⟩:=hc h1;exact ⟨b,e1,Nat.lt_of_lt_of_le hb g.size,fun j u hu=>by rw [(bcell g).1 _ _ hb];exact hx j u hu,fun j=>by rw [(bcell g).2 _ _ hb];exact hf j⟩
theorem Tw.of {W:World} {B:Nat} {v:Value} {l:List Tg} (h:W.ownsRow B 67 4 v l.length (tcells l)):Tw W v l:=by
 have hc:=h;obtain ⟨h1,⟨h2,h3⟩|⟨q,cap,cur,h2,h4,h5,h6,h7,h8,h9⟩⟩:=h
 ·exact ⟨none,0,by rw [h3];exact h2,fun h=>by omega⟩
 ·refine ⟨_,cap,h2,fun _=>⟨q,rfl,(Array.getElem?_eq_some_iff.1 h5).1,fun j u hu=>?_,fun j=>frozen_of_row _ _ _ _ _ h5⟩⟩;rw [<- h9] at hu;rw [cell_of_row W q j cur 67 (0,0) h5];rw [List.getElem?_take] at hu
  split at hu
  ·simpa using hu
  ·cases hu
structure TgAt (W:World) (a:Option Addr) (n:Nat) (tl:Nat->List Tg):Prop where
 is:0<n->∃ b,a=some ⟨b,0,none⟩/\b<W.heap.size/\∀ i,i<n->∃ v,W.cell? ⟨b,i,none⟩=some v/\Tw W v (tl i)
theorem TgAt.up {W W':World} {a:Option Addr} {n:Nat} {tl:Nat->List Tg} (h:TgAt W a n tl) (g:Below W.heap.size W W'):TgAt W' a n tl:=⟨fun h0=>by
 obtain ⟨b,e,hb,hx⟩:=h.is h0;refine ⟨b,e,Nat.lt_of_lt_of_le hb g.size,fun i hi=>?_⟩;obtain ⟨v,hv,ht⟩:=hx i hi;exact ⟨v,by rw [g.cell (p:=⟨b,i,none⟩) hb];exact hv,ht.up g⟩⟩
def BsL (W:World) (lo:Nat) (a:Option Addr) (ls:List Bn):Prop:=∀ W',Fr (fun k=>k<lo) W W'->BsAt W' a ls
def TgB (W:World) (lo:Nat) (a:Option Addr) (n:Nat) (tl:Nat->List Tg):Prop:=∀ W',Fr (fun k=>k<lo) W W'->TgAt W' a n tl
theorem BsL.at {W:World} {lo:Nat} {a:Option Addr} {ls:List Bn} (h:BsL W lo a ls):BsAt W a ls:=h W (Fr.refl _ _)
theorem TgB.at {W:World} {lo n:Nat} {a:Option Addr} {tl:Nat->List Tg} (h:TgB W lo a n tl):TgAt W a n tl:=h W (Fr.refl _ _)
theorem BsL.fr {W W':World} {lo:Nat} {a:Option Addr} {ls:List Bn} (h:BsL W lo a ls) (g:Fr (fun k=>k<lo) W W'):BsL W' lo a ls:=fun V hV=>h V (g.same hV)
theorem TgB.fr {W W':World} {lo n:Nat} {a:Option Addr} {tl:Nat->List Tg} (h:TgB W lo a n tl) (g:Fr (fun k=>k<lo) W W'):TgB W' lo a n tl:=fun V hV=>h V (g.same hV)
theorem GrX.bs {W:World} {g:Nat} {blk:Int} {t:Tab} {own:Nat->Nat} {ab aq:Option Addr} {cb ct n:Nat} {fb ft:Nat->Value} {bs:Nat->List O} {ts:Nat->List Tg} (h:Gr W g blk t own ab aq cb ct n n fb ft bs ts) (hok:∀ c,∀ o∈bs c,o.Ok) (hl:∀ c,(bs c).length<=1000000) (hn:n<=1000000):BsAt W ab (bnL n bs):=by
 refine ⟨by rw [bnL_len];omega,fun h0=>?_⟩;rw [bnL_len] at h0;obtain ⟨rq,rfl,rl,-,rc,-⟩:=row_cells (own:=0) h.hb.r.r h0 rfl;have hsl:∀ c,c<n*4->∃ a cp,fb c=.slice a (bs c).length cp/\OpsAt W a (bs c):=fun c hc=>by
  have hr:=(h.hb.l c hc).r;obtain ⟨g1,⟨g2,g3⟩|⟨q,cap',cur,g2,g3⟩⟩:=id hr
  ·refine ⟨none,0,by rw [g2,g3],⟨fun o ho=>hok c o ho,by have:=hl c;omega,fun h=>by omega⟩⟩
  ·refine ⟨_,cap',g2,?_⟩;rw [g2] at hr;exact opsAt_row hr (hok c) (by have:=hl c;omega)
 refine ⟨rq,0,rfl,rl,fun i hi=>?_⟩;rw [bnL_len] at hi;have hx:∀ k,k<4->∃ a cp,fb (i*4+k)=.slice a (bs (i*4+k)).length cp/\OpsAt W a (bs (i*4+k)):=fun k hk=>hsl _ (by omega);obtain ⟨a0,p0,e0,q0⟩:=hx 0 (by omega);obtain ⟨a1,p1,e1,q1⟩:=hx 1 (by omega);obtain ⟨a2,p2,e2,q2⟩:=hx 2 (by omega);obtain ⟨a3,p3,e3,q3⟩:=hx 3 (by omega);have eb:(bnL n bs)[i]'(by rw [bnL_len];exact hi)=⟨fun k=>bs (i*4+k)⟩:=by simp [bnL]
 refine ⟨⟨fun k=>if k=0 then a0 else if k=1 then a1 else if k=2 then a2 else a3,fun k=>if k=0 then p0 else if k=1 then p1 else if k=2 then p2 else p3⟩,⟨fun k hk=>?_⟩,⟨fun k hk=>?_⟩⟩
 ·rw [eb];rw [show 0+i*4+k=i*4+k by omega];rw [rc (i*4+k) (by omega)]
  match k,hk with
  | 0,_=>rw [e0];rfl
  | 1,_=>rw [e1];rfl
  | 2,_=>rw [e2];rfl
  | 3,_=>rw [e3];rfl
 ·rw [eb]
  match k,hk with
  | 0,_=>exact q0
  | 1,_=>exact q1
  | 2,_=>exact q2
  | 3,_=>exact q3
theorem row_base {W:World} {B B':Nat} {e z n:Nat} {v:Value} {xs:List Value} (h:W.ownsRow B' e z v n xs) (hb:B<=B'):W.ownsRow B e z v n xs:=by
 obtain ⟨h1,h2|⟨q,cap,cur,h2,h3,h4⟩⟩:=h
 ·exact ⟨h1,.inl h2⟩
 ·exact ⟨h1,.inr ⟨q,cap,cur,h2,Nat.le_trans hb h3,h4⟩⟩
structure To (w W:World) (n k:Nat) (ts:Nat->List Tg):Prop where
 b:Below w.heap.size w W
 x:∀ j,j<n->∃ v,W.cell? ⟨w.heap.size,j,none⟩=some v
 c:∀ j,j<k->∃ v,W.cell? ⟨w.heap.size,j,none⟩=some v/\W.ownsRow (w.heap.size+1) 67 4 v (tgL ts j).length (tcells (tgL ts j))
 f:∀ j,W.frozen? ⟨w.heap.size,j,none⟩=false
 lt:w.heap.size<W.heap.size
theorem To.up {w W W':World} {n k:Nat} {ts:Nat->List Tg} (h:To w W n k ts) (g:Below W.heap.size W W'):To w W' n k ts:=
 ⟨h.b.trans (g.mono h.b.size),fun j hj=>by obtain ⟨v,hv⟩:=h.x j hj;exact ⟨v,by rw [g.cell (p:=⟨w.heap.size,j,none⟩) h.lt];exact hv⟩,fun j hj=>by
  obtain ⟨v,hv,hr⟩:=h.c j hj;exact ⟨v,by rw [g.cell (p:=⟨w.heap.size,j,none⟩) h.lt];exact hv,Bu.row_up hr g⟩,fun j=>by rw [(bcell g).2 _ _ h.lt];exact h.f j,Nat.lt_of_lt_of_le h.lt g.size⟩
theorem To.set {w W:World} {n k:Nat} {ts:Nat->List Tg} {v:Value} (h:To w W n k ts) (hk:k<n) (hr:W.ownsRow (w.heap.size+1) 67 4 v (tgL ts k).length (tcells (tgL ts k))):To w (W.setCell ⟨w.heap.size,k,none⟩ v) n (k+1) ts:=by
 have hrow:∀ {u:Value} {l:List Tg},W.ownsRow (w.heap.size+1) 67 4 u l.length (tcells l)->(W.setCell ⟨w.heap.size,k,none⟩ v).ownsRow (w.heap.size+1) 67 4 u l.length (tcells l):=fun h=>ownsRow_setCell_below h (a:=⟨w.heap.size,k,none⟩) (by simp) v;have hs:(W.setCell ⟨w.heap.size,k,none⟩ v).cell? ⟨w.heap.size,k,none⟩=some v:=by obtain ⟨u,hu⟩:=h.x k hk;exact World.cell?_setCell_same _ _ _ hu
 have ho:∀ j,j≠k->(W.setCell ⟨w.heap.size,k,none⟩ v).cell? ⟨w.heap.size,j,none⟩=W.cell? ⟨w.heap.size,j,none⟩:=fun j hj=>World.cell?_setCell_other _ _ _ _ (by intro e;injection e with _ e;exact hj e.symm);refine ⟨h.b.setCell (Nat.le_refl _) _,fun j hj=>?_,fun j hj=>?_,fun j=>by rw [World.frozen?_setCell];exact h.f j,by rw [World.size_setCell];exact h.lt⟩
 ·by_cases e:j=k
  ·subst e;exact ⟨_,hs⟩
  ·rw [ho j e];exact h.x j hj
 ·by_cases e:j=k
  ·subst e;exact ⟨_,hs,hrow hr⟩
  ·obtain ⟨u,hu,hr2⟩:=h.c j (by omega);exact ⟨u,by rw [ho j e];exact hu,hrow hr2⟩
theorem To.fr {w W W':World} {n k lo:Nat} {ts:Nat->List Tg} (h:To w W n k ts) (g:Fr (fun j=>j<lo) W W') (hlo:lo<=w.heap.size):(∀ j,j<k->∃ v,W'.cell? ⟨w.heap.size,j,none⟩=some v/\W'.ownsRow (w.heap.size+1) 67 4 v (tgL ts j).length (tcells (tgL ts j)))/\w.heap.size<W'.heap.size:=
 ⟨fun j hj=>by
  obtain ⟨v,hv,hr⟩:=h.c j hj;exact ⟨v,by rw [g.cell h.lt (fun e=>by omega)];exact hv,Bu.row_fr hr g fun q hq e=>by have:=(hr.lt q hq).1;omega⟩,Nat.lt_of_lt_of_le h.lt g.size⟩
theorem To.tgb {w W:World} {n lo:Nat} {ts:Nat->List Tg} (h:To w W n n ts) (hlo:lo<=w.heap.size):TgB W lo (some ⟨w.heap.size,0,none⟩) n (tgL ts):=fun V hV=>by
 obtain ⟨h1,h2⟩:=h.fr hV hlo;exact ⟨fun _=>⟨_,rfl,h2,fun i hi=>by
  obtain ⟨v,hv,hr⟩:=h1 i hi;exact ⟨v,hv,Tw.of hr⟩⟩⟩
theorem info68:(Tryz.prog.info? 68).map (fun i=>(i.zero,i.size,i.bytes))=some (some (.slice none 0 0),1,24):=by kernel_rfl
theorem to_made {w W:World} {n:Nat} {ts:Nat->List Tg} (h:W.ownsRow w.heap.size 68 1 (.slice (some ⟨w.heap.size,0,none⟩) n n) n (madeCells (Value.slice none 0 0).cells (n*1)).toList) (hb:Below w.heap.size w W):To w W n 0 ts:=by
 obtain ⟨g1,⟨g2,g3⟩|⟨g,cap',cur,g2,g3,g4,g5,g6,g7,g8⟩⟩:=h
 ·cases g2
 ·obtain rfl:w.heap.size=g:=by injection g2 with g2;injection g2 with g2;injection g2
  refine ⟨hb,fun c hc=>⟨.slice none 0 0,?_⟩,fun j hj=>absurd hj (by omega),fun k=>frozen_of_row _ _ _ _ _ g4,(Array.getElem?_eq_some_iff.1 g4).1⟩;rw [cell_of_row W w.heap.size c cur 68 (0,0) g4];have e1:(cur.toList.take (n*1))[c]?=some (.slice none 0 0):=by
   rw [g8];simp [madeCells,Value.cells,hc,Nat.mod_one]
  rw [List.getElem?_take,if_pos (by omega)] at e1;simpa using e1
theorem told_any (g n:Nat) (blk:Int) (t:Tab) (own:Nat->Nat) (bs:Nat->List O) (ts:Nat->List Tg) (w:World) (h:GrX w g blk t own n bs ts) (hok:∀ c,∀ o∈bs c,o.Ok) (hl:∀ c,(bs c).length<=100000) (hlt:∀ c,(ts c).length<=100000) (hn:n<=100000) (lo:Nat) (hlo:∀ k,k<lo->own k=0) (hlw:lo<=w.heap.size) :
  Calls Tryz.prog 45 #[.pointer (some ⟨g,0,none⟩)] w fun e w'=>∃ ab cb a,e=.returned (.tuple #[.slice ab n cb,.slice a n n])/\BsL w' lo ab (bnL n bs)/\TgB w' lo a n (tgL ts)/\Below w.heap.size w w':=by
 obtain ⟨ab,aq,cb,ct,fb,ft,hg⟩:=h;have HB:Hid (∀ W,Below w.heap.size w W->BsL W lo ab (bnL n bs)):=fun W hW V hV=>GrX.bs ((hg.up hW).fr hV fun k _ e=>hlo k e) hok (fun c=>Nat.le_trans (hl c) (by omega)) (by omega);have HG:Hid (Gr w g blk t own ab aq cb ct n n fb ft bs ts):=hg;obtain ⟨j0,hj,hj2⟩:=Option.map_eq_some_iff.1 info68;simp only [Prod.mk.injEq] at hj2;have HJ:Hid (Tryz.prog.info? 68=some j0/\j0.zero=some (.slice none 0 0)/\j0.size=1/\j0.bytes=24):=⟨hj,hj2.1,hj2.2.1,hj2.2.2⟩;have c16:=hg.at'.c 16 _ rfl;have glt:=hg.at'.lt;have HA:Hid (∀ W,Below w.heap.size w W->At W g (gcs blk t (.slice ab n cb) (.slice aq n ct))):=fun W hb=>At.fr hg.at' (Fr.of (X:=Non) hb) fun e=>e;clear hg hj hj2 hok hl;go_enter Tryz.func45,Tryz.ntmps45;go_wp2_with (first|(at_make;refine wpList_make_full _ rfl _ _ 39 rfl w.heap.size 68 j0 (.slice none 0 0) 1 Tryz.underlying39 HJ.out.1 HJ.out.2.1 HJ.out.2.2.1 .i64 .i64 (n:Int) (n:Int) n rfl rfl rfl rfl (by rw [HJ.out.2.2.2];omega) (by unfold maxLen;omega) (Nat.le_refl _) ?_;intro w4 hown hgr;have HT:Hid (To w w4 n 0 ts):=to_made hown ⟨hgr.os,hgr.tape,hgr.output,hgr.size,fun k hk=>hgr.block k hk (by simp)⟩;clear hown hgr;have a4:=HA.out w4 HT.out.b;have d16:=a4.c 16 _ rfl;have dl:=a4.lt;clear a4))
 clear c16 glt d16 dl
 go_loopw [18] (fun v wr=>∃ k:Nat,k<=n/\v=.int .i64 k/\Hid (To w wr n k ts)) (fun v _=>n-(intOf v).toNat)
 case atStart=>exact ⟨0,by omega,rfl,HT⟩
 case round=>
  rename World=>wr;clear HT;obtain ⟨k,hk,rfl,HT⟩:=hrel
  by_cases hlt2:k<n
  ·have k1:(k:Int)<(n:Int):=by omega
   obtain ⟨rt,rfl,rl,-,rc,-⟩:=row_cells (own:=0) HG.out.ht.r.r (by omega) rfl;have hb:=HT.out.b;have hsl:∀ j,j<4->∃ a cp,ft (k*4+j)=.slice a (ts (k*4+j)).length cp:=fun j hj=>by
    obtain ⟨g1,⟨g2,g3⟩|⟨q,cap',cur,g2,g3⟩⟩:=(HG.out.ht.l (k*4+j) (by omega)).r
    ·exact ⟨none,0,by rw [g2,g3]⟩
    ·exact ⟨_,cap',g2⟩
   obtain ⟨a0,p0,e0⟩:=hsl 0 (by omega);obtain ⟨a1,p1,e1⟩:=hsl 1 (by omega);obtain ⟨a2,p2,e2⟩:=hsl 2 (by omega);obtain ⟨a3,p3,e3⟩:=hsl 3 (by omega);have r0:wr.cell? ⟨rt,k*4,none⟩=some (.slice a0 (ts (k*4+0)).length p0):=by rw [(bcell hb).1 _ _ rl,<- e0];exact rc (k*4) (by omega)
   have r1:wr.cell? ⟨rt,k*4+1,none⟩=some (.slice a1 (ts (k*4+1)).length p1):=by rw [(bcell hb).1 _ _ rl,<- e1];exact rc (k*4+1) (by omega)
   have r2:wr.cell? ⟨rt,k*4+2,none⟩=some (.slice a2 (ts (k*4+2)).length p2):=by rw [(bcell hb).1 _ _ rl,<- e2];exact rc (k*4+2) (by omega)
   have r3:wr.cell? ⟨rt,k*4+3,none⟩=some (.slice a3 (ts (k*4+3)).length p3):=by rw [(bcell hb).1 _ _ rl,<- e3];exact rc (k*4+3) (by omega)
   have HC:Hid (Calls Tryz.prog 99 #[.slice (some ⟨wr.heap.size,0,none⟩) 4 4] (wr.alloc (.cells #[.slice a0 (ts (k*4+0)).length p0,.slice a1 (ts (k*4+1)).length p1,.slice a2 (ts (k*4+2)).length p2,.slice a3 (ts (k*4+3)).length p3] 176)) fun e w'=>∃ v,e=.returned v/\w'.ownsRow (w.heap.size+1) 67 4 v (tgL ts k).length (tcells (tgL ts k))/\To w w' n k ts):=by
    have hA:=At.new wr #[.slice a0 (ts (k*4+0)).length p0,.slice a1 (ts (k*4+1)).length p1,.slice a2 (ts (k*4+2)).length p2,.slice a3 (ts (k*4+3)).length p3] 176;have hbw:Below wr.heap.size wr (wr.alloc (.cells #[.slice a0 (ts (k*4+0)).length p0,.slice a1 (ts (k*4+1)).length p1,.slice a2 (ts (k*4+2)).length p2,.slice a3 (ts (k*4+3)).length p3] 176)):=(Below.refl _ _).alloc (Nat.le_refl _) _;have hT2:=HT.out.up hbw;have htl:∀ j,j<4->Tl (wr.alloc (.cells #[.slice a0 (ts (k*4+0)).length p0,.slice a1 (ts (k*4+1)).length p1,.slice a2 (ts (k*4+2)).length p2,.slice a3 (ts (k*4+3)).length p3] 176)) (ft (k*4+j)) (ts (k*4+j)):=fun j hj=>(Tl.of (HG.out.ht.l (k*4+j) (by omega)).r).up hT2.b;refine Calls.mono (concat_any wr.heap.size 4 4 (fun j=>ft (k*4+j)) (fun j=>ts (k*4+j)) _ (by simp) (fun j hj=>⟨?_,htl j hj⟩) (by omega) ?_) ?_
    ·match j,hj with
     | 0,_=>rw [e0];exact hA.c 0 _ rfl
     | 1,_=>rw [e1];exact hA.c 1 _ rfl
     | 2,_=>rw [e2];exact hA.c 2 _ rfl
     | 3,_=>rw [e3];exact hA.c 3 _ rfl
    ·have q0:=hlt (k*4+0);have q1:=hlt (k*4+1);have q2:=hlt (k*4+2);have q3:=hlt (k*4+3);simp only [catL,List.length_append,List.length_nil];omega
    ·rintro e w' ⟨v,rfl,h1,h2⟩;exact ⟨v,rfl,row_base h1 (by have:=HT.out.lt;simp;omega),hT2.up h2⟩
   have rtl:rt<wr.heap.size:=Nat.lt_of_lt_of_le rl hb.size;clear hb hsl e0 e1 e2 e3 rc rl;generalize (ts (k*4+0)).length=m0 at *;generalize (ts (k*4+1)).length=m1 at *;generalize (ts (k*4+2)).length=m2 at *;generalize (ts (k*4+3)).length=m3 at *;go_wp2_with (first|(go_at_call 99;refine Calls.mono HC.out ?_;rintro e w5 ⟨v,rfl,h1,h2⟩;have HR5:Hid (w5.ownsRow (w.heap.size+1) 67 4 v (tgL ts k).length (tcells (tgL ts k))/\To w w5 n k ts):=⟨h1,h2⟩;obtain ⟨u0,z1⟩:=h2.x k hlt2;have z2:=h2.f k;have z3:=h2.lt;obtain ⟨va,vc,rfl,-⟩:=(Tl.of h1).is;clear h1 h2))
   go_roundw
   case rel=>exact ⟨k+1,by omega,by go_num,HR5.out.2.set hlt2 HR5.out.1⟩
   case measure=>simp [intOf];omega
  ·obtain rfl:k=n:=by omega
   have k1:¬ (k:Int)<(k:Int):=by omega
   have a4:=HA.out wr HT.out.b;have d15:=a4.c 15 _ rfl;have dl:=a4.lt;clear a4;go_wp2_with fail
   go_ret2
   exact ⟨ab,cb,_,rfl,HB.out _ HT.out.b,HT.out.tgb hlw,HT.out.b⟩
end Go.Proofs.YtpdaknbmcpmhjaaGreatDoor.Ly
