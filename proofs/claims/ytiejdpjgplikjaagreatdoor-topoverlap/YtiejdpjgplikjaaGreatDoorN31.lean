/- Parts Gc. -/
import Derived.Test.YtiejdpjgplikjaaGreatDoorN01
import Derived.Maps.AppendAt
import Derived.Lib.AppendZeros
import Derived.Deep.AppendLies
import Derived.OwnWalk
set_option maxRecDepth 20000
set_option maxHeartbeats 8000000
namespace Go.Proofs.YtiejdpjgplikjaaGreatDoor.Mo
open Go.ChangeShapes Go.WideShapes Go.ChangeAt Go.RowKit
open YtiejdpjgplikjaaGreatDoor.So
theorem infoN:(Tryz.prog.info? 3).map (fun i=>(i.zero,i.size,i.bytes))=some (some (.int .i64 0),1,8):=by kernel_rfl
theorem run_append_any {P:Program} (w:World) (base:Nat) (t ty e:TypeId) (i:TypeInfo) (z:Value) (size bytes:Nat) (ht:P.underlying t=some (.slice e)) (hi:P.info? e=some i) (hz:i.zero=some z)
  (hsize:i.size=size) (hby:i.bytes=bytes) (hzs:z.cells.size=size) (hsz:0<size)
  (v:Value) (n:Nat) (xs:List Value) (hown:w.ownsRow base e size v n xs)
  (ao:Option Addr) (m c:Nat) (news:List Value) (hl:news.length=m*size) (h0:ao=none->m=0) (hnews:∀ a,ao=some a->∀ j u,news[j]?=some u->w.cell? (a.add j)=some u) (h1:∀ u∈news,u.oneCell'=true)
  (h63:n+m<=maxLen) (hbytes:(n+m)*bytes<=140737488355328) (hbase:base<=w.heap.size) :
  ∃ v' w',(Builtin.append_ #[t,t] ty #[v,.slice ao m c]).run P w=.ok v' w'/\w'.ownsRow base e size v' (n+m) (xs++news)/\w.grownBy w' v.ownBlock/\(v'.ownBlock=v.ownBlock\/v'.ownBlock=some w.heap.size):=by
 cases ao with
 | some a=>
  obtain ⟨v',w',a1,a2,a3,-,a5⟩:=run_append_own_at (P:=P) w base t ty e i z size bytes ht hi hz hsize hby hzs hsz v n xs hown a m c news hl (hnews a rfl) h1 h63 hbytes hbase;exact ⟨v',w',a1,a2,a3,a5⟩
 | none=>
  obtain rfl:=h0 rfl;obtain rfl:news=[]:=List.eq_nil_of_length_eq_zero (by simpa using hl);have hown0:=hown;refine ⟨v,w,?_,by simpa using hown0,⟨rfl,rfl,rfl,Nat.le_refl _,fun _ _ _=>rfl⟩,.inl rfl⟩;obtain ⟨hx1,⟨h2,h3⟩|⟨g,cap,cur,h2,h3,h4,h5,h6⟩⟩:=hown
  ·subst h2;simp [Builtin.append_,run_underlying ht,sizeOf,typeInfo,hi,Builtin.lenOf,Builtin.firstCells]
  ·subst h2;simp [Builtin.append_,run_underlying ht,sizeOf,typeInfo,hi,Builtin.lenOf,h5,Builtin.firstCells,loadCells,storeCells]
theorem wpList_append_any {P:Program} (w:World) {ops:Array Oper} {rest:List Oper} {o:Oper} {a:Act} {Q:Exit->Act->World->Prop} (hgd:o.guard=none) (s x:Operand) (t:TypeId)
  (ho:o.op=.call { callee:=.builtin .append,args:=#[s,x],argTypes:=#[t,t] })
  (base:Nat) (e:TypeId) (i:TypeInfo) (z:Value) (size bytes:Nat) (ht:P.underlying t=some (.slice e)) (hi:P.info? e=some i) (hz:i.zero=some z)
  (hsize:i.size=size) (hby:i.bytes=bytes) (hzs:z.cells.size=size) (hsz:0<size)
  (v:Value) (n:Nat) (xs:List Value) (hs:a.eval s=v) (hown:w.ownsRow base e size v n xs)
  (ao:Option Addr) (m c:Nat) (news:List Value) (hx:a.eval x=.slice ao m c) (hl:news.length=m*size) (h0:ao=none->m=0) (hnews:∀ ad,ao=some ad->∀ j u,news[j]?=some u->w.cell? (ad.add j)=some u) (h1:∀ u∈news,u.oneCell'=true)
  (h63:n+m<=maxLen) (hbytes:(n+m)*bytes<=140737488355328) (hbase:base<=w.heap.size)
  (h:∀ v' w',w'.ownsRow base e size v' (n+m) (xs++news)->w.grownBy w' v.ownBlock->(v'.ownBlock=v.ownBlock\/v'.ownBlock=some w.heap.size)->wpList P ops Q rest (a.put o.dst v') w') :
  wpList P ops Q (o::rest) a w:=by
 refine wpList_plain hgd fun K hK=>?_;obtain ⟨v',w',hr,h2,h3,h5⟩:=run_append_any (P:=P) w base t o.type e i z size bytes ht hi hz hsize hby hzs hsz v n xs hown ao m c news hl h0 hnews h1 h63 hbytes hbase;unfold Oper.wp execOp;simp only [ho,resolve,invoke,builtin,Sem.run_bind,Sem.run_pure,Result.andThen_ok,List.map_toArray,List.map_cons,List.map_nil,hs,hx,hr];exact hK _ _ (h v' w' h2 h3 h5)
theorem grow_any (n:Nat) (w:World) (hn:n<=1000000000):Calls Tryz.prog 177 #[.slice none 0 0,.int .i64 (n:Int)] w fun e w'=>∃ v,e=.returned v/\w'.ownsRow w.heap.size 3 1 v 0 []/\Below w.heap.size w w':=by
 obtain ⟨i0,hi,hi2⟩:=Option.map_eq_some_iff.1 infoN;simp only [Prod.mk.injEq] at hi2;obtain ⟨hz0,hz1,hz2⟩:=hi2
 by_cases h0:n=0
 ·subst h0;go_enter Tryz.func177,Tryz.ntmps177;go_wp2_with fail
  go_ret
  exact ⟨_,rfl,World.ownsRow_nil _ _ _ _,Below.refl _ _⟩
 ·have n0:¬ (n:Int)<0:=by omega
  have n1:(0:Int)<(n:Int):=by omega
  have n2:(n:Int)<=1000000000:=by omega
  have hge:=grownCap_ge w n 0 3;have hcm:grownCap w n 0 3<=maxLen:=grownCap_le_maxLen w n 0 3 (by unfold maxLen;omega);have HR:Hid _:=Lib.run_append_nil_zeros (P:=Tryz.prog) w 27 3 27 3 i0 (.int .i64 0) .i64 .i64 Tryz.underlying27 Tryz.underlying3 hi hz0 n (by omega) (by rw [hz1];omega) (by omega) (by rw [hz2];omega);have HO:Hid ((w.drew.alloc (.cells (Builtin.zeroCells (Value.int .i64 0).cells n++Builtin.zeroCells (Value.int .i64 0).cells (grownCap w n 0 3-n)) 3)).ownsRow w.heap.size 3 1 (.slice (some ⟨w.heap.size,0,none⟩) 0 (grownCap w n 0 3)) 0 []):=⟨rfl,.inr ⟨w.heap.size,_,_,rfl,Nat.le_refl _,heap_alloc_new w.drew _,Nat.zero_le _,hcm,by simp [size_zeroCells,Value.cells];omega,by simp⟩⟩;have HU:Hid (Below w.heap.size w (w.drew.alloc (.cells (Builtin.zeroCells (Value.int .i64 0).cells n++Builtin.zeroCells (Value.int .i64 0).cells (grownCap w n 0 3-n)) 3))):=((Below.refl _ _).drew).alloc (Nat.le_refl _) _;generalize grownCap w n 0 3=gc at *;clear hi hz0 hz1 hz2;go_enter Tryz.func177,Tryz.ntmps177;go_wp2_with (first|(at_builtin;refine Lib.wpList_append_run _ rfl _ _ _ _ rfl _ _ rfl rfl _ _ HR.out ?_))
  go_ret
  exact ⟨_,rfl,HO.out,HU.out⟩
def ints (l:List Int):List Value:=l.map fun x=>.int .i64 x
theorem ints_app (l m:List Int):ints (l++m)=ints l++ints m:=List.map_append
theorem ints_len (l:List Int):(ints l).length=l.length:=List.length_map _
theorem ints_one (l:List Int):∀ u∈ints l,u.oneCell'=true:=fun u hu=>by
 obtain ⟨x,-,rfl⟩:=List.mem_map.1 hu;rfl
structure Ln (W:World) (v:Value) (l:List Int):Prop where
 is:∃ ao c,v=.slice ao l.length c/\(ao=none->l.length=0)/\∀ a,ao=some a->0<l.length->a.block<W.heap.size/\∀ j u,(ints l)[j]?=some u->W.cell? (a.add j)=some u
theorem addr_block (a:Addr) (j:Nat):(a.add j).block=a.block:=by
 unfold Addr.add;split <;> rfl
theorem Ln.up {W W':World} {v:Value} {l:List Int} (h:Ln W v l) (g:Below W.heap.size W W'):Ln W' v l:=by
 obtain ⟨ao,c,e,h0,hc⟩:=h.is;refine ⟨ao,c,e,h0,fun a ha h1=>?_⟩;obtain ⟨hb,hx⟩:=hc a ha h1;refine ⟨Nat.lt_of_lt_of_le hb g.size,fun j u hu=>?_⟩;rw [g.cell (p:=a.add j) (by rw [addr_block];exact hb)];exact hx j u hu
theorem Ln.of {W:World} {B:Nat} {v:Value} {l:List Int} (h:W.ownsRow B 3 1 v l.length (ints l)):Ln W v l:=by
 have hlt:=h.lt;have hc:=h;obtain ⟨h1,⟨h2,h3⟩|⟨q,cap,cur,h2,h4⟩⟩:=h
 ·exact ⟨none,0,by rw [h3];exact h2,fun _=>h3,fun a e=>nomatch e⟩
 ·refine ⟨_,cap,h2,(fun e=>nomatch e),fun a e _=>?_⟩
  injection e with e
  subst e;exact ⟨(hlt q (by rw [h2];rfl)).2,hc.cells (by rw [h2];rfl)⟩
def catL (lf:Nat->List Int):Nat->List Int
 | 0=>[]
 | k+1=>catL lf k++lf k
theorem catL_le (lf:Nat->List Int) {k n:Nat} (h:k<=n):(catL lf k).length<=(catL lf n).length:=by
 induction n with
 | zero=>
  obtain rfl:k=0:=by omega
  exact Nat.le_refl _
 | succ n ih=>
  by_cases e:k=n+1
  ·subst e;exact Nat.le_refl _
  ·refine Nat.le_trans (ih (by omega)) ?_;show _<=(catL lf n++lf n).length;rw [List.length_append];omega
theorem concat_any (cb n cp:Nat) (vf:Nat->Value) (lf:Nat->List Int) (w:World) (hb:cb<w.heap.size) (hv:∀ k,k<n->w.cell? ⟨cb,k,none⟩=some (vf k)/\Ln w (vf k) (lf k)) (hn:n<=1000) (hl:(catL lf n).length<=1000000) :
  Calls Tryz.prog 172 #[.slice (some ⟨cb,0,none⟩) n cp] w fun e w'=>∃ v,e=.returned v/\w'.ownsRow w.heap.size 3 1 v (catL lf n).length (ints (catL lf n))/\Below w.heap.size w w':=by
 have HV:Hid (∀ (W:World) (k:Nat),Below w.heap.size w W->k<n->W.cell? ⟨cb,k,none⟩=some (vf k)/\Ln W (vf k) (lf k)):=fun W k hW hk=>⟨by rw [hW.cell (p:=⟨cb,k,none⟩) hb];exact (hv k hk).1,(hv k hk).2.up hW⟩;have HL:Hid (∀ k:Nat,k<=n->(catL lf k).length<=1000000):=fun k hk=>Nat.le_trans (catL_le lf hk) hl;have HG:Hid (∀ (m:Nat) (W:World),m<=1000000000->Calls Tryz.prog 177 #[.slice none 0 0,.int .i64 (m:Int)] W fun e w'=>∃ v,e=.returned v/\w'.ownsRow W.heap.size 3 1 v 0 []/\Below W.heap.size W w'):=fun m W h=>grow_any m W h;obtain ⟨i0,hi,hi2⟩:=Option.map_eq_some_iff.1 infoN;simp only [Prod.mk.injEq] at hi2;obtain ⟨hz0,hz1,hz2⟩:=hi2;have HI:Hid (Tryz.prog.info? 3=some i0/\i0.zero=some (.int .i64 0)/\i0.size=1/\i0.bytes=8):=⟨hi,hz0,hz1,hz2⟩;have hn':(n:Int)<=1000:=by omega
 clear hv hl hi hz0 hz1 hz2;go_enter Tryz.func172,Tryz.ntmps172;go_wp2_with fail
 go_loop [3,11] (fun u t=>∃ k:Nat,k<=n/\t=.int .i64 k/\u=.int .i64 (((catL lf k).length:Nat):Int)) (fun _ t=>n-(intOf t).toNat)
 case atStart=>exact ⟨0,by omega,rfl,rfl⟩
 case round=>
  obtain ⟨k,hk,rfl,rfl⟩:=hrel;have hsm:=HL.out k hk
  by_cases hlt:k<n
  ·have k0:(0:Int)<=(k:Int):=by omega
   have k1:(k:Int)<(n:Int):=by omega
   obtain ⟨q1,q2⟩:=HV.out w k (Below.refl _ _) hlt;obtain ⟨ao,c,e,-,-⟩:=q2.is;rw [e] at q1;have HN:Hid ((catL lf (k+1)).length=(catL lf k).length+(lf k).length):=by show (catL lf k++lf k).length=_;rw [List.length_append]
   have hs2:=HL.out (k+1) (by omega);rw [HN.out] at hs2;generalize (catL lf k).length=s0 at *;generalize (lf k).length=l0 at *;have g1:¬ (s0:Int)+(l0:Int)<0:=by omega
   have g2:(s0:Int)+(l0:Int)<=1000000:=by omega
   clear q2 e;go_wp2_with fail
   go_round
   case rel=>exact ⟨k+1,by omega,by go_num,by rw [HN.out];rfl⟩
   case measure=>simp [intOf];omega
  ·obtain rfl:k=n:=by omega
   have k1:¬ (k:Int)<(k:Int):=by omega
   go_wp2_with (first
    | (go_at_call 177;refine Calls.mono (HG.out _ _ (by omega)) ?_;rintro e w1 ⟨v1,rfl,o1,u1⟩;have H1:Hid (w1.ownsRow w.heap.size 3 1 v1 0 []/\Below w.heap.size w w1):=⟨o1,u1⟩;clear o1 u1 HG))
   go_loopw [6,27] (fun u t wr=>∃ j:Nat,j<=k/\t=.int .i64 j/\wr.ownsRow w.heap.size 3 1 u (catL lf j).length (ints (catL lf j))/\Below w.heap.size w wr) (fun _ t _=>k-(intOf t).toNat)
   case atStart=>exact ⟨0,by omega,rfl,H1.out.1,H1.out.2⟩
   case round=>
    rename World=>wr;obtain ⟨j,hj,rfl,o1,u1⟩:=hrel;have HQ:Hid (wr.ownsRow w.heap.size 3 1 u6 (catL lf j).length (ints (catL lf j))/\Below w.heap.size w wr):=⟨o1,u1⟩;clear o1 u1 H1
    by_cases hjk:j<k
    ·have j0:(0:Int)<=(j:Int):=by omega
     have j1:(j:Int)<(k:Int):=by omega
     obtain ⟨q1,q2⟩:=HV.out wr j HQ.out.2 hjk;obtain ⟨ao,c,e,e0,e1⟩:=q2.is;rw [e] at q1;have HS:Hid ((ao=none->(lf j).length=0)/\∀ a,ao=some a->∀ i u,(ints (lf j))[i]?=some u->wr.cell? (a.add i)=some u):=⟨e0,fun a ha i u hu=>by
      by_cases h0:0<(lf j).length
      ·exact (e1 a ha h0).2 i u hu
      ·rw [List.getElem?_eq_none (by rw [ints_len];omega)] at hu;cases hu⟩
     have hs2:=HL.out (j+1) (by omega);have HN:Hid (catL lf (j+1)=catL lf j++lf j):=rfl;rw [HN.out,List.length_append] at hs2;have hbs:=HQ.out.2.size;clear q2 e e0 e1;go_wp2_with (first
      | (at_builtin;refine wpList_append_any _ rfl _ _ 27 rfl w.heap.size 3 i0 (.int .i64 0) 1 8 Tryz.underlying27 HI.out.1 HI.out.2.1 HI.out.2.2.1 HI.out.2.2.2 rfl (by decide) u6 (catL lf j).length (ints (catL lf j)) rfl HQ.out.1 ao (lf j).length c (ints (lf j)) rfl (by rw [ints_len];omega) HS.out.1 HS.out.2 (ints_one _) (by unfold maxLen;omega) (by omega) (by omega) ?_;intro v' w4 hown hgrow hat;have HR:Hid (w4.ownsRow w.heap.size 3 1 v' (catL lf (j+1)).length (ints (catL lf (j+1)))/\Below w.heap.size w w4):=⟨(by rw [HN.out,List.length_append,ints_app];exact hown),HQ.out.2.trans ⟨hgrow.os,hgrow.tape,hgrow.output,hgrow.size,fun q hq=>hgrow.block q (by omega) fun e=>by have:=(HQ.out.1.lt q e.symm).1;omega⟩⟩;clear hown hgrow hat))
     go_roundw
     case rel=>exact ⟨j+1,by omega,by go_num,HR.out.1,HR.out.2⟩
     case measure=>simp [intOf];omega
    ·obtain rfl:j=k:=by omega
     have j1:¬ (j:Int)<(j:Int):=by omega
     go_wp2_with fail
     go_ret
     exact ⟨_,rfl,HQ.out.1,HQ.out.2⟩
end Go.Proofs.YtiejdpjgplikjaaGreatDoor.Mo
