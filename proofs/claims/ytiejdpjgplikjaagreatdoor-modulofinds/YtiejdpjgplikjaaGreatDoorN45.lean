/- Parts De Hu. -/
import Derived.Test.YtiejdpjgplikjaaGreatDoorN44
import Derived.Test.YtiejdpjgplikjaaGreatDoorN05
import Derived.Laws.AppendOwnNone
import Derived.Test.YtiejdpjgplikjaaGreatDoorN09
import Derived.Test.YtiejdpjgplikjaaGreatDoorN00
set_option maxRecDepth 20000
set_option maxHeartbeats 16000000
namespace Go.Proofs.YtiejdpjgplikjaaGreatDoor.Dp
open Go.ChangeShapes Go.WideShapes Go.ChangeAt Go.RowKit
open YtiejdpjgplikjaaGreatDoor.Op YtiejdpjgplikjaaGreatDoor.So
open YtiejdpjgplikjaaGreatDoor.Al
open YtiejdpjgplikjaaGreatDoor.Tb (Tab TabAt Bnds)
theorem eOwn_new (W:World) (e:Ed):EOwn W.heap.size (W.alloc (.cells #[.int .i64 e.f,.int .i64 e.t,.int .i64 e.l,.int .i64 e.d,.int .i8 e.y] 47)) (some ⟨W.heap.size,0,none⟩) 1 [e]:=by
 show World.ownsRow _ _ 47 5 (.slice (some ⟨W.heap.size,0,none⟩) 1 1) 1 (ecells [e]);exact ⟨rfl,.inr ⟨_,1,_,rfl,Nat.le_refl _,heap_alloc_new W _,Nat.le_refl _,by unfold maxLen;omega,rfl,rfl⟩⟩
theorem ecells_app (es fs:List Ed):ecells (es++fs)=ecells es++ecells fs:=by
 unfold ecells;simp
theorem ecells_one (es:List Ed):∀ u∈ecells es,u.oneCell'=true:=fun u hu=>by
 unfold ecells at hu;simp only [List.mem_flatMap] at hu;obtain ⟨e,-,h⟩:=hu;simp [Ed.cells] at h
 rcases h with rfl|rfl|rfl|rfl|rfl <;> simp [Value.oneCell']
theorem St.cat {w W w4:World} {t:Tab} {a:Option Addr} {c:Nat} {v:Value} {es fs:List Ed} (s:St w W t a c es) (hgrow:W.grownBy w4 (Value.slice a es.length c).ownBlock) (hown:w4.ownsRow (w.heap.size+1) 47 5 v (es.length+fs.length) (ecells es++ecells fs)):∃ a2 c2,v=.slice a2 (es++fs).length c2/\St w w4 t a2 c2 (es++fs):=by
 have h0:W.ownsRow (w.heap.size+1) 47 5 (.slice a es.length c) es.length (ecells es):=s.es;have hl:=s.t.lt;have B:Below (w.heap.size+1) W w4:=(grown_fr hgrow).below (by omega) fun k hk e=>by
  have:=(h0.lt k e).1
  omega
 rw [<- List.length_append,<- ecells_app] at hown;obtain ⟨a2,c2,rfl,h5⟩:=eOwn_of hown (Nat.le_refl _);exact ⟨a2,c2,rfl,s.t.below B (by omega),h5,s.up.trans (B.mono (by omega))⟩
theorem step_append_row {ops:Array Oper} {o:Oper} {a:Act} {K:Act->World->Prop} {Q:Exit->Act->World->Prop} {E:Prop} {w W:World} {t:Tab} {a0 a1:Option Addr} {c0 c1 B1:Nat} {es fs:List Ed} (hgd:o.guard=none) (s x:Operand)
  (ho:o.op=.call { callee:=.builtin .append,args:=#[s,x],argTypes:=#[38,38] }) (hs:a.eval s=.slice a0 es.length c0) (h0:St w W t a0 c0 es) (hx:a.eval x=.slice a1 fs.length c1) (h1:EOwn B1 W a1 c1 fs) (hn:es.length+fs.length<=1000000)
  (h:∀ a2 c2 w',St w w' t a2 c2 (es++fs)->K (a.put o.dst (.slice a2 (es++fs).length c2)) w') :
  if Region.wanted o (yielded ops a.tmps)=true then Oper.wp Tryz.prog o a W K Q else E:=by
 have hw:Region.wanted o (yielded ops a.tmps)=true:=by simp [Region.wanted,hgd]
 rw [if_pos hw];obtain ⟨i0,hi0,hi2⟩:=Option.map_eq_some_iff.1 info47;simp only [Prod.mk.injEq] at hi2;obtain ⟨hz0,hz1,hz2⟩:=hi2;have h1':W.ownsRow B1 47 5 (.slice a1 fs.length c1) fs.length (ecells fs):=h1;rcases h1'.2 with ⟨e,e0⟩|⟨g,cap,cur,e,g1,g2⟩
 ·rw [e] at hx;have hf:fs=[]:=List.eq_nil_of_length_eq_zero e0;subst hf;have hrun:=run_append_owned_none (P:=Tryz.prog) (w:=W) (w.heap.size+1) 38 o.type 47 i0 5 Tryz.underlying38 hi0 _ _ _ h0.row;have hk:=h a0 c0 W (by rw [List.append_nil];exact h0);rw [List.append_nil] at hk;unfold Oper.wp;simp [execOp,ho,resolve,invoke,builtin,hs,hx,hrun,Result.andThen]
  exact hk
 ·injection e with e1 e2 e3
  subst e1;refine wp_append_own W s x 38 ho (w.heap.size+1) 47 i0 (.agg #[.int .i64 0,.int .i64 0,.int .i64 0,.int .i64 0,.int .i8 0]) 5 40 Tryz.underlying38 hi0 hz0 hz1 hz2 rfl (by decide) _ _ _ hs h0.row ⟨g,0,none⟩ fs.length c1 (ecells fs) hx h1'.1 (fun j u hu=>?_) (ecells_one fs) (by unfold maxLen;omega) (by omega) (by have:=h0.t.lt;omega) fun v' w' h2 h3 _=>?_
  ·have hj:j<(ecells fs).length:=by
    rcases Nat.lt_or_ge j (ecells fs).length with h|h
    ·exact h
    ·rw [List.getElem?_eq_none h] at hu;cases hu
   have:(⟨g,0,none⟩:Addr).add j=⟨g,j,none⟩:=by unfold Addr.add;split <;> simp_all
   rw [this,h1'.cellAt j (by rw [<- h1'.1];exact hj),hu]
  ·obtain ⟨a2,c2,rfl,hs2⟩:=h0.cat h3 h2;exact h a2 c2 w' hs2
theorem pairD_len (t:Tab) (a b:O) (i j:Nat) (d:Int) (m:Bool):(pairD t a b i j d m).length<=4:=by
 have hl:∀ (bb:Bool) (e:Ed),(if bb=true then [e] else []).length<=1:=fun bb e=>by cases bb <;> simp
 unfold pairD;rw [List.length_append,List.length_append,List.length_append];have h1:=hl (wrB b&&saysB a (wrD b)) ⟨i,j,0,d,1⟩;have h2:=hl (wrB b&&wq a (wrD b)) ⟨i,j,max 0 (latO t a-latO t b+1),d,2⟩;have h3:=hl (m&&(a.op==16 || b.op==16)) ⟨i,j,if a.op=16 then (if b.op=15 then t.l 2 else 1) else 0,d,3⟩;have h4:=hl (ordB a.op&&ordB b.op) ⟨i,j,1,d,4⟩;omega
theorem oneD_len (t:Tab) (xs:List O) (a b:O) (i j:Nat) (d:Int) (ar m:Bool):(oneD t xs a b i j d ar m).length<=5:=by
 unfold oneD;rw [List.length_append];have h:=pairD_len t a b i j d m;have h1:(if flB xs b i j ar=true then [(⟨i,j,latO t a,d,0⟩:Ed)] else []).length<=1:=by split <;> simp
 omega
def rowO (t:Tab) (xs:List O) (j:Nat) (n:Nat):List Ed:=cat (fun i=>oneD t xs (atL xs i) (atL xs j) i j 0 false (meetB xs i j)) n
def rowR (t:Tab) (xs:List O) (j:Nat) (n:Nat):List Ed:=cat (fun i=>oneD t xs (atL xs i) (atL xs j) i j 1 true (roundB xs i j)) n
theorem rowO_len (t:Tab) (xs:List O) (j n:Nat):(rowO t xs j n).length<=n*5:=cat_len fun _ _=>oneD_len _ _ _ _ _ _ _ _ _
theorem rowR_len (t:Tab) (xs:List O) (j n:Nat):(rowR t xs j n).length<=n*5:=cat_len fun _ _=>oneD_len _ _ _ _ _ _ _ _ _
theorem ofD_len (t:Tab) (xs:List O) {n:Nat} (hn:n<=200):(ofD t xs n).length<=n*1000:=cat_len fun k hk=>by
 have:=rowO_len t xs k k
 show (rowO t xs k k).length<=1000;omega
theorem roundD_len (t:Tab) (xs:List O) (hx:xs.length<=200) (n:Nat):(roundD t xs n).length<=n*1000:=cat_len fun k hk=>by
 have:=rowR_len t xs k xs.length
 show (rowR t xs k xs.length).length<=1000;omega
theorem ofRow_len (t:Tab) (xs:List O) (hx:xs.length<=200) {j i:Nat} (hj:j<xs.length) (hi:i<xs.length):(ofD t xs j++rowO t xs j i).length<=400000:=by
 rw [List.length_append];have h1:=ofD_len t xs (n:=j) (by omega);have h2:=rowO_len t xs j i;omega
theorem roRow_len (t:Tab) (xs:List O) (hx:xs.length<=200) {j i:Nat} (hj:j<xs.length) (hi:i<xs.length):((ofD t xs xs.length++roundD t xs j)++rowR t xs j i).length<=400000:=by
 rw [List.length_append,List.length_append];have h1:=ofD_len t xs (n:=xs.length) hx;have h2:=rowR_len t xs j i;have h3:=roundD_len t xs hx j;omega
theorem refOf_any (ao:Option Addr) (cap:Nat) (xs:List O) (t:Tab) (w:World) (h:OpsAt w ao xs) (hq:lisE t xs=0->xs.length<=200) :
  Calls Tryz.prog 51 #[.slice ao xs.length cap,t.val] w (EdOut w (lisE t xs) (erE t xs (ofD t xs xs.length))):=by
 have HR:Hid (∀ W,Below w.heap.size w W->Calls Tryz.prog 96 #[.slice ao xs.length cap,t.val] W fun e w'=>e=.returned (.int .i64 (lisE t xs))/\Below W.heap.size W w'):=fun W g=>right_any ao cap xs t W (h.below g);have HS0:Hid (∀ w1,Below (w.alloc (.cells t.cells 25)).heap.size (w.alloc (.cells t.cells 25)) w1->St w w1 t none 0 []):=fun w1 g=>(⟨Tb.tabAt_new w t 25,World.ownsRow_nil _ _ _ _,by go_grown⟩:St w (w.alloc (.cells t.cells 25)) t none 0 []).next g;unfold erE at *
 by_cases he:lisE t xs=0
 ·rw [if_pos he];obtain ⟨ht,hn,hok⟩:=lis_all he;have hA:Lall xs:=fun o ho=>⟨h.ok o ho,hok o ho⟩;have hn2:=hq he;rw [he] at HR ⊢;have HF:Hid (∀ (i j:Nat) (hj:j<xs.length) W,Below w.heap.size w W->Calls Tryz.prog 97 #[.slice ao xs.length cap,.int .i64 i,.int .i64 j,.bool false] W fun e w'=>e=.returned (.bool (flB xs xs[j] i j false))/\Below W.heap.size W w'):=fun i j hj W g=>flows_any ao cap xs i j false W (h.below g) hj (hok _ (List.getElem_mem hj));have HL:Hid (∀ (o:O) W,Calls Tryz.prog 98 #[o.val,t.val] W fun e w'=>e=.returned (.int .i64 (latO t o))/\Below W.heap.size W w'):=fun o W=>lat_any o t W;have HM:Hid (∀ (i j:Nat) W,Below w.heap.size w W->Calls Tryz.prog 100 #[.slice ao xs.length cap,.int .i64 (i:Int),.int .i64 (j:Int)] W fun e w'=>e=.returned (.bool (meetB xs i j))/\Below W.heap.size W w'):=fun i j W g=>refMeet_any ao cap xs i j W (h.below g);have HP:Hid (∀ (i j:Nat) (hi:i<xs.length) (hj:j<xs.length) (m:Bool) W,Below w.heap.size w W->Calls Tryz.prog 99 #[.slice ao xs.length cap,t.val,.int .i64 i,.int .i64 j,.int .i64 0,.bool m] W fun e w'=>∃ a c,e=.returned (.slice a (pairD t xs[i] xs[j] i j 0 m).length c)/\EOwn W.heap.size w' a c (pairD t xs[i] xs[j] i j 0 m)/\Below W.heap.size W w'):=fun i j hi hj m W g=>pairD_any ao cap xs t i j 0 m W (h.below g) hA ht hi hj;have HC:Hid (∀ (i:Nat) (hi:i<xs.length),∃ b f,ao=some ⟨b,f,none⟩/\∀ W,Below w.heap.size w W->b<W.heap.size/\W.cell? ⟨b,f+i*5,none⟩=some (.int .i8 xs[i].op)/\W.cell? ⟨b,f+i*5+1,none⟩=some (.int .u8 xs[i].d)/\W.cell? ⟨b,f+i*5+2,none⟩=some (.int .u8 xs[i].a)/\W.cell? ⟨b,f+i*5+3,none⟩=some (.int .u8 xs[i].b)/\W.cell? ⟨b,f+i*5+4,none⟩=some (.int .i64 xs[i].im)):=fun i hi=>by
   obtain ⟨b,f,rfl,-,-⟩:=h.is (by omega);refine ⟨b,f,rfl,fun W g=>?_⟩;obtain ⟨b',f',e,hz',hx'⟩:=(h.below g).is (by omega)
   cases e
   obtain ⟨a0,a1,a2,a3,a4⟩:=hx' i hi;exact ⟨hz',a0,a1,a2,a3,a4⟩
  have hn3:(xs.length:Int)<=200:=by omega
  clear h hq hok hA ht hn he;unfold Tab.val at *;go_enter Tryz.func51,Tryz.ntmps51;go_wp2_with (first|(go_at_call 96;refine Calls.mono (HR.out _ (by go_grown)) ?_;rintro e w1 ⟨rfl,b1⟩;have HSt:Hid (St w w1 t none 0 []):=HS0.out w1 b1;clear b1 HR HS0))
  go_loopw [7,8] (fun l v wr=>∃ (j:Nat) (a:Option Addr) (c:Nat),j<=xs.length/\l=.slice a (ofD t xs j).length c/\v=.int .i64 j/\St w wr t a c (ofD t xs j)) (fun _ v _=>xs.length-(intOf v).toNat)
  case atStart=>exact ⟨0,none,0,by omega,rfl,rfl,HSt.out⟩
  case round=>
   rename World=>wr;obtain ⟨j,a4,c4,hj,rfl,rfl,hs⟩:=hrel;have HS:Hid (St w wr t a4 c4 (ofD t xs j)):=hs;clear hs HSt
   by_cases hlt:j<xs.length
   ·have j0:(0:Int)<=(j:Int):=by omega
    have j1:(j:Int)<(xs.length:Int):=by omega
    go_wp2_with fail
    go_loopw [7,9] (fun l v wz=>∃ (i:Nat) (a:Option Addr) (c:Nat),i<=j/\l=.slice a (ofD t xs j++rowO t xs j i).length c/\v=.int .i64 i/\St w wz t a c (ofD t xs j++rowO t xs j i)) (fun _ v _=>j-(intOf v).toNat)
    case atStart=>exact ⟨0,a4,c4,by omega,by simp [rowO,cat],rfl,by simpa [rowO,cat] using HS.out⟩
    case round=>
     rename World=>wz;obtain ⟨i,a1,c1,hi,rfl,rfl,hs⟩:=hrel;have HS1:Hid (St w wz t a1 c1 (ofD t xs j++rowO t xs j i)):=hs;clear hs HS
     by_cases hlt2:i<j
     ·have i0:(0:Int)<=(i:Int):=by omega
      have i1:(i:Int)<(j:Int):=by omega
      have hix:i<xs.length:=by omega
      have i2:(i:Int)<(xs.length:Int):=by omega
      have HNx:Hid (rowO t xs j (i+1)=rowO t xs j i++oneD t xs xs[i] xs[j] i j 0 false (meetB xs i j)):=by
       show rowO t xs j i++oneD t xs (atL xs i) (atL xs j) i j 0 false (meetB xs i j)=_;rw [atL_at hix,atL_at hlt]
      have HEl:(ofD t xs j++rowO t xs j i).length<=400000:=ofRow_len t xs hn2 (by omega) (by omega);obtain ⟨es1,hes⟩:∃ es1,ofD t xs j++rowO t xs j i=es1:=⟨_,rfl⟩;have HES:Hid (ofD t xs j++rowO t xs j i=es1):=hes;rw [hes] at HS1 HEl ⊢;clear hes;have HFx:Hid (∀ W,Below w.heap.size w W->Calls Tryz.prog 97 #[.slice ao xs.length cap,.int .i64 i,.int .i64 j,.bool false] W fun e w'=>e=.returned (.bool (flB xs xs[j] i j false))/\Below W.heap.size W w'):=fun W g=>HF.out i j hlt W g;have HLx:Hid (∀ W,Calls Tryz.prog 98 #[xs[i].val,.agg #[.int .i64 (t.u 0),.int .i64 (t.u 1),.int .i64 (t.u 2),.int .i64 (t.u 3),.int .i64 (t.l 0),.int .i64 (t.l 1),.int .i64 (t.l 2),.int .i64 (t.l 3),.int .i64 (t.b 0),.int .i64 (t.b 1),.int .i64 (t.b 2),.int .i64 (t.b 3),.int .i64 t.d]] W fun e w'=>e=.returned (.int .i64 (latO t xs[i]))/\Below W.heap.size W w'):=fun W=>HL.out xs[i] W;have HMx:Hid (∀ W,Below w.heap.size w W->Calls Tryz.prog 100 #[.slice ao xs.length cap,.int .i64 (i:Int),.int .i64 (j:Int)] W fun e w'=>e=.returned (.bool (meetB xs i j))/\Below W.heap.size W w'):=fun W g=>HM.out i j W g;have HPx:Hid (∀ W,Below w.heap.size w W->Calls Tryz.prog 99 #[.slice ao xs.length cap,.agg #[.int .i64 (t.u 0),.int .i64 (t.u 1),.int .i64 (t.u 2),.int .i64 (t.u 3),.int .i64 (t.l 0),.int .i64 (t.l 1),.int .i64 (t.l 2),.int .i64 (t.l 3),.int .i64 (t.b 0),.int .i64 (t.b 1),.int .i64 (t.b 2),.int .i64 (t.b 3),.int .i64 t.d],.int .i64 i,.int .i64 j,.int .i64 0,.bool (meetB xs i j)] W fun e w'=>∃ a c,e=.returned (.slice a (pairD t xs[i] xs[j] i j 0 (meetB xs i j)).length c)/\EOwn W.heap.size w' a c (pairD t xs[i] xs[j] i j 0 (meetB xs i j))/\Below W.heap.size W w'):=fun W g=>HP.out i j hix hlt (meetB xs i j) W g;obtain ⟨b,f,rfl,hoc⟩:=HC.out i hix;have HOc:Hid _:=hoc;have hpl:(pairD t xs[i] xs[j] i j 0 (meetB xs i j)).length<=4:=pairD_len _ _ _ _ _ _ _;have HOne:Hid (oneD t xs xs[i] xs[j] i j 0 false (meetB xs i j)=(if flB xs xs[j] i j false=true then [⟨i,j,latO t xs[i],0,0⟩] else [])++pairD t xs[i] xs[j] i j 0 (meetB xs i j)):=rfl;clear hoc HF HL HM HP HC;obtain ⟨ps,hps⟩:∃ ps,pairD t xs[i] xs[j] i j 0 (meetB xs i j)=ps:=⟨_,rfl⟩;rw [hps] at HPx hpl HOne;clear hps;obtain ⟨os,hos⟩:∃ os,oneD t xs xs[i] xs[j] i j 0 false (meetB xs i j)=os:=⟨_,rfl⟩;rw [hos] at HNx HOne;clear hos;generalize latO t xs[i]=la at *;generalize meetB xs i j=mb at *;generalize flB xs xs[j] i j false=fb at *;generalize xs[i]=x at *
      go_upto_if 30 with (first|(go_at_call 97;refine Calls.mono (HFx.out _ HS1.out.up) ?_;rintro e w2 ⟨rfl,b2⟩;have HS2:Hid (St w w2 t a1 c1 es1):=HS1.out.next b2;clear b2 HFx HS1))
      obtain ⟨L1,hL1⟩:∃ L1,(if fb=true then [(⟨i,j,la,0,0⟩:Ed)] else [])=L1:=⟨_,rfl⟩;rw [hL1] at HOne;have HL1:Hid _:=hL1;have hl1:L1.length<=1:=by rw [<- hL1];split <;> simp
      clear hL1
      go_cut [7] (fun v wc=>∃ a c,v=.slice a (es1++L1).length c/\St w wc t a c (es1++L1))
      case first=>
       cases fb
       ·have hL1:[]=L1:=HL1.out;subst hL1;go_wp2_with fail
        go_meet
        case rel=>exact ⟨a1,c1,by simp,by rw [List.append_nil];exact HS2.out⟩
       ·have hL1:[(⟨i,j,la,0,0⟩:Ed)]=L1:=HL1.out;subst hL1;have HS1:Hid (St w w2 t a1 c1 es1):=HS2.out;go_upto_region 12 with fail
        refine wp_region_held_drew (S:=fun W=>TabAt W w.heap.size t/\Below w.heap.size w W) (by kernel_rfl) ⟨(HS1.out.next (drew_up _)).t,(HS1.out.next (drew_up _)).up⟩ (fun zH=>?_);refine wg 0 (.slice a1 es1.length c1) rfl zH ?_;simp only [pq];refine wg 1 (.int .i64 (i:Int)) rfl zH ?_;simp only [pq];refine wg 2 (.int .i64 (j:Int)) rfl zH ?_;simp only [pq];refine wg 3 (.slice (some ⟨b,f,none⟩) xs.length cap) rfl zH ?_;simp only [pq];refine wg 4 (.int .i64 (i:Int)) rfl zH ?_;simp only [pq];refine wg 5 (.pointer (some ⟨b,f+i*5,none⟩)) rfl zH ?_;simp only [pq];refine wt 6 (.agg #[.int .i8 x.op,.int .u8 x.d,.int .u8 x.a,.int .u8 x.b,.int .i64 x.im]) rfl (fun w' hSw=>by (obtain ⟨xl,x0,x1,x2,x3,x4⟩:=HOc.out _ hSw.2;go_simp)) zH ?_;simp only [pq];refine wt 7 (.agg #[.int .i64 (t.u 0),.int .i64 (t.u 1),.int .i64 (t.u 2),.int .i64 (t.u 3),.int .i64 (t.l 0),.int .i64 (t.l 1),.int .i64 (t.l 2),.int .i64 (t.l 3),.int .i64 (t.b 0),.int .i64 (t.b 1),.int .i64 (t.b 2),.int .i64 (t.b 3),.int .i64 t.d]) rfl (fun w' hSw=>by (have k2:=hSw.1;have qu0:=k2.cu 0 (by decide);have qu1:=k2.cu 1 (by decide);have qu2:=k2.cu 2 (by decide);have qu3:=k2.cu 3 (by decide);have ql0:=k2.cl 0 (by decide);have ql1:=k2.cl 1 (by decide);have ql2:=k2.cl 2 (by decide);have ql3:=k2.cl 3 (by decide);have qb0:=k2.cb 0 (by decide);have qb1:=k2.cb 1 (by decide);have qb2:=k2.cb 2 (by decide);have qb3:=k2.cb 3 (by decide);have qd:=k2.cd;have qz:=k2.lt;clear k2;go_simp)) zH ?_;simp only [pq];refine wpAnyH_ready (rs:=[8]) (by kernel_rfl) (by simp) ?_;refine AllReadyH.cons rfl (fun K hK=>?_) AllReadyH.nil;go_simp
        refine Calls.mono (HLx.out _) ?_;rintro e w5 ⟨rfl,b5⟩;have HS5:Hid (St w w5 t a1 c1 es1):=(HS1.out.next (drew_up _)).next b5;clear b5;refine hK.out _ _ ⟨HS5.out.t,HS5.out.up⟩ (fun zH=>?_);clear hK K;refine wg 9 (.agg #[.int .i64 (i:Int),.int .i64 (j:Int),.int .i64 la,.int .i64 0,.int .i8 0]) rfl zH ?_;simp only [pq];refine wpAnyH_ready (rs:=[10]) (by kernel_rfl) (by simp) ?_;refine AllReadyH.cons rfl (fun K hK=>?_) AllReadyH.nil;go_simp
        refine hK.out _ _ ⟨(HS5.out.next ((Below.refl _ _).alloc (Nat.le_refl _) _)).t,(HS5.out.next ((Below.refl _ _).alloc (Nat.le_refl _) _)).up⟩ (fun zH=>?_);clear hK K;refine wpAnyH_ready (rs:=[11]) (by kernel_rfl) (by simp) ?_;refine AllReadyH.cons rfl (fun K hK=>?_) AllReadyH.nil;refine step_append_row (es:=es1) (fs:=[(⟨i,j,la,0,0⟩:Ed)]) (by rfl) _ _ (by rfl) (by rfl) (HS5.out.next ((Below.refl _ _).alloc (Nat.le_refl _) _)) (by rfl) (eOwn_new w5 ⟨i,j,la,0,0⟩) (by simp;omega) ?_;intro a2 c2 w6 hs6;have HS6:Hid (St w w6 t a2 c2 (es1++[⟨i,j,la,0,0⟩])):=hs6;clear hs6;refine hK.out _ _ ⟨HS6.out.t,HS6.out.up⟩ (fun zH=>?_);clear hK K;refine wg 12 (.slice a2 (es1++[(⟨i,j,la,0,0⟩:Ed)]).length c2) rfl zH ?_;simp only [pq];refine wpAnyH_done (by kernel_rfl) ?_ _;go_wp2_with fail
        go_meet
        case rel=>exact ⟨a2,c2,by simp,HS6.out⟩
      case rest=>
       obtain ⟨a3,c3,rfl,hs⟩:=hcut;rename World=>wc;obtain ⟨es3,he3⟩:∃ es3,es1++L1=es3:=⟨_,rfl⟩;have hl3:es3.length<=400001:=by rw [<- he3,List.length_append];omega
       have HE3:Hid (es1++L1=es3):=he3;have HS3:Hid (St w wc t a3 c3 es3):=by rw [he3] at hs;exact hs
       rw [he3];clear hs he3 HS2 HLx HL1;go_upto_region 13 with fail
       refine wp_region_held_drew (S:=fun W=>TabAt W w.heap.size t/\Below w.heap.size w W) (by kernel_rfl) ⟨(HS3.out.next (drew_up _)).t,(HS3.out.next (drew_up _)).up⟩ (fun zH=>?_);refine wg 0 (.slice a3 es3.length c3) rfl zH ?_;simp only [pq];refine wg 1 (.slice (some ⟨b,f,none⟩) xs.length cap) rfl zH ?_;simp only [pq];refine wt 2 (.agg #[.int .i64 (t.u 0),.int .i64 (t.u 1),.int .i64 (t.u 2),.int .i64 (t.u 3),.int .i64 (t.l 0),.int .i64 (t.l 1),.int .i64 (t.l 2),.int .i64 (t.l 3),.int .i64 (t.b 0),.int .i64 (t.b 1),.int .i64 (t.b 2),.int .i64 (t.b 3),.int .i64 t.d]) rfl (fun w' hSw=>by (have k2:=hSw.1;have qu0:=k2.cu 0 (by decide);have qu1:=k2.cu 1 (by decide);have qu2:=k2.cu 2 (by decide);have qu3:=k2.cu 3 (by decide);have ql0:=k2.cl 0 (by decide);have ql1:=k2.cl 1 (by decide);have ql2:=k2.cl 2 (by decide);have ql3:=k2.cl 3 (by decide);have qb0:=k2.cb 0 (by decide);have qb1:=k2.cb 1 (by decide);have qb2:=k2.cb 2 (by decide);have qb3:=k2.cb 3 (by decide);have qd:=k2.cd;have qz:=k2.lt;clear k2;go_simp)) zH ?_;simp only [pq];refine wg 3 (.int .i64 (i:Int)) rfl zH ?_;simp only [pq];refine wg 4 (.int .i64 (j:Int)) rfl zH ?_;simp only [pq];refine wg 5 (.slice (some ⟨b,f,none⟩) xs.length cap) rfl zH ?_;simp only [pq];refine wg 6 (.int .i64 (i:Int)) rfl zH ?_;simp only [pq];refine wg 7 (.int .i64 (j:Int)) rfl zH ?_;simp only [pq];refine wpAnyH_ready (rs:=[8]) (by kernel_rfl) (by simp) ?_;refine AllReadyH.cons rfl (fun K hK=>?_) AllReadyH.nil;go_simp
       refine Calls.mono (HMx.out _ zH.2) ?_;rintro e w5 ⟨rfl,b5⟩;have HS5:Hid (St w w5 t a3 c3 es3):=(HS3.out.next (drew_up _)).next b5;clear b5;refine hK.out _ _ ⟨HS5.out.t,HS5.out.up⟩ (fun zH=>?_);clear hK K;refine wpAnyH_ready (rs:=[9]) (by kernel_rfl) (by simp) ?_;refine AllReadyH.cons rfl (fun K hK=>?_) AllReadyH.nil;go_simp
       refine Calls.mono (HPx.out _ zH.2) ?_;rintro e w6 ⟨a5,c5,rfl,o5,b5⟩;have HS6:Hid (St w w6 t a3 c3 es3):=HS5.out.next b5;have HO6:Hid (EOwn w5.heap.size w6 a5 c5 ps):=o5;clear b5 o5;refine hK.out _ _ ⟨HS6.out.t,HS6.out.up⟩ (fun zH=>?_);clear hK K;refine wpAnyH_ready (rs:=[10]) (by kernel_rfl) (by simp) ?_;refine AllReadyH.cons rfl (fun K hK=>?_) AllReadyH.nil;refine step_append_row (es:=es3) (fs:=ps) (by rfl) _ _ (by rfl) (by rfl) HS6.out (by rfl) HO6.out (by omega) ?_;intro a6 c6 w7 hs7;have HS7:Hid (St w w7 t a6 c6 (es3++ps)):=hs7;clear hs7;refine hK.out _ _ ⟨HS7.out.t,HS7.out.up⟩ (fun zH=>?_);clear hK K;refine wg 11 (.slice a6 (es3++ps).length c6) rfl zH ?_;simp only [pq];refine wpAnyH_done (by kernel_rfl) ?_ _;have HFin:Hid (ofD t xs j++rowO t xs j (i+1)=es3++ps):=by
        show ofD t xs j++rowO t xs j (i+1)=es3++ps;rw [HNx.out,<- List.append_assoc,HES.out,HOne.out,<- List.append_assoc,HE3.out]
       clear HMx HPx HS3 HS5 HS6 HO6;go_wp2_with fail
       go_roundw
       case rel=>exact ⟨i+1,a6,c6,by omega,by rw [HFin.out],by go_num,by rw [HFin.out];exact HS7.out⟩
       case measure=>simp [intOf];omega
     ·obtain rfl:i=j:=by omega
      have i1:¬ (i:Int)<(i:Int):=by omega
      have HNx:Hid (ofD t xs (i+1)=ofD t xs i++rowO t xs i i):=rfl;go_wp2_with fail
      go_roundw
      case rel=>exact ⟨i+1,a1,c1,by omega,by rw [HNx.out],by go_num,by rw [HNx.out];exact HS1.out⟩
      case measure=>simp [intOf];omega
   ·have hje:j=xs.length:=by omega
    have j1:¬ (j:Int)<(xs.length:Int):=by omega
    have HNx:Hid (ofD t xs j=ofD t xs xs.length):=by show ofD t xs j=ofD t xs xs.length;rw [hje]
    clear hje HF HL HM HP HC;rw [HNx.out] at HS ⊢;go_wp2_with fail
    go_ret2
    obtain ⟨a5,c5,e5,h5⟩:=eOwn_of HS.out.row (B':=w.heap.size) (by omega)
    injection e5 with e6 e7 e8
    subst e6;subst e8;exact ⟨a4,c4,rfl,h5,HS.out.up⟩
 ·rw [if_neg he];have he2:(lisE t xs != 0)=true:=by simpa using he
  generalize lisE t xs=er at *;clear h hq;unfold Tab.val at *;go_enter Tryz.func51,Tryz.ntmps51;go_wp2_with (first|(go_at_call 96;refine Calls.mono (HR.out _ (by go_grown)) ?_;rintro e w1 ⟨rfl,b1⟩;have HSt:Hid (St w w1 t none 0 []):=HS0.out w1 b1;clear b1 HR HS0))
  go_ret2
  exact ⟨none,0,rfl,World.ownsRow_nil _ _ _ _,HSt.out.up⟩
end Go.Proofs.YtiejdpjgplikjaaGreatDoor.Dp
namespace Go.Proofs.YtiejdpjgplikjaaGreatDoor.Dp
open Go.ChangeShapes Go.WideShapes Go.ChangeAt Go.RowKit
open YtiejdpjgplikjaaGreatDoor.Op YtiejdpjgplikjaaGreatDoor.So
open YtiejdpjgplikjaaGreatDoor.Tb (Tab TabAt Bnds)
theorem clV_lat : ∀ d:Nat,1<=d->d<=17->(clV (d:Int)).toNat = if 15<=(d:Int) then 2 else if 12<=(d:Int) then 1 else 0
 | 0,h,_=>absurd h (by decide)
 | 1,_,_=>by decide
 | 2,_,_=>by decide
 | 3,_,_=>by decide
 | 4,_,_=>by decide
 | 5,_,_=>by decide
 | 6,_,_=>by decide
 | 7,_,_=>by decide
 | 8,_,_=>by decide
 | 9,_,_=>by decide
 | 10,_,_=>by decide
 | 11,_,_=>by decide
 | 12,_,_=>by decide
 | 13,_,_=>by decide
 | 14,_,_=>by decide
 | 15,_,_=>by decide
 | 16,_,_=>by decide
 | 17,_,_=>by decide
 | _+18,_,h=>absurd h (by omega)
theorem updI_twice (L:Nat->Int) (k:Nat) (v u:Int):updI (updI L k v) k u=updI L k u:=by
 funext j
 unfold updI
 split <;> rfl
theorem latO_V (t:Tab) {o:O} (h:okL o=true):t.l (clV o.op).toNat = latV t o.op:=by
 unfold okL at h;simp only [Bool.and_eq_true,decide_eq_true_eq] at h;obtain ⟨d,hd⟩:∃ d:Nat,o.op=d:=⟨o.op.toNat,by omega⟩;unfold latV;rw [hd,clV_lat d (by omega) (by omega)]
theorem ofRefN {ao:Option Addr} {cap:Nat} {xs:List O} {t:Tab} {w:World} (h:OpsAt w ao xs) (hq:lisE t xs=0->xs.length<=200):∀ W,Below w.heap.size w W->Calls Tryz.prog 51 #[.slice ao xs.length cap,t.val] W (EdOut W (lisE t xs) (erE t xs (ofE t xs))):=fun W hb=>by
 have e1:erE t xs (ofE t xs)=erE t xs (ofD t xs xs.length):=by
  unfold erE
  by_cases he:lisE t xs=0
  ·obtain ⟨-,-,hok⟩:=lis_all he;rw [if_pos he,if_pos he,ofD_eq t fun o ho=>⟨h.ok o ho,hok o ho⟩]
  ·rw [if_neg he,if_neg he]
 rw [e1];exact refOf_any ao cap xs t W (h.below hb) hq
theorem refHof_ok (ao:Option Addr) (cap:Nat) (xs:List O) (t:Tab) (w:World) (h:OpsAt w ao xs) (hq:xs.length<=200) (he:lisE t xs=0) :
  Calls Tryz.prog 95 #[.slice ao xs.length cap,t.val] w (HtOut w xs.length (hts (latN t xs) (ofE t xs))):=by
 have HOf:Hid (∀ W,Below w.heap.size w W->Calls Tryz.prog 51 #[.slice ao xs.length cap,t.val] W (EdOut W 0 (ofE t xs))):=fun W hb=>by
  have:=ofRefN (cap:=cap) (t:=t) h (fun _=>hq) W hb
  unfold erE at this;rw [if_pos he,he] at this;exact this
 obtain ⟨ht,hn,hok⟩:=lis_all he;have HEO:Hid (EOk xs.length (ofE t xs)):=ofE_ok t xs (pts_ok t xs (fun o ho=>⟨h.ok o ho,okL_okO (hok o ho)⟩) ht);have HLn:Hid ((ofE t xs).length<=100000000):=Nat.le_trans (withinE_len _ _ _ hn) (by omega);have HCl:Hid (∀ d W,Calls Tryz.prog 54 #[.int .i8 d] W fun e w'=>e=.returned (.tuple #[.int .i64 (clV d),.bool (clB d)])/\Below W.heap.size W w'):=fun d W=>refClass_any d W;have HLi:Hid (∀ i,i<xs.length->1<=latN t xs i/\latN t xs i<=8):=fun i hi=>by rw [latN_at t hi];exact latV_in ht _
 have HLv:Hid (∀ i (hi:i<xs.length),t.l (clV xs[i].op).toNat = latN t xs i):=fun i hi=>by rw [latN_at t hi];exact latO_V t (hok _ (List.getElem_mem hi))
 have HO:Hid (OpsAt w ao xs):=h;have hn':(xs.length:Int)<=200:=by omega
 clear h hok he ht hn;obtain ⟨es,hes⟩:∃ es,ofE t xs=es:=⟨_,rfl⟩;rw [hes] at HOf HEO HLn ⊢;clear hes;obtain ⟨lat,hlat⟩:∃ lat,latN t xs=lat:=⟨_,rfl⟩;rw [hlat] at HLi HLv ⊢;clear hlat;obtain ⟨N,hN⟩:∃ N,es.length=N:=⟨_,rfl⟩;have HNl:Hid (es.length=N):=hN;have hNb:(N:Int)<=100000000:=by have:=HLn.out;omega
 clear HLn hN;have HOf2:Hid (∀ W,Below w.heap.size w W->Calls Tryz.prog 51 #[.slice ao xs.length cap,t.val] W fun e w'=>∃ a c,e=.returned (.tuple #[.slice a N c,.int .i64 0])/\EOwn W.heap.size w' a c es/\Below W.heap.size W w'):=fun W hb=>by
  have:=HOf.out W hb
  rw [<- HNl.out];exact this
 clear HOf;obtain ⟨i0,hi,hi2⟩:=Option.map_eq_some_iff.1 info3;simp only [Prod.mk.injEq] at hi2;obtain ⟨hz0,hz1,hz2⟩:=hi2;have HI:Hid (Tryz.prog.info? 3=some i0/\i0.zero=some (.int .i64 0)/\i0.size=1/\i0.bytes=8):=⟨hi,hz0,hz1,hz2⟩;clear hi hz0 hz1 hz2;unfold Tab.val at *;go_enter Tryz.func95,Tryz.ntmps95;go_upto_region 5 with (first
  | (go_at_call 51;refine Calls.mono (HOf2.out _ (by go_grown)) ?_;rintro e w1 ⟨a1,cq,rfl,o1,b1⟩;have HT:Hid (Tc w w1 t/\EOwn (w.heap.size+1) w1 a1 cq es/\w.heap.size<w1.heap.size):=⟨Tc.start w t rfl b1,(by have:=o1;simpa using this),(by have:=b1.size;simp at this;omega)⟩;clear o1 b1 HOf2)
  | (at_make;refine wpList_make_row _ rfl _ _ 27 rfl 3 i0 (.int .i64 0) Tryz.underlying27 HI.out.1 HI.out.2.1 HI.out.2.2.1 rfl .i64 .i64 xs.length rfl rfl (by rw [HI.out.2.2.2];omega) (by omega) ?_))
 have HS:Hid (Hs w (w1.alloc (.cells (madeCells #[.int .i64 0] xs.length) 3)) t w1.heap.size xs.length (fun _=>0) a1 cq es):=hs_start HT.out.1 HT.out.2.1 HT.out.2.2;generalize w1.alloc (.cells (madeCells #[.int .i64 0] xs.length) 3)=W0 at *;generalize w1.heap.size=hb at *;clear HT;go_wp2_with fail
 go_loopw [9] (fun v wr=>∃ m:Nat,m<=xs.length/\v=.int .i64 ((m:Int)-1)/\Hs w wr t hb xs.length (dh lat es xs.length (xs.length-m)) a1 cq es) (fun v _=>((intOf v)+1).toNat)
 case atStart=>exact ⟨xs.length,Nat.le_refl _,by first|rfl|go_num,by rw [Nat.sub_self];exact HS.out⟩
 case round=>
  rename World=>wr;obtain ⟨m,hm,rfl,hs⟩:=hrel;have HQ:Hid (Hs w wr t hb xs.length (dh lat es xs.length (xs.length-m)) a1 cq es):=hs;clear hs HS
  by_cases hm0:m=0
  ·subst hm0;have k1:¬ (0:Int)<=((0:Nat):Int)-1:=by omega
   go_wp2_with fail
   go_ret2
   refine ⟨hb,rfl,HQ.out.ir.same fun i hi=>?_,Nat.le_of_lt HQ.out.hw,HQ.out.up⟩;rw [Nat.sub_zero];exact dh_eq HEO.out i hi
  ·obtain ⟨j,rfl⟩:∃ j,m=j+1:=⟨m-1,by omega⟩;have ej:((j+1:Nat):Int)-1=(j:Int):=by omega
   rw [ej];have j0:(0:Int)<=(j:Int):=by omega
   have j1:(j:Int)<(xs.length:Int):=by omega
   have hlt:j<xs.length:=by omega
   have HEnd:Hid (dh lat es xs.length (xs.length-j)=updI (dh lat es xs.length (xs.length-(j+1))) j (dIn j (dh lat es xs.length (xs.length-(j+1))) es (lat j))):=by
    show dh lat es xs.length (xs.length-j)=_;have e1:xs.length-j=(xs.length-(j+1))+1:=by omega
    have e2:xs.length-1-(xs.length-(j+1))=j:=by omega
    rw [e1];show updI _ (xs.length-1-(xs.length-(j+1))) _=_;rw [e2]
   have HDl:Hid (∀ i,j<i->i<xs.length->1<=dh lat es xs.length (xs.length-(j+1)) i/\dh lat es xs.length (xs.length-(j+1)) i<=8*(xs.length-i:Nat)):=fun i h1 h2=>dh_le HEO.out HLi.out (by omega) i (by omega) h2;obtain ⟨D,hD⟩:∃ D,dh lat es xs.length (xs.length-(j+1))=D:=⟨_,rfl⟩;rw [hD] at HEnd HDl HQ;clear hD ej hm0;have HIn:Hid (∀ k,1<=dIn j D (es.take k) (lat j)/\dIn j D (es.take k) (lat j)<=1600):=fun k=>by
    have h1:=HLi.out j hlt;have h2:=dIn_ge j D (es.take k) (lat j);refine ⟨by omega,?_⟩;rcases dIn_ex j D (es.take k) (lat j) with h3|⟨e,he,hf,h3⟩
    ·omega
    ·have hm:=List.mem_of_mem_take he;have g2:=HEO.out.ft _ hm;have g3:=HEO.out.tn _ hm;obtain ⟨g4,g5⟩:=HEO.out.l0 _ hm;have g6:=HDl.out e.t.toNat (by omega) (by omega);omega
   obtain ⟨b,f,rfl,hz2,hx⟩:=(HO.out.below HQ.out.up).is (by omega);obtain ⟨q0,q1,q2,q3,q4⟩:=hx j hlt;have HLj:Hid (t.l (clV xs[j].op).toNat = lat j):=HLv.out j hlt;have hc:=clV_in xs[j].op;have HC1:Hid (∀ W,Calls Tryz.prog 54 #[.int .i8 xs[j].op] W fun e w'=>e=.returned (.tuple #[.int .i64 (clV xs[j].op),.bool (clB xs[j].op)])/\Below W.heap.size W w'):=fun W=>HCl.out _ W;clear hx;generalize clB xs[j].op=cb at *;obtain ⟨c,hcn⟩:∃ n:Nat,clV xs[j].op=n:=⟨(clV xs[j].op).toNat,by omega⟩;rw [hcn] at HC1 HLj hc;have HLj:Hid (t.l c=lat j):=by have:=HLj.out;rw [Int.toNat_natCast] at this;exact this
   clear hcn;have c0:(0:Int)<=(c:Int):=by omega
   have c1:(c:Int)<4:=by omega
   have c2:c<4:=by omega
   clear hc;generalize xs[j]=o at *;go_upto_region 9 with (first
    | (go_at_call 54;refine Calls.mono (HC1.out _) ?_;rintro e w2 ⟨rfl,hb2⟩;have HQ2:Hid (Hs w w2 t hb xs.length D a1 cq es):=HQ.out.next hb2;clear hb2 HC1 HQ q0 q1 q2 q3 q4 hz2))
   have tl:=HQ2.out.t.cl c c2;have tz:=HQ2.out.t.lt;have hcj:=HQ2.out.ir.c j hlt;have hfj:=HQ2.out.ir.f j;have hl:=HQ2.out.ir.lt;rw [HLj.out] at tl;have HSt:Hid (Hs w (w2.setCell ⟨hb,j,none⟩ (.int .i64 (lat j))) t hb xs.length (updI D j (lat j)) a1 cq es):=HQ2.out.set hlt (lat j);go_upto_region 10 with fail
   generalize w2.setCell ⟨hb,j,none⟩ (.int .i64 (lat j))=W2 at *;clear HQ2 tl tz hcj hfj hl;go_wp2_with fail
   go_loopw [12] (fun v wz=>∃ k:Nat,k<=N/\v=.int .i64 k/\Hs w wz t hb xs.length (updI D j (dIn j D (es.take k) (lat j))) a1 cq es) (fun v _=>N-(intOf v).toNat)
   case atStart=>exact ⟨0,by omega,rfl,HSt.out⟩
   case round=>
    rename World=>wz;obtain ⟨k,hk,rfl,hs⟩:=hrel;have HZ:Hid (Hs w wz t hb xs.length (updI D j (dIn j D (es.take k) (lat j))) a1 cq es):=hs;clear hs HSt
    by_cases hlt2:k<N
    ·have k0:(0:Int)<=(k:Int):=by omega
     have k1:(k:Int)<(N:Int):=by omega
     have hke:k<es.length:=by rw [HNl.out];omega
     obtain ⟨eb,rfl,l1,lb1,f0,f1,f2,f3,f4⟩:=eOwn_at HZ.out.es hke;have HNx:=dIn_take j D (lat j) es k hke;have hm:=List.getElem_mem hke;have g1:=HEO.out.f0 _ hm;have g2:=HEO.out.ft _ hm;have g3:=HEO.out.tn _ hm;obtain ⟨g4,g5⟩:=HEO.out.l0 _ hm;obtain ⟨n1,n2⟩:=HIn.out k;have HNx:Hid _:=HNx;obtain ⟨mv,hmv⟩:∃ mv,dIn j D (es.take k) (lat j)=mv:=⟨_,rfl⟩;rw [hmv] at HNx HZ n1 n2;clear hm hmv;generalize es[k]=x at *;obtain ⟨xf,xt,xl,xd,xy⟩:=x
     by_cases hf:xf=(j:Int)
     ·subst hf;have g2:(j:Int)<xt:=g2;have g3:xt<(xs.length:Int):=g3;have g4:0<=xl:=g4;have g5:xl<=8:=g5;obtain ⟨ti,rfl⟩:∃ ti:Nat,xt=ti:=⟨xt.toNat,by omega⟩;have HNx:Hid (dIn j D (es.take (k+1)) (lat j)=max mv (xl+D ti)):=by
       have h1:=HNx.out;rw [if_pos rfl] at h1;exact h1
      have t0:(0:Int)<=(ti:Int):=by omega
      have h34:=HDl.out ti (by omega) (by omega);have cf:=HZ.out.ir.c j hlt;have ct:=HZ.out.ir.c ti (by omega);rw [updI_same] at cf;rw [updI_other _ _ (by omega)] at ct;have zf:=HZ.out.ir.f j;have hl:=HZ.out.ir.lt;have hneb:¬ eb=hb:=HZ.out.ne _ rfl;have hG2:D ti<=1600/\1<=D ti:=by omega
      clear h34 g1;have HSet:Hid (∀ v,Hs w (wz.setCell ⟨hb,j,none⟩ (.int .i64 v)).drew t hb xs.length (updI D j v) (some ⟨eb,0,none⟩) cq es):=fun v=>by
       have:=(HZ.out.set hlt v).next ((Below.refl _ _).drew)
       rw [updI_twice] at this;exact this
      obtain ⟨hG3,hG4⟩:=hG2;go_upto_region 14 with fail
      by_cases hmx:mv<xl+D ti
      ·have HV:Hid (max mv (xl+D ti)=xl+D ti):=by show max mv (xl+D ti)=xl+D ti;omega
       generalize hgt:D ti=gt at *
       go_region
       all_goals
        go_wp2_with fail
        go_roundw
        case rel=>exact ⟨k+1,by omega,by go_num,by rw [HNx.out,HV.out];exact HSet.out _⟩
        case measure=>simp [intOf];omega
      ·have HV:Hid (max mv (xl+D ti)=mv):=by show max mv (xl+D ti)=mv;omega
       generalize hgt:D ti=gt at *
       go_region
       all_goals
        go_wp2_with fail
        go_roundw
        case rel=>exact ⟨k+1,by omega,by go_num,by rw [HNx.out,HV.out];exact HSet.out _⟩
        case measure=>simp [intOf];omega
     ·have g1:0<=xf:=g1;have HNx:Hid (dIn j D (es.take (k+1)) (lat j)=mv):=by
       have h1:=HNx.out;rw [if_neg hf] at h1;exact h1
      have hfb:(xf==(j:Int))=false:=by simpa using hf
      go_wp2_with fail
      go_roundw
      case rel=>exact ⟨k+1,by omega,by go_num,by rw [HNx.out];exact HZ.out⟩
      case measure=>simp [intOf];omega
    ·obtain rfl:k=N:=by omega
     have k1:¬ (k:Int)<(k:Int):=by omega
     have HFin:Hid (Hs w wz t hb xs.length (dh lat es xs.length (xs.length-j)) a1 cq es):=by
      show Hs w wz t hb xs.length (dh lat es xs.length (xs.length-j)) a1 cq es;rw [HEnd.out]
      have:=HZ.out
      rw [List.take_of_length_le (by rw [HNl.out];omega)] at this;exact this
     clear HZ;go_wp2_with fail
     go_roundw
     case rel=>exact ⟨j,by omega,by first|rfl|go_num,HFin.out⟩
     case measure=>first|(simp [intOf];done)|(simp [intOf];omega)
end Go.Proofs.YtiejdpjgplikjaaGreatDoor.Dp
