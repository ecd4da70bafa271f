/- Parts Wu. -/
import Derived.Test.YtcmlnemokckbdaaGreatDoorN44
import Derived.Deep.AppendLies
import Derived.Laws.AppendOwnNone
set_option maxRecDepth 20000
set_option maxHeartbeats 4000000
namespace Go.Proofs.YtcmlnemokckbdaaGreatDoor.Ls
open Go.ChangeShapes Go.WideShapes Go.ChangeAt Go.RowKit
open YtcmlnemokckbdaaGreatDoor.Op YtcmlnemokckbdaaGreatDoor.So YtcmlnemokckbdaaGreatDoor.Dp YtcmlnemokckbdaaGreatDoor.ListWay
open YtcmlnemokckbdaaGreatDoor.Tb (Tab TabAt Bnds)
theorem refCheck_bad (a ao:Option Addr) (n ccap cap:Nat) (xs:List O) (t:Tab) (w:World) (h:OpsAt w ao xs) (hn:xs.length<=60) (hnn:n<=9000000000000000000) (hb:¬ lisE t xs=0\/hvU t xs=false\/¬ n=xs.length) :
  Calls Tryz.prog 26 #[.slice ao xs.length cap,t.val,.slice a n ccap] w fun e w'=>e=.returned (.bool false)/\Below w.heap.size w w':=by
 have HOf:Hid (∀ W,Below w.heap.size w W->Calls Tryz.prog 46 #[.slice ao xs.length cap,.agg #[.int .i64 (t.u 0),.int .i64 (t.u 1),.int .i64 (t.u 2),.int .i64 (t.u 3),.int .i64 (t.l 0),.int .i64 (t.l 1),.int .i64 (t.l 2),.int .i64 (t.l 3),.int .i64 (t.b 0),.int .i64 (t.b 1),.int .i64 (t.b 2),.int .i64 (t.b 3),.int .i64 t.d]] W (EdOut W (lisE t xs) (erE t xs (ofE t xs)))):=fun W hb=>ofRefN (cap:=cap) (t:=t) h (fun _=>by omega) W hb;have hli:(xs.length:Int)<=60:=by omega
 have hni:(n:Int)<=9000000000000000000:=by omega
 unfold EdOut at HOf
 by_cases he:lisE t xs=0
 ·have HU:Hid (∀ W,Below w.heap.size w W->Calls Tryz.prog 47 #[.slice ao xs.length cap,.agg #[.int .i64 (t.u 0),.int .i64 (t.u 1),.int .i64 (t.u 2),.int .i64 (t.u 3),.int .i64 (t.l 0),.int .i64 (t.l 1),.int .i64 (t.l 2),.int .i64 (t.l 3),.int .i64 (t.b 0),.int .i64 (t.b 1),.int .i64 (t.b 2),.int .i64 (t.b 3),.int .i64 t.d]] W fun e w'=>e=.returned (.bool (!hvU t xs))/\Below W.heap.size W w'):=fun W hb=>uses_any ao cap xs t W (h.below hb) (lis_all he).2.2 (by omega);rw [he] at HOf;have hb:hvU t xs=false\/¬ n=xs.length:=by
   rcases hb with hb|hb
   ·exact absurd he hb
   ·exact hb
  clear h he;generalize erE t xs (ofE t xs)=es at *;generalize hvU t xs=bu at *;unfold Tab.val
  cases bu
  ·go_enter Tryz.func26,Tryz.ntmps26;go_wp2_with (first
    | (go_at_call 46;refine Calls.mono (HOf.out _ (by go_grown)) ?_;rintro e w1 ⟨ea,ec,rfl,o1,b1⟩;have HT:Hid (TabAt w1 w.heap.size t/\Below w.heap.size w w1):=tabNx ⟨Tb.tabAt_new w t 28,by go_grown⟩ b1;clear o1 b1 HOf;have k2:=HT.out.1;have qu0:=k2.cu 0 (by decide);have qu1:=k2.cu 1 (by decide);have qu2:=k2.cu 2 (by decide);have qu3:=k2.cu 3 (by decide);have ql0:=k2.cl 0 (by decide);have ql1:=k2.cl 1 (by decide);have ql2:=k2.cl 2 (by decide);have ql3:=k2.cl 3 (by decide);have qb0:=k2.cb 0 (by decide);have qb1:=k2.cb 1 (by decide);have qb2:=k2.cb 2 (by decide);have qb3:=k2.cb 3 (by decide);have qd:=k2.cd;have qz:=k2.lt;clear k2)
    | (go_at_call 47;refine Calls.mono (HU.out _ HT.out.2) ?_;rintro e w2 ⟨rfl,b2⟩;have HT2:Hid (Below w.heap.size w w2):=(tabNx HT.out b2).2;clear b2 HU HT qu0 qu1 qu2 qu3 ql0 ql1 ql2 ql3 qb0 qb1 qb2 qb3 qd qz))
   go_ret
   exact ⟨rfl,HT2.out⟩
  ·have hb:¬ n=xs.length:=by
    rcases hb with hb|hb
    ·cases hb
    ·exact hb
   have hni2:¬ (n:Int)=(xs.length:Int):=by omega
   have hnb:((n:Int) != (xs.length:Int))=true:=by simpa using hni2
   go_enter Tryz.func26,Tryz.ntmps26;go_wp2_with (first
    | (go_at_call 46;refine Calls.mono (HOf.out _ (by go_grown)) ?_;rintro e w1 ⟨ea,ec,rfl,o1,b1⟩;have HT:Hid (TabAt w1 w.heap.size t/\Below w.heap.size w w1):=tabNx ⟨Tb.tabAt_new w t 28,by go_grown⟩ b1;clear o1 b1 HOf;have k2:=HT.out.1;have qu0:=k2.cu 0 (by decide);have qu1:=k2.cu 1 (by decide);have qu2:=k2.cu 2 (by decide);have qu3:=k2.cu 3 (by decide);have ql0:=k2.cl 0 (by decide);have ql1:=k2.cl 1 (by decide);have ql2:=k2.cl 2 (by decide);have ql3:=k2.cl 3 (by decide);have qb0:=k2.cb 0 (by decide);have qb1:=k2.cb 1 (by decide);have qb2:=k2.cb 2 (by decide);have qb3:=k2.cb 3 (by decide);have qd:=k2.cd;have qz:=k2.lt;clear k2)
    | (go_at_call 47;refine Calls.mono (HU.out _ HT.out.2) ?_;rintro e w2 ⟨rfl,b2⟩;have HT2:Hid (Below w.heap.size w w2):=(tabNx HT.out b2).2;clear b2 HU HT qu0 qu1 qu2 qu3 ql0 ql1 ql2 ql3 qb0 qb1 qb2 qb3 qd qz))
   go_ret
   exact ⟨rfl,HT2.out⟩
 ·have hne:(lisE t xs != 0)=true:=by simpa using he
  clear h hb;generalize lisE t xs=er at *;generalize erE t xs (ofE t xs)=es at *;unfold Tab.val;go_enter Tryz.func26,Tryz.ntmps26;go_wp2_with (first
   | (go_at_call 46;refine Calls.mono (HOf.out _ (by go_grown)) ?_;rintro e w1 ⟨ea,ec,rfl,o1,b1⟩;have HT:Hid (TabAt w1 w.heap.size t/\Below w.heap.size w w1):=tabNx ⟨Tb.tabAt_new w t 28,by go_grown⟩ b1;clear o1 b1 HOf))
  go_ret
  exact ⟨rfl,HT.out.2⟩
theorem refCheck_any (a ao:Option Addr) (n ccap cap:Nat) (xs:List O) (t:Tab) (g:Nat->Int) (w:World) (hg:Nl w a n g) (h:OpsAt w ao xs) (hn:xs.length<=60) (hnn:n<=9000000000000000000) :
  Calls Tryz.prog 26 #[.slice ao xs.length cap,t.val,.slice a n ccap] w fun e w'=>e=.returned (.bool (ckB t xs n g))/\Below w.heap.size w w':=by
 by_cases he:lisE t xs=0
 ·cases hu:hvU t xs
  ·have e:ckB t xs n g=false:=by unfold ckB;rw [hu];simp
   rw [e];exact refCheck_bad a ao n ccap cap xs t w h hn hnn (.inr (.inl hu))
  ·by_cases hx:n=xs.length
   ·subst hx;have e:ckB t xs xs.length g=(arC xs.length g&&kpE (ofE t xs) g&&rfU t xs g):=by
     unfold ckB;rw [hu];simp only [he,decide_true,Bool.true_and]
     cases ha:arC xs.length g
     ·simp
     ·rw [rfU_is (lis_all he).1 (arC_all ha)]
    rw [e];exact refCheck_ok a ao ccap cap xs t g w hg h hn he hu
   ·have e:ckB t xs n g=false:=by unfold ckB;rw [decide_eq_false hx];simp
    rw [e];exact refCheck_bad a ao n ccap cap xs t w h hn hnn (.inr (.inr hx))
 ·have e:ckB t xs n g=false:=by unfold ckB;rw [decide_eq_false he];simp
  rw [e];exact refCheck_bad a ao n ccap cap xs t w h hn hnn (.inl he)
theorem same_big (a1 a2:Option Addr) (n c1 c2:Nat) (w:World) (hn:(n:Int)<=9000000000000000000) (h:∀ k,k<n->∃ b1 b2 f2 v,a1=some ⟨b1,0,none⟩/\a2=some ⟨b2,f2,none⟩/\b1<w.heap.size/\b2<w.heap.size/\w.cell? ⟨b1,k,none⟩=some (.int .i64 v)/\w.cell? ⟨b2,f2+k,none⟩=some (.int .i64 v)) :
  Calls Tryz.prog 11 #[.slice a1 n c1,.slice a2 n c2] w fun e w'=>e=.returned (.bool true)/\Below w.heap.size w w':=by
 have HE:Hid (∀ k,k<n->∃ b1 b2 f2 v,a1=some ⟨b1,0,none⟩/\a2=some ⟨b2,f2,none⟩/\b1<w.heap.size/\b2<w.heap.size/\w.cell? ⟨b1,k,none⟩=some (.int .i64 v)/\w.cell? ⟨b2,f2+k,none⟩=some (.int .i64 v)):=h;clear h;go_enter Tryz.func11,Tryz.ntmps11;go_wp2_with fail
 go_loopw [5] (fun i wr=>∃ (k q:Nat),k<=n/\i=.int .i64 k/\wr=w.drewN q) (fun i _=>n-(intOf i).toNat)
 case atStart=>exact ⟨0,0,by omega,rfl,rfl⟩
 case round=>
  rename World=>wy;obtain ⟨k,q,hk,rfl,rfl⟩:=hrel
  by_cases hlt:k<n
  ·have j0:(0:Int)<=(k:Int):=by omega
   have j1:(k:Int)<(n:Int):=by omega
   obtain ⟨b1,b2,f2,v,rfl,rfl,l1,l2,f0,g0⟩:=HE.out k hlt;clear HE;have f0:(w.drewN q).cell? _=_:=f0;have g0:(w.drewN q).cell? _=_:=g0;have l1:b1<(w.drewN q).heap.size:=l1;have l2:b2<(w.drewN q).heap.size:=l2;generalize hWq:w.drewN q=W at *;go_wp2_with fail
   go_quiet (fail)
   go_wp2_with fail
   go_roundw
   case rel=>exact ⟨k+1,q+nq,by omega,by go_num,by rw [<- hWq];simp⟩
   case measure=>simp [intOf];omega
  ·have j1:¬ (k:Int)<(n:Int):=by omega
   go_wp2_with fail
   go_ret
   have B0:=Below.refl w.heap.size w;exact ⟨rfl,B0.os,B0.tape,B0.output,B0.size,B0.block⟩
def Ls3 (w W:World) (t:Tab) (a2:Option Addr) (n:Nat) (g:Nat->Int):Prop:=TabAt W w.heap.size t/\Below w.heap.size w W/\∀ k,k<n->∃ b,a2=some ⟨b,0,none⟩/\b<W.heap.size/\W.cell? ⟨b,k,none⟩=some (.int .i64 (g k))
theorem Ls3.next {w W W':World} {t:Tab} {a2:Option Addr} {n:Nat} {g:Nat->Int} (h:Ls3 w W t a2 n g) (b:Below W.heap.size W W'):Ls3 w W' t a2 n g:=⟨h.1.below b h.1.lt,h.2.1.trans (b.mono h.2.1.size),fun k hk=>by
 obtain ⟨q,e,h1,h2⟩:=h.2.2 k hk;exact ⟨q,e,Nat.lt_of_lt_of_le h1 b.size,by rw [(bcell b).1 _ _ h1];exact h2⟩⟩
def ncells (n:Nat) (g:Nat->Int):List Value:=(List.range n).map fun k=>.int .i64 (g k)
theorem ncells_one (n:Nat) (g:Nat->Int):∀ u∈ncells n g,u.oneCell'=true:=fun u hu=>by
 obtain ⟨k,-,rfl⟩:=List.mem_map.1 hu;rfl
theorem info3b:(Tryz.prog.info? 3).map (fun i=>(i.zero,i.size,i.bytes))=some (some (.int .i64 0),1,8):=by kernel_rfl
theorem row_split {w2:World} {base n:Nat} {v2:Value} {ns:List Value} (h:w2.ownsRow base 3 1 v2 n ns):∃ a2 c2,v2=.slice a2 n c2/\w2.ownsRow base 3 1 (.slice a2 n c2) n ns:=by
 rcases h.2 with ⟨e,e0⟩|⟨q,cp,cur,e,-⟩
 ·exact ⟨none,0,by rw [e,e0],by rw [e] at h;rw [e0] at h ⊢;exact h⟩
 ·exact ⟨_,_,e,by rw [e] at h;exact h⟩
end Go.Proofs.YtcmlnemokckbdaaGreatDoor.Ls
