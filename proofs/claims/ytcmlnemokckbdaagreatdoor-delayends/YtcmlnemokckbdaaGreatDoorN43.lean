/- Parts Wo. -/
import Derived.Test.YtcmlnemokckbdaaGreatDoorN37
import Derived.Test.YtcmlnemokckbdaaGreatDoorN42
set_option maxRecDepth 20000
set_option maxHeartbeats 4000000
namespace Go.Proofs.YtcmlnemokckbdaaGreatDoor.Ls
open Go.ChangeShapes Go.WideShapes Go.ChangeAt Go.RowKit
open YtcmlnemokckbdaaGreatDoor.Op YtcmlnemokckbdaaGreatDoor.So YtcmlnemokckbdaaGreatDoor.Dp YtcmlnemokckbdaaGreatDoor.ListWay
open YtcmlnemokckbdaaGreatDoor.Rv (frB)
open YtcmlnemokckbdaaGreatDoor.Tb (Tab TabAt Bnds)
structure Lz (w W:World) (t:Tab) (ea:Option Addr) (ec:Nat) (es:List Ed):Prop where
 t:TabAt W w.heap.size t
 up:Below w.heap.size w W
 eo:EOwn w.heap.size W ea ec es
theorem Lz.next {w W W':World} {t:Tab} {ea:Option Addr} {ec:Nat} {es:List Ed} (h:Lz w W t ea ec es) (g:Below W.heap.size W W'):Lz w W' t ea ec es:=⟨h.t.below g h.t.lt,h.up.trans (g.mono h.up.size),row_up h.eo g⟩
theorem Lz.drewN {w W:World} {t:Tab} {k:Nat} {ea:Option Addr} {ec:Nat} {es:List Ed} (h:Lz w W t ea ec es):Lz w (W.drewN k) t ea ec es:=h.next ⟨rfl,rfl,rfl,Nat.le_refl _,fun _ _=>rfl⟩
theorem uses_any (ao:Option Addr) (cap:Nat) (xs:List O) (t:Tab) (w:World) (h:OpsAt w ao xs) (hok:∀ o∈xs,okL o=true) (hn:xs.length<=1024) :
  Calls Tryz.prog 47 #[.slice ao xs.length cap,t.val] w fun e w'=>e=.returned (.bool (!hvU t xs))/\Below w.heap.size w w':=by
 have HO:Hid (OpsAt w ao xs):=h;have HOk:Hid (∀ (i:Nat) (hi:i<xs.length),okL xs[i]=true):=fun i hi=>hok _ (List.getElem_mem hi);have hn':(xs.length:Int)<=1024:=by omega
 clear h hok;have HS:Hid (Hu2 w (w.alloc (.cells t.cells 28)) t):=⟨Tb.tabAt_new w t 28,(Below.refl _ _).alloc (Nat.le_refl _) _⟩;unfold Tab.val;go_enter Tryz.func47,Tryz.ntmps47;go_wp2_with fail
 generalize w.alloc (.cells t.cells 28)=W0 at *
 go_loopw [5] (fun v wr=>∃ k:Nat,k<=xs.length/\v=.int .i64 k/\(∀ (j:Nat) (hj:j<xs.length),j<k->¬ t.u (clD xs[j].op)=0)/\Hu2 w wr t) (fun v _=>xs.length-(intOf v).toNat)
 case atStart=>exact ⟨0,by omega,rfl,fun j _ hj=>by omega,HS.out⟩
 case round=>
  rename World=>wr;obtain ⟨k,hk,rfl,hok,hs⟩:=hrel;have HK:Hid (∀ (j:Nat) (hj:j<xs.length),j<k->¬ t.u (clD xs[j].op)=0):=hok;have HQ:Hid (Hu2 w wr t):=hs;clear hs HS hok
  by_cases hlt:k<xs.length
  ·have k0:(0:Int)<=(k:Int):=by omega
   have k1:(k:Int)<(xs.length:Int):=by omega
   obtain ⟨b,f,rfl,hz2,hx⟩:=(HO.out.below HQ.out.up).is (by omega);obtain ⟨q0,-,-,-,-⟩:=hx k hlt;obtain ⟨hv1,hv2⟩:=clV_D (HOk.out k hlt);have HC:Hid (∀ W,Calls Tryz.prog 48 #[.int .i8 xs[k].op] W fun e w'=>e=.returned (.tuple #[.int .i64 (clD xs[k].op:Int),.bool true])/\Below W.heap.size W w'):=fun W=>by
    have h1:=refClass_any xs[k].op W;rw [hv1,hv2] at h1;exact h1
   have HNo:Hid (t.u (clD xs[k].op)=0->false=hvU t xs):=fun e=>hvU_no hlt e;have HNx:Hid (¬ t.u (clD xs[k].op)=0->∀ (j:Nat) (hj:j<xs.length),j<k+1->¬ t.u (clD xs[j].op)=0):=fun e j hj hjk=>by
    rcases Nat.lt_or_ge j k with h|h
    ·exact HK.out j hj h
    ·obtain rfl:j=k:=by omega
     exact e
   have c4:=clD_lt xs[k].op;clear hx hv1 hv2;generalize clD xs[k].op=c at *;generalize xs[k]=o at *;have c0:(0:Int)<=(c:Int):=by omega
   have c3:(c:Int)<4:=by omega
   by_cases hu:t.u c=0
   ·have HR:Hid (false=hvU t xs):=HNo.out hu;go_wp2_with (first
     | (go_at_call 48;refine Calls.mono (HC.out _) ?_;rintro e w2 ⟨rfl,hb2⟩;have HQ3:Hid (Hu2 w w2 t):=HQ.out.next hb2;clear hb2 HC HQ q0 hz2;have hc:=HQ3.out.t.cu c c4;have hl:=HQ3.out.t.lt))
    go_ret
    exact ⟨by rw [<- HR.out];rfl,HQ3.out.up⟩
   ·have hub:(t.u c==0)=false:=by simpa using hu
    go_wp2_with (first
     | (go_at_call 48;refine Calls.mono (HC.out _) ?_;rintro e w2 ⟨rfl,hb2⟩;have HQ3:Hid (Hu2 w w2 t):=HQ.out.next hb2;clear hb2 HC HQ q0 hz2;have hc:=HQ3.out.t.cu c c4;have hl:=HQ3.out.t.lt))
    go_roundw
    case rel=>exact ⟨k+1,by omega,by go_num,HNx.out hu,HQ3.out⟩
    case measure=>simp [intOf];omega
  ·obtain rfl:k=xs.length:=by omega
   have k1:¬ (xs.length:Int)<(xs.length:Int):=by omega
   have HR:Hid (true=hvU t xs):=hvU_yes fun j hj=>HK.out j hj hj;go_wp2_with fail
   go_ret
   exact ⟨by rw [<- HR.out];rfl,HQ.out.up⟩
def rfU (t:Tab) (xs:List O) (g:Nat->Int):Bool:=(List.range xs.length).all fun i=>(List.range (t.b (clN xs i)).toNat).all fun k=>decide ((busy (sysL t xs []) g (clN xs i) (g i+(k:Nat)):Int)<=t.u (clN xs i))
theorem rfU_is {t:Tab} {xs:List O} {g:Nat->Int} (ht:t.ok=true) (hr:∀ k,k<xs.length->0<=g k/\g k<=65536):rfU t xs g=kpU t xs g:=by
 rw [Bool.eq_iff_iff];have h1:=taken_iff (s:=sysL t xs []) (c:=g) fun i hi=>(hr i hi).1;have hu:∀ i,(((t.u (clN xs i)).toNat : Nat):Int)=t.u (clN xs i):=fun i=>by
  have h2:=Tb.inB_iff ((Tb.ok_parts ht).2 (clN xs i) (clN_lt xs i)).1;omega
 constructor
 ·intro h;have h2:=h1.2 fun i hi k hk=>by
   have h3:=List.all_eq_true.1 (List.all_eq_true.1 h i (List.mem_range.2 hi)) k (List.mem_range.2 (by rw [sysL_b] at hk;exact hk));have h3:(busy (sysL t xs []) g (clN xs i) (g i+(k:Nat)):Int)<=t.u (clN xs i):=by simpa using h3
   have h4:=hu i;show busy (sysL t xs []) g (clN xs i) (g i+(k:Nat))<=(t.u (clN xs i)).toNat;omega
  refine List.all_eq_true.2 fun m hm=>?_;have hm:=List.mem_range.1 hm;exact (free_sys ht _ m (hr m hm).1 (hr m hm).2).2 (h2 m hm)
 ·intro h;have h2:=h1.1 fun m hm=>(free_sys ht _ m (hr m hm).1 (hr m hm).2).1 (List.all_eq_true.1 h m (List.mem_range.2 hm));refine List.all_eq_true.2 fun i hi=>List.all_eq_true.2 fun k hk=>?_;have h3:=h2 i (List.mem_range.1 hi) k (by rw [sysL_b];exact List.mem_range.1 hk);have h3:busy (sysL t xs []) g (clN xs i) (g i+(k:Nat))<=(t.u (clN xs i)).toNat:=h3;have h4:=hu i;simp only [decide_eq_true_eq];omega
theorem rfU_no {t:Tab} {xs:List O} {g:Nat->Int} {i j:Nat} (hi:i<xs.length) (hj:(j:Int)<t.b (clN xs i)) (e:t.u (clN xs i)<(busy (sysL t xs []) g (clN xs i) (g i+(j:Int)):Int)):false=rfU t xs g:=by
 symm
 refine List.all_eq_false.2 ⟨i,List.mem_range.2 hi,?_⟩;rw [Bool.not_eq_true];refine List.all_eq_false.2 ⟨j,List.mem_range.2 (by omega),?_⟩;simp
 omega
theorem rfU_yes {t:Tab} {xs:List O} {g:Nat->Int} (h:∀ i,i<xs.length->∀ j:Nat,(j:Int)<t.b (clN xs i)->(busy (sysL t xs []) g (clN xs i) (g i+(j:Int)):Int)<=t.u (clN xs i)):true=rfU t xs g:=by
 symm
 refine List.all_eq_true.2 fun i hi=>List.all_eq_true.2 fun j hj=>?_
 have:=h i (List.mem_range.1 hi) j (by have:=List.mem_range.1 hj;omega)
 simpa using this
end Go.Proofs.YtcmlnemokckbdaaGreatDoor.Ls
