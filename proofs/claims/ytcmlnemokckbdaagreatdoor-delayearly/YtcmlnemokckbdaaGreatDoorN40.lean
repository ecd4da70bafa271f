/- Parts Ys. -/
import Derived.Test.YtcmlnemokckbdaaGreatDoorN22
set_option maxRecDepth 20000
set_option maxHeartbeats 2000000
namespace Go.Proofs.YtcmlnemokckbdaaGreatDoor.Ls
open Go.ChangeShapes Go.WideShapes Go.ChangeAt Go.RowKit
open YtcmlnemokckbdaaGreatDoor.Op YtcmlnemokckbdaaGreatDoor.So YtcmlnemokckbdaaGreatDoor.Dp
theorem same_big (a1 a2:Option Addr) (n c1 c2:Nat) (w:World) (hn:(n:Int)<=9000000000000000000) (h:∀ k,k<n->∃ b1 b2 f2 v,a1=some ⟨b1,0,none⟩/\a2=some ⟨b2,f2,none⟩/\b1<w.heap.size/\b2<w.heap.size/\w.cell? ⟨b1,k,none⟩=some (.int .i64 v)/\w.cell? ⟨b2,f2+k,none⟩=some (.int .i64 v)) :
  Calls Tryz.prog 11 #[.slice a1 n c1,.slice a2 n c2] w fun e w'=>e=.returned (.bool true)/\Below w.heap.size w w':=by
 have HE:Hid (∀ k,k<n->∃ b1 b2 f2 v,a1=some ⟨b1,0,none⟩/\a2=some ⟨b2,f2,none⟩/\b1<w.heap.size/\b2<w.heap.size/\w.cell? ⟨b1,k,none⟩=some (.int .i64 v)/\w.cell? ⟨b2,f2+k,none⟩=some (.int .i64 v)):=h;clear h;go_enter Tryz.func11,Tryz.ntmps11;go_wp2_with fail
 go_loopw [5] (fun i wr=>∃ (k q:Nat),k<=n/\i=.int .i64 k/\wr=w.drewN q) (fun i _=>n-(intOf i).toNat)
 case atStart=>exact ⟨0,0,by omega,rfl,rfl⟩
 case round=>
  rename World=>wy;obtain ⟨k,q,hk,rfl,rfl⟩:=hrel
  by_cases hlt:k<n
  ·have j0:(0:Int)<=(k:Int):=by omega
   have j1:(k:Int)<(n:Int):=by omega
   obtain ⟨b1,b2,f2,v,rfl,rfl,l1,l2,f0,g0⟩:=HE.out k hlt;clear HE;have f0:(w.drewN q).cell? _=_:=f0;have g0:(w.drewN q).cell? _=_:=g0;have l1:b1<(w.drewN q).heap.size:=l1;have l2:b2<(w.drewN q).heap.size:=l2;generalize hWq:w.drewN q=W at *;go_wp2_with fail
   go_quiet (fail)
   go_wp2_with fail
   go_roundw
   case rel=>exact ⟨k+1,q+nq,by omega,by go_num,by rw [<- hWq];simp⟩
   case measure=>simp [intOf];omega
  ·have j1:¬ (k:Int)<(n:Int):=by omega
   go_wp2_with fail
   go_ret
   have B0:=Below.refl w.heap.size w;exact ⟨rfl,B0.os,B0.tape,B0.output,B0.size,B0.block⟩
end Go.Proofs.YtcmlnemokckbdaaGreatDoor.Ls
