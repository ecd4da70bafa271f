/- Parts Hp. -/
import Derived.Test.YtcmlnemokckbdaaGreatDoorN18
import Derived.Deep.RegionHeld3
import Derived.BigQuiet
set_option maxRecDepth 20000
namespace Go.Proofs.YtcmlnemokckbdaaGreatDoor.Dp
open Go.ChangeShapes Go.WideShapes Go.ChangeAt Go.RowKit
open YtcmlnemokckbdaaGreatDoor.Op YtcmlnemokckbdaaGreatDoor.So
open YtcmlnemokckbdaaGreatDoor.Tb (Tab TabAt Bnds)
def hl1:List O:=[⟨2,1,2,3,0⟩,⟨12,4,1,1,0⟩,⟨17,0,4,0,0⟩]
def hwt:Tab:=⟨fun _=>1,fun k=>if k=1 then 3 else if k=2 then 2 else 1,fun _=>1,1⟩
def R3 (W:World) (b:Nat) (x y z:Int):Prop:=b<W.heap.size/\W.cell? ⟨b,0,none⟩=some (.int .i64 x)/\W.cell? ⟨b,1,none⟩=some (.int .i64 y)/\W.cell? ⟨b,2,none⟩=some (.int .i64 z)
theorem R3.up {W W':World} {b:Nat} {x y z:Int} (h:R3 W b x y z) (g:Below W.heap.size W W'):R3 W' b x y z:=
 ⟨Nat.lt_of_lt_of_le h.1 g.size,by rw [(bcell g).1 _ _ h.1];exact h.2.1,by rw [(bcell g).1 _ _ h.1];exact h.2.2.1,by rw [(bcell g).1 _ _ h.1];exact h.2.2.2⟩
end Go.Proofs.YtcmlnemokckbdaaGreatDoor.Dp
