/- BoundsMore, over the program: an operation more needs no fewer cycles, a unit more no more. Conditions: the list lies in memory, the variables as the program lays them. -/
import Derived.Test.YthdpgimdakmdgaaDoorZs
import Derived.Test.YthdpgimdakmdgaaDoorZt
namespace Go.Proofs.YthdpgimdakmdgaaDoor.Bn
open Go.ChangeShapes Go.WideShapes Go.ChangeAt Go.RowKit
open _root_.Go.Proofs.YthdpgimdakmdgaaDoor.Op _root_.Go.Proofs.YthdpgimdakmdgaaDoor.So
open _root_.Go.Proofs.YthdpgimdakmdgaaDoor.Dp (drew_up)
open _root_.Go.Proofs.YthdpgimdakmdgaaDoor.Tb (Tab TabAt Bnds)
set_option maxRecDepth 20000

theorem law_more (ao : Option Addr) (cap : Nat) (xs : List O) (t : Tab) (o : O) (n : Int) (w : World) (h : OpsAt w ao xs) (hcap : xs.length ≤ cap) (hnil : ao = none → cap = 0) (ho : o.Ok) (hG : Bnds w) (hu : ∀ k, k < 4 → -9223372036854775808 ≤ t.u k ∧ t.u k ≤ 9223372036854775807) :
    Calls Tryd.prog 4 #[.slice ao xs.length cap, t.val, o.val, .int .i64 n] w fun e w' => e = .returned (.bool true) ∧ Below w.heap.size w w' := by
  by_cases hl : xs.length ≤ 40
  · exact more_short ao cap xs t o n w h hcap hnil ho hG hu hl
  · exact more_long ao cap xs t o n w h hcap hnil ho hG hu (by omega)
end Go.Proofs.YthdpgimdakmdgaaDoor.Bn
