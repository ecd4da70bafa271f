/- The statement SerialKeeps, of any program and state in memory. Conditions: they lie in memory, and the variable as the program lays it. -/
import Derived.Test.YtlnfhbkkodhmaaaDoorNy
namespace Go.Proofs.YtlnfhbkkodhmaaaDoor.Sm
open Go.ChangeShapes Go.WideShapes Go.ChangeAt Go.RowKit
open _root_.Go.Proofs.YtlnfhbkkodhmaaaDoor.Op _root_.Go.Proofs.YtlnfhbkkodhmaaaDoor.So
theorem law_keeps (ao ra ma : Option Addr) (cap rc mc : Nat) (ps : List Bk) (rs ms : List Int) (n : Int) (w : World) (h : PAt w ao ps) (he : Env w) (hs : Sn w ra ma rs ms) (hr : ∀ x ∈ rs, In64 x) (hm : ∀ x ∈ ms, In64 x) :
    Calls Tryd.prog 7 #[.agg #[.slice ao ps.length cap], .agg #[.slice ra rs.length rc, .slice ma ms.length mc], .int .i64 n] w fun e w' => e = .returned (.bool true) ∧ Below w.heap.size w w' := by
  by_cases hc : ckP ps = 0
  · by_cases h32 : rs.length ≤ 32
    · by_cases h256 : ms.length ≤ 256
      · exact keeps_main ao ra ma cap rc mc ps rs ms n w h he hc hs h32 h256 hr hm
      · exact keeps_no ao ra ma cap _ rc _ mc ps n w h he (.inr (.inr (by omega)))
    · exact keeps_no ao ra ma cap _ rc _ mc ps n w h he (.inr (.inl (by omega)))
  · exact keeps_no ao ra ma cap _ rc _ mc ps n w h he (.inl hc)
end Go.Proofs.YtlnfhbkkodhmaaaDoor.Sm
