/- The statement PackNumbers, whole: how well words are packed, whatever they are, is told as the document tells it; the listed variables are tied to the program text. Conditions: none. -/
import Derived.Test.YtpdaknbmcpmhjaaGreatDoorN49
import Derived.Test.YtpdaknbmcpmhjaaGreatDoorN50
set_option maxRecDepth 100000
namespace Go.Proofs.YtpdaknbmcpmhjaaGreatDoor.Pc
open Go.ChangeShapes Go.WideShapes Go.ChangeAt Go.RowKit
open YtpdaknbmcpmhjaaGreatDoor.Op YtpdaknbmcpmhjaaGreatDoor.Bu
theorem numbers_card:Rows.PackNumbersCardSaid:=
 Claim7.holds_tied_plain_at .later [] [.wider,.wider,.wider,.wider,.data] true (true,"66b123407f217b2ba3d244527f7a9966d1dfdfc5df4bf92c8a439ddca2a81836") false numbers_row (fun _ h=>by cases h) k_wf (fun _ h=>by cases h) packNumbers_row_tie rfl ⟨rfl,rfl⟩ k_main rfl
  (fun f fn hf hfn=>by
   obtain rfl:f=8:=Option.some.inj (k_named.symm.trans hf) |>.symm;obtain rfl:fn=Tryz.f8:=(Option.some.inj (Tryz.func8.symm.trans hfn)).symm;exact ⟨k_looks,fun j t ht=>by
    rw [Tryz.params8] at ht;have hm:t∈[73,27]:=by simpa using Array.mem_of_getElem? ht
    exact (show Tryz.prog.wantsStandIn t=false by simpa using List.all_eq_true.1 k_stand t hm)⟩)
  k_goes
end Go.Proofs.YtpdaknbmcpmhjaaGreatDoor.Pc
#print axioms Go.Proofs.YtpdaknbmcpmhjaaGreatDoor.Pc.numbers_card
