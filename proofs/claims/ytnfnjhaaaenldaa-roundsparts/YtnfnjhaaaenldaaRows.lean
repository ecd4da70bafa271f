/-
  No cell of these rows narrows 'for every input' (looked for: loops, veiled, ifaces, maps, wideKeys, modest, calm, conditions, laid).
  DERIVED. THE GIVEN ROWS OF THIS SEAT. 3 by the template 'for every input the law returns true; each argument reads behind the call as it read before'; 0 by the template 'total and deterministic' (their statements: YtnfnjhaaaenldaaTotals.lean).
  GIVEN WITH THE SEED: the statements are not yours to turn. If you find one false, say at which input.
  Laid BY PROGRAM, IN A SANDBOX (cutbox-rows.mjs): the forced cells as the released guide's own fill.sh prints them over the translation b781842f33513051… (all of the seat's roots in one cut). By AI agents, Wed Nov 11 2026. No macro, syntax, notation, axiom, sorry.
-/
import Derived.Test.YtnfnjhaaaenldaaChecked
import GoSem.Claim
import GoSem.ClaimJoined
import GoSem.ClaimMapViews
import Derived.JoinedTies
import Derived.KernelRfl
namespace Go.Proofs.Ytnfnjhaaaenldaa
/- THE CELL 'sum', in the pinned program and in every row, IS THE sha256 OF THE DUMP (.gsa) THAT YtnfnjhaaaenldaaProg.lean LOADS. Nothing in Lean hashes anything: it is a label: what it is worth is what the hold of that sum in a sandbox is worth. -/
noncomputable def Try.pinned : Pinned := { name := "ytnfnjhaaaenldaa", sum := "b781842f335130516e307c5eb597c86797550ad45f37211700ae1dbe42e92379", checked := Try.checked }
namespace Rows
def none {H : Type} : Left H := { results := [], args := [] }

/-- 'hayloftlaw17.RoundsTell': WHATEVER THE INPUT: true; the input reads as it did. -/
def roundsTellSpec : ChangeSpec := { name := "roundsTell", fn := fun _ => fun
  | [d1, d2] => { results := [.lit (.bool true)], args := [d1, d2] }
  | _ => none }
def roundsTellRow : OpenClaim := { program := "ytnfnjhaaaenldaa", sum := "b781842f335130516e307c5eb597c86797550ad45f37211700ae1dbe42e92379", func := "hayloft/hayloftlaw17.RoundsTell", spec := "roundsTell", unfollowed := true, recurses := true, apart := false }
def RoundsTellSaid : Prop := roundsTellRow.holds Try.pinned (OpenSpec.ofChange roundsTellSpec)

/-- ITS FALSE NEIGHBOUR: 'it returns false'. Refute it at one input. -/
def roundsTellWrong : ChangeSpec := { name := "roundsTell", fn := fun _ => fun
  | [d1, d2] => { results := [.lit (.bool false)], args := [d1, d2] }
  | _ => none }
def RoundsTellWrongFalsely : Prop := roundsTellRow.holds Try.pinned (OpenSpec.ofChange roundsTellWrong)

/-- 'hayloftlaw17.RoundsParts': WHATEVER THE INPUT: true; the input reads as it did. -/
def roundsPartsSpec : ChangeSpec := { name := "roundsParts", fn := fun _ => fun
  | [d1, d2] => { results := [.lit (.bool true)], args := [d1, d2] }
  | _ => none }
def roundsPartsRow : OpenClaim := { program := "ytnfnjhaaaenldaa", sum := "b781842f335130516e307c5eb597c86797550ad45f37211700ae1dbe42e92379", func := "hayloft/hayloftlaw17.RoundsParts", spec := "roundsParts", unfollowed := true, recurses := true, apart := false }
def RoundsPartsSaid : Prop := roundsPartsRow.holds Try.pinned (OpenSpec.ofChange roundsPartsSpec)

/-- ITS FALSE NEIGHBOUR: 'it returns false'. Refute it at one input. -/
def roundsPartsWrong : ChangeSpec := { name := "roundsParts", fn := fun _ => fun
  | [d1, d2] => { results := [.lit (.bool false)], args := [d1, d2] }
  | _ => none }
def RoundsPartsWrongFalsely : Prop := roundsPartsRow.holds Try.pinned (OpenSpec.ofChange roundsPartsWrong)

/-- 'hayloftlaw17.RoundsEach': WHATEVER THE INPUT: true; the input reads as it did. -/
def roundsEachSpec : ChangeSpec := { name := "roundsEach", fn := fun _ => fun
  | [d1, d2] => { results := [.lit (.bool true)], args := [d1, d2] }
  | _ => none }
def roundsEachRow : OpenClaim := { program := "ytnfnjhaaaenldaa", sum := "b781842f335130516e307c5eb597c86797550ad45f37211700ae1dbe42e92379", func := "hayloft/hayloftlaw17.RoundsEach", spec := "roundsEach", unfollowed := true, recurses := true, apart := false }
def RoundsEachSaid : Prop := roundsEachRow.holds Try.pinned (OpenSpec.ofChange roundsEachSpec)

/-- ITS FALSE NEIGHBOUR: 'it returns false'. Refute it at one input. -/
def roundsEachWrong : ChangeSpec := { name := "roundsEach", fn := fun _ => fun
  | [d1, d2] => { results := [.lit (.bool false)], args := [d1, d2] }
  | _ => none }
def RoundsEachWrongFalsely : Prop := roundsEachRow.holds Try.pinned (OpenSpec.ofChange roundsEachWrong)

/- THE SECOND FORM. 'bulk': how many values and letters a reading holds, each counted each time it is reached (what is shared counts as often as it is met; a slice's spare places count too). A statement '..UptoSaid' is the law's where the arguments, and the package variables that the reading takes, are together of bulk at most 1048576: NARROWER than '..Said'. Prove '..Said' where nothing that the law and all that it calls make is longer than what came in: it says more and counts as full. Else prove '..UptoSaid'. A law counts once. -/
mutual
def uptoBulk {H : Type} : DataW H → Nat
  | .lit (.string bytes) => bytes.length + 1
  | .lit _ => 1
  | .nil => 1
  | .ptr d => uptoBulk d + 1
  | .slice elems spare => uptoBulkAll elems + uptoBulkAll spare + 1
  | .agg parts => uptoBulkAll parts + 1
  | .iface _ d => uptoBulk d + 1
  | .map entries => uptoBulkEntries entries + 1
  | .held _ => 1
def uptoBulkAll {H : Type} : List (DataW H) → Nat
  | [] => 0
  | d :: r => uptoBulk d + uptoBulkAll r
def uptoBulkEntries {H : Type} : List (Lit × DataW H) → Nat
  | [] => 0
  | x :: r => uptoBulkEntry x + uptoBulkEntries r
def uptoBulkEntry {H : Type} : Lit × DataW H → Nat
  | (.string bytes, d) => bytes.length + uptoBulk d + 1
  | (_, d) => uptoBulk d + 1
 end
def uptoSmall : (H : Type) → List (DataW H) → Bool := fun _ ds => decide (uptoBulkAll ds ≤ 1048576)
def OpenSpec.upto (s : _root_.Go.ChangeSpec) : _root_.Go.OpenSpec := { _root_.Go.OpenSpec.ofChange s with cond := some uptoSmall }

/-- 'hayloftlaw17.RoundsTell', WHERE WHAT IT READS IS OF BULK AT MOST 1048576: true; the input reads as it did. -/
def roundsTellUptoRow : OpenClaim := { program := "ytnfnjhaaaenldaa", sum := "b781842f335130516e307c5eb597c86797550ad45f37211700ae1dbe42e92379", func := "hayloft/hayloftlaw17.RoundsTell", spec := "roundsTell", unfollowed := true, recurses := true, apart := false, narrowed := true }
def RoundsTellUptoSaid : Prop := roundsTellUptoRow.holds Try.pinned (OpenSpec.upto roundsTellSpec)

/-- 'hayloftlaw17.RoundsParts', WHERE WHAT IT READS IS OF BULK AT MOST 1048576: true; the input reads as it did. -/
def roundsPartsUptoRow : OpenClaim := { program := "ytnfnjhaaaenldaa", sum := "b781842f335130516e307c5eb597c86797550ad45f37211700ae1dbe42e92379", func := "hayloft/hayloftlaw17.RoundsParts", spec := "roundsParts", unfollowed := true, recurses := true, apart := false, narrowed := true }
def RoundsPartsUptoSaid : Prop := roundsPartsUptoRow.holds Try.pinned (OpenSpec.upto roundsPartsSpec)

/-- 'hayloftlaw17.RoundsEach', WHERE WHAT IT READS IS OF BULK AT MOST 1048576: true; the input reads as it did. -/
def roundsEachUptoRow : OpenClaim := { program := "ytnfnjhaaaenldaa", sum := "b781842f335130516e307c5eb597c86797550ad45f37211700ae1dbe42e92379", func := "hayloft/hayloftlaw17.RoundsEach", spec := "roundsEach", unfollowed := true, recurses := true, apart := false, narrowed := true }
def RoundsEachUptoSaid : Prop := roundsEachUptoRow.holds Try.pinned (OpenSpec.upto roundsEachSpec)

end Rows
end Go.Proofs.Ytnfnjhaaaenldaa
