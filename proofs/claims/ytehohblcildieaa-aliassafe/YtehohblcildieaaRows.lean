/-
  No cell of these rows narrows 'for every input' (looked for: loops, veiled, ifaces, maps, wideKeys, modest, calm, conditions, laid).
  DERIVED. THE GIVEN ROWS OF THIS SEAT. 3 by the template 'for every input the law returns true; each argument reads behind the call as it read before'; 0 by the template 'total and deterministic' (their statements: YtehohblcildieaaTotals.lean).
  GIVEN WITH THE SEED: the statements are not yours to turn. If you find one false, say at which input.
  Laid BY PROGRAM, IN A SANDBOX (cutbox-rows.mjs): the forced cells as the released guide's own fill.sh prints them over the translation e824e57370561e3d… (all of the seat's roots in one cut). By AI agents, Wed Nov 11 2026. No macro, syntax, notation, axiom, sorry.
-/
import Derived.Test.YtehohblcildieaaChecked
import GoSem.Claim
import GoSem.ClaimJoined
import GoSem.ClaimMapViews
import Derived.JoinedTies
import Derived.KernelRfl
namespace Go.Proofs.Ytehohblcildieaa
/- THE CELL 'sum', in the pinned program and in every row, IS THE sha256 OF THE DUMP (.gsa) THAT YtehohblcildieaaProg.lean LOADS. Nothing in Lean hashes anything: it is a label: what it is worth is what the hold of that sum in a sandbox is worth. -/
noncomputable def Try.pinned : Pinned := { name := "ytehohblcildieaa", sum := "e824e57370561e3d27a5ddf7d6315456e8a2b4a9dff24e66744f5b9e915de510", checked := Try.checked }
namespace Rows
def none {H : Type} : Left H := { results := [], args := [] }

/-- 'hayloftlaw10.AliasTells': WHATEVER THE INPUT: true; the input reads as it did. -/
def aliasTellsSpec : ChangeSpec := { name := "aliasTells", fn := fun _ => fun
  | [d1, d2, d3] => { results := [.lit (.bool true)], args := [d1, d2, d3] }
  | _ => none }
def aliasTellsRow : OpenClaim := { program := "ytehohblcildieaa", sum := "e824e57370561e3d27a5ddf7d6315456e8a2b4a9dff24e66744f5b9e915de510", func := "hayloft/hayloftlaw10.AliasTells", spec := "aliasTells", unfollowed := true, recurses := true, apart := false }
def AliasTellsSaid : Prop := aliasTellsRow.holds Try.pinned (OpenSpec.ofChange aliasTellsSpec)

/-- ITS FALSE NEIGHBOUR: 'it returns false'. Refute it at one input. -/
def aliasTellsWrong : ChangeSpec := { name := "aliasTells", fn := fun _ => fun
  | [d1, d2, d3] => { results := [.lit (.bool false)], args := [d1, d2, d3] }
  | _ => none }
def AliasTellsWrongFalsely : Prop := aliasTellsRow.holds Try.pinned (OpenSpec.ofChange aliasTellsWrong)

/-- 'hayloftlaw10.AliasSafe': WHATEVER THE INPUT: true; the input reads as it did. -/
def aliasSafeSpec : ChangeSpec := { name := "aliasSafe", fn := fun _ => fun
  | [d1, d2, d3] => { results := [.lit (.bool true)], args := [d1, d2, d3] }
  | _ => none }
def aliasSafeRow : OpenClaim := { program := "ytehohblcildieaa", sum := "e824e57370561e3d27a5ddf7d6315456e8a2b4a9dff24e66744f5b9e915de510", func := "hayloft/hayloftlaw10.AliasSafe", spec := "aliasSafe", unfollowed := true, recurses := true, apart := false }
def AliasSafeSaid : Prop := aliasSafeRow.holds Try.pinned (OpenSpec.ofChange aliasSafeSpec)

/-- ITS FALSE NEIGHBOUR: 'it returns false'. Refute it at one input. -/
def aliasSafeWrong : ChangeSpec := { name := "aliasSafe", fn := fun _ => fun
  | [d1, d2, d3] => { results := [.lit (.bool false)], args := [d1, d2, d3] }
  | _ => none }
def AliasSafeWrongFalsely : Prop := aliasSafeRow.holds Try.pinned (OpenSpec.ofChange aliasSafeWrong)

/-- 'hayloftlaw10.AliasRounds': WHATEVER THE INPUT: true; the input reads as it did. -/
def aliasRoundsSpec : ChangeSpec := { name := "aliasRounds", fn := fun _ => fun
  | [d1, d2, d3] => { results := [.lit (.bool true)], args := [d1, d2, d3] }
  | _ => none }
def aliasRoundsRow : OpenClaim := { program := "ytehohblcildieaa", sum := "e824e57370561e3d27a5ddf7d6315456e8a2b4a9dff24e66744f5b9e915de510", func := "hayloft/hayloftlaw10.AliasRounds", spec := "aliasRounds", unfollowed := true, recurses := true, apart := false }
def AliasRoundsSaid : Prop := aliasRoundsRow.holds Try.pinned (OpenSpec.ofChange aliasRoundsSpec)

/-- ITS FALSE NEIGHBOUR: 'it returns false'. Refute it at one input. -/
def aliasRoundsWrong : ChangeSpec := { name := "aliasRounds", fn := fun _ => fun
  | [d1, d2, d3] => { results := [.lit (.bool false)], args := [d1, d2, d3] }
  | _ => none }
def AliasRoundsWrongFalsely : Prop := aliasRoundsRow.holds Try.pinned (OpenSpec.ofChange aliasRoundsWrong)

/- THE SECOND FORM. 'bulk': how many values and letters a reading holds, each counted each time it is reached (what is shared counts as often as it is met; a slice's spare places count too). A statement '..UptoSaid' is the law's where the arguments, and the package variables that the reading takes, are together of bulk at most 1048576: NARROWER than '..Said'. Prove '..Said' where nothing that the law and all that it calls make is longer than what came in: it says more and counts as full. Else prove '..UptoSaid'. A law counts once. -/
mutual
def uptoBulk {H : Type} : DataW H → Nat
  | .lit (.string bytes) => bytes.length + 1
  | .lit _ => 1
  | .nil => 1
  | .ptr d => uptoBulk d + 1
  | .slice elems spare => uptoBulkAll elems + uptoBulkAll spare + 1
  | .agg parts => uptoBulkAll parts + 1
  | .iface _ d => uptoBulk d + 1
  | .map entries => uptoBulkEntries entries + 1
  | .held _ => 1
def uptoBulkAll {H : Type} : List (DataW H) → Nat
  | [] => 0
  | d :: r => uptoBulk d + uptoBulkAll r
def uptoBulkEntries {H : Type} : List (Lit × DataW H) → Nat
  | [] => 0
  | x :: r => uptoBulkEntry x + uptoBulkEntries r
def uptoBulkEntry {H : Type} : Lit × DataW H → Nat
  | (.string bytes, d) => bytes.length + uptoBulk d + 1
  | (_, d) => uptoBulk d + 1
 end
def uptoSmall : (H : Type) → List (DataW H) → Bool := fun _ ds => decide (uptoBulkAll ds ≤ 1048576)
def OpenSpec.upto (s : _root_.Go.ChangeSpec) : _root_.Go.OpenSpec := { _root_.Go.OpenSpec.ofChange s with cond := some uptoSmall }

/-- 'hayloftlaw10.AliasTells', WHERE WHAT IT READS IS OF BULK AT MOST 1048576: true; the input reads as it did. -/
def aliasTellsUptoRow : OpenClaim := { program := "ytehohblcildieaa", sum := "e824e57370561e3d27a5ddf7d6315456e8a2b4a9dff24e66744f5b9e915de510", func := "hayloft/hayloftlaw10.AliasTells", spec := "aliasTells", unfollowed := true, recurses := true, apart := false, narrowed := true }
def AliasTellsUptoSaid : Prop := aliasTellsUptoRow.holds Try.pinned (OpenSpec.upto aliasTellsSpec)

/-- 'hayloftlaw10.AliasSafe', WHERE WHAT IT READS IS OF BULK AT MOST 1048576: true; the input reads as it did. -/
def aliasSafeUptoRow : OpenClaim := { program := "ytehohblcildieaa", sum := "e824e57370561e3d27a5ddf7d6315456e8a2b4a9dff24e66744f5b9e915de510", func := "hayloft/hayloftlaw10.AliasSafe", spec := "aliasSafe", unfollowed := true, recurses := true, apart := false, narrowed := true }
def AliasSafeUptoSaid : Prop := aliasSafeUptoRow.holds Try.pinned (OpenSpec.upto aliasSafeSpec)

/-- 'hayloftlaw10.AliasRounds', WHERE WHAT IT READS IS OF BULK AT MOST 1048576: true; the input reads as it did. -/
def aliasRoundsUptoRow : OpenClaim := { program := "ytehohblcildieaa", sum := "e824e57370561e3d27a5ddf7d6315456e8a2b4a9dff24e66744f5b9e915de510", func := "hayloft/hayloftlaw10.AliasRounds", spec := "aliasRounds", unfollowed := true, recurses := true, apart := false, narrowed := true }
def AliasRoundsUptoSaid : Prop := aliasRoundsUptoRow.holds Try.pinned (OpenSpec.upto aliasRoundsSpec)

end Rows
end Go.Proofs.Ytehohblcildieaa
