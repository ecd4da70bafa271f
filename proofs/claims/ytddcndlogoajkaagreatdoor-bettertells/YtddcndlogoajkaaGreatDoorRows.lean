/-
  NARROWER THAN 'FOR EVERY INPUT', by the rows' own cells (each row's printed sentence says how): BetterTells: laid · BetterSame: laid.
  DERIVED. THE GIVEN ROWS OF THIS SEAT. 2 by the template 'for every input the law returns true; each argument reads behind the call as it read before'; 0 by the template 'total and deterministic' (their statements: YtddcndlogoajkaaGreatDoorTotals.lean).
  GIVEN WITH THE SEED: the statements are not yours to turn. If you find one false, say at which input.
  Laid BY PROGRAM, IN A SANDBOX (cutbox-rows.mjs): the forced cells as the released guide's own fill.sh prints them over the translation add7169aa23c562e… (all of the seat's roots in one cut). By AI agents, Wed Nov 11 2026. No macro, syntax, notation, axiom, sorry.
-/
import Derived.Test.YtddcndlogoajkaaGreatDoorChecked
import GoSem.Claim
import GoSem.ClaimJoined
import GoSem.ClaimMapViews
import Derived.JoinedTies
import Derived.KernelRfl
namespace Go.Proofs.YtddcndlogoajkaaGreatDoor
/- THE CELL 'sum', in the pinned program and in every row, IS THE sha256 OF THE DUMP (.gsa) THAT YtddcndlogoajkaaGreatDoorProg.lean LOADS. Nothing in Lean hashes anything: it is a label: what it is worth is what the hold of that sum in a sandbox is worth. -/
noncomputable def Tryz.pinned : Pinned := { name := "ytddcndlogoajkaagreatdoor", sum := "add7169aa23c562e2399481e87178c8de14fb20094be59fa60bf0e4867718a7b", checked := Tryz.checked }
namespace Rows
def none {H : Type} : Left H := { results := [], args := [] }

/- WHAT THE LISTED PACKAGE-LEVEL VARIABLES READ AS WHEN THE CALL BEGINS. Each datum BY PROGRAM (the guide's laid-datum.mjs) off the statement by which the dump's own 'gosem.cut.vars' lays the variable. In a bare row this is a premise. The card (YtddcndlogoajkaaGreatDoorCards.lean) ties it to the program's text. -/
def laid_hayloft_program_ends {H : Type} : DataW H := .agg [.agg [.lit (.bool false), .lit (.bool false), .lit (.bool true), .lit (.bool false)], .agg [.lit (.bool true), .lit (.bool false), .lit (.bool true), .lit (.bool true)], .agg [.lit (.bool true), .lit (.bool false), .lit (.bool false), .lit (.bool false)], .agg [.lit (.bool true), .lit (.bool true), .lit (.bool true), .lit (.bool false)]]

/-- 'hayloftlaw25.BetterTells': WHATEVER THE INPUT: true; the input reads as it did. -/
def betterTellsSpec : ChangeSpec := { name := "betterTells", fn := fun _ => fun
  | [d] => { results := [.lit (.bool true)], args := [d] }
  | _ => none }
def betterTellsRow : OpenClaim := { program := "ytddcndlogoajkaagreatdoor", sum := "add7169aa23c562e2399481e87178c8de14fb20094be59fa60bf0e4867718a7b", func := "hayloft/hayloftlaw25.BetterTells", spec := "betterTells", unfollowed := true, recurses := true, named := ["hayloft/program.ends"], plainKeys := false, apart := false, laid := [("hayloft/program.ends", laid_hayloft_program_ends)] }
def BetterTellsSaid : Prop := betterTellsRow.holds Tryz.pinned (OpenSpec.ofChange betterTellsSpec)

/-- ITS FALSE NEIGHBOUR: 'it returns false'. Refute it at one input. -/
def betterTellsWrong : ChangeSpec := { name := "betterTells", fn := fun _ => fun
  | [d] => { results := [.lit (.bool false)], args := [d] }
  | _ => none }
def BetterTellsWrongFalsely : Prop := betterTellsRow.holds Tryz.pinned (OpenSpec.ofChange betterTellsWrong)

/-- 'hayloftlaw25.BetterSame': WHATEVER THE INPUT: true; the input reads as it did. -/
def betterSameSpec : ChangeSpec := { name := "betterSame", fn := fun _ => fun
  | [d1, d2, d3] => { results := [.lit (.bool true)], args := [d1, d2, d3] }
  | _ => none }
def betterSameRow : OpenClaim := { program := "ytddcndlogoajkaagreatdoor", sum := "add7169aa23c562e2399481e87178c8de14fb20094be59fa60bf0e4867718a7b", func := "hayloft/hayloftlaw25.BetterSame", spec := "betterSame", unfollowed := true, recurses := true, named := ["hayloft/program.ends"], plainKeys := false, apart := false, laid := [("hayloft/program.ends", laid_hayloft_program_ends)] }
def BetterSameSaid : Prop := betterSameRow.holds Tryz.pinned (OpenSpec.ofChange betterSameSpec)

/-- ITS FALSE NEIGHBOUR: 'it returns false'. Refute it at one input. -/
def betterSameWrong : ChangeSpec := { name := "betterSame", fn := fun _ => fun
  | [d1, d2, d3] => { results := [.lit (.bool false)], args := [d1, d2, d3] }
  | _ => none }
def BetterSameWrongFalsely : Prop := betterSameRow.holds Tryz.pinned (OpenSpec.ofChange betterSameWrong)

/- THE SECOND FORM. 'bulk': how many values and letters a reading holds, each counted each time it is reached (what is shared counts as often as it is met; a slice's spare places count too). A statement '..UptoSaid' is the law's where the arguments, and the package variables that the reading takes, are together of bulk at most 1048576: NARROWER than '..Said'. Prove '..Said' where nothing that the law and all that it calls make is longer than what came in: it says more and counts as full. Else prove '..UptoSaid'. A law counts once. -/
mutual
def uptoBulk {H : Type} : DataW H → Nat
  | .lit (.string bytes) => bytes.length + 1
  | .lit _ => 1
  | .nil => 1
  | .ptr d => uptoBulk d + 1
  | .slice elems spare => uptoBulkAll elems + uptoBulkAll spare + 1
  | .agg parts => uptoBulkAll parts + 1
  | .iface _ d => uptoBulk d + 1
  | .map entries => uptoBulkEntries entries + 1
  | .held _ => 1
def uptoBulkAll {H : Type} : List (DataW H) → Nat
  | [] => 0
  | d :: r => uptoBulk d + uptoBulkAll r
def uptoBulkEntries {H : Type} : List (Lit × DataW H) → Nat
  | [] => 0
  | x :: r => uptoBulkEntry x + uptoBulkEntries r
def uptoBulkEntry {H : Type} : Lit × DataW H → Nat
  | (.string bytes, d) => bytes.length + uptoBulk d + 1
  | (_, d) => uptoBulk d + 1
 end
def uptoSmall : (H : Type) → List (DataW H) → Bool := fun _ ds => decide (uptoBulkAll ds ≤ 1048576)
def OpenSpec.upto (s : _root_.Go.ChangeSpec) : _root_.Go.OpenSpec := { _root_.Go.OpenSpec.ofChange s with cond := some uptoSmall }

/-- 'hayloftlaw25.BetterTells', WHERE WHAT IT READS IS OF BULK AT MOST 1048576: true; the input reads as it did. -/
def betterTellsUptoRow : OpenClaim := { program := "ytddcndlogoajkaagreatdoor", sum := "add7169aa23c562e2399481e87178c8de14fb20094be59fa60bf0e4867718a7b", func := "hayloft/hayloftlaw25.BetterTells", spec := "betterTells", unfollowed := true, recurses := true, named := ["hayloft/program.ends"], plainKeys := false, apart := false, laid := [("hayloft/program.ends", laid_hayloft_program_ends)], narrowed := true }
def BetterTellsUptoSaid : Prop := betterTellsUptoRow.holds Tryz.pinned (OpenSpec.upto betterTellsSpec)

/-- 'hayloftlaw25.BetterSame', WHERE WHAT IT READS IS OF BULK AT MOST 1048576: true; the input reads as it did. -/
def betterSameUptoRow : OpenClaim := { program := "ytddcndlogoajkaagreatdoor", sum := "add7169aa23c562e2399481e87178c8de14fb20094be59fa60bf0e4867718a7b", func := "hayloft/hayloftlaw25.BetterSame", spec := "betterSame", unfollowed := true, recurses := true, named := ["hayloft/program.ends"], plainKeys := false, apart := false, laid := [("hayloft/program.ends", laid_hayloft_program_ends)], narrowed := true }
def BetterSameUptoSaid : Prop := betterSameUptoRow.holds Tryz.pinned (OpenSpec.upto betterSameSpec)

end Rows
end Go.Proofs.YtddcndlogoajkaaGreatDoor
