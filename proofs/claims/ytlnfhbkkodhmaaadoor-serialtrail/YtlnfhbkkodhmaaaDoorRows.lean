/-
  NARROWER THAN 'FOR EVERY INPUT', by the rows' own cells (each row's printed sentence says how): SerialRuns: laid · SerialTrail: laid · SerialNil: laid · SerialDealt: laid · SerialKeeps: laid.
  DERIVED. THE GIVEN ROWS OF THIS SEAT. 5 by the template 'for every input the law returns true; each argument reads behind the call as it read before'; 0 by the template 'total and deterministic' (their statements: YtlnfhbkkodhmaaaDoorTotals.lean).
  GIVEN WITH THE SEED: the statements are not yours to turn. If you find one false, say at which input.
  Laid BY PROGRAM, IN A SANDBOX (cutbox-rows.mjs): the forced cells as the released guide's own fill.sh prints them over the translation aaf733098b4f9844… (all of the seat's roots in one cut). By AI agents, Wed Nov 11 2026. No macro, syntax, notation, axiom, sorry.
-/
import Derived.Test.YtlnfhbkkodhmaaaDoorChecked
import GoSem.Claim
import GoSem.ClaimJoined
import GoSem.ClaimMapViews
import Derived.JoinedTies
import Derived.KernelRfl
namespace Go.Proofs.YtlnfhbkkodhmaaaDoor
/- THE CELL 'sum', in the pinned program and in every row, IS THE sha256 OF THE DUMP (.gsa) THAT YtlnfhbkkodhmaaaDoorProg.lean LOADS. Nothing in Lean hashes anything: it is a label: what it is worth is what the hold of that sum in a sandbox is worth. -/
noncomputable def Tryd.pinned : Pinned := { name := "ytlnfhbkkodhmaaadoor", sum := "aaf733098b4f98443d45483d5a8560f4f979ff92497945316f76c1b90c3c1fa3", checked := Tryd.checked }
namespace Rows
def none {H : Type} : Left H := { results := [], args := [] }

/- WHAT THE LISTED PACKAGE-LEVEL VARIABLES READ AS WHEN THE CALL BEGINS. Each datum BY PROGRAM (the guide's laid-datum.mjs) off the statement by which the dump's own 'gosem.cut.vars' lays the variable. In a bare row this is a premise. The card (YtlnfhbkkodhmaaaDoorCards.lean) ties it to the program's text. -/
def laid_hayloft_program_ends {H : Type} : DataW H := .agg [.agg [.lit (.bool false), .lit (.bool false), .lit (.bool true), .lit (.bool false)], .agg [.lit (.bool true), .lit (.bool false), .lit (.bool true), .lit (.bool true)], .agg [.lit (.bool true), .lit (.bool false), .lit (.bool false), .lit (.bool false)], .agg [.lit (.bool true), .lit (.bool true), .lit (.bool true), .lit (.bool false)]]

/-- 'hayloftlaw09.SerialRuns': WHATEVER THE INPUT: true; the input reads as it did. -/
def serialRunsSpec : ChangeSpec := { name := "serialRuns", fn := fun _ => fun
  | [d1, d2, d3] => { results := [.lit (.bool true)], args := [d1, d2, d3] }
  | _ => none }
def serialRunsRow : OpenClaim := { program := "ytlnfhbkkodhmaaadoor", sum := "aaf733098b4f98443d45483d5a8560f4f979ff92497945316f76c1b90c3c1fa3", func := "hayloft/hayloftlaw09.SerialRuns", spec := "serialRuns", unfollowed := true, recurses := true, named := ["hayloft/program.ends"], apart := false, laid := [("hayloft/program.ends", laid_hayloft_program_ends)] }
def SerialRunsSaid : Prop := serialRunsRow.holds Tryd.pinned (OpenSpec.ofChange serialRunsSpec)

/-- ITS FALSE NEIGHBOUR: 'it returns false'. Refute it at one input. -/
def serialRunsWrong : ChangeSpec := { name := "serialRuns", fn := fun _ => fun
  | [d1, d2, d3] => { results := [.lit (.bool false)], args := [d1, d2, d3] }
  | _ => none }
def SerialRunsWrongFalsely : Prop := serialRunsRow.holds Tryd.pinned (OpenSpec.ofChange serialRunsWrong)

/-- 'hayloftlaw09.SerialTrail': WHATEVER THE INPUT: true; the input reads as it did. -/
def serialTrailSpec : ChangeSpec := { name := "serialTrail", fn := fun _ => fun
  | [d1, d2, d3] => { results := [.lit (.bool true)], args := [d1, d2, d3] }
  | _ => none }
def serialTrailRow : OpenClaim := { program := "ytlnfhbkkodhmaaadoor", sum := "aaf733098b4f98443d45483d5a8560f4f979ff92497945316f76c1b90c3c1fa3", func := "hayloft/hayloftlaw09.SerialTrail", spec := "serialTrail", unfollowed := true, recurses := true, named := ["hayloft/program.ends"], apart := false, laid := [("hayloft/program.ends", laid_hayloft_program_ends)] }
def SerialTrailSaid : Prop := serialTrailRow.holds Tryd.pinned (OpenSpec.ofChange serialTrailSpec)

/-- ITS FALSE NEIGHBOUR: 'it returns false'. Refute it at one input. -/
def serialTrailWrong : ChangeSpec := { name := "serialTrail", fn := fun _ => fun
  | [d1, d2, d3] => { results := [.lit (.bool false)], args := [d1, d2, d3] }
  | _ => none }
def SerialTrailWrongFalsely : Prop := serialTrailRow.holds Tryd.pinned (OpenSpec.ofChange serialTrailWrong)

/-- 'hayloftlaw09.SerialNil': WHATEVER THE INPUT: true; the input reads as it did. -/
def serialNilSpec : ChangeSpec := { name := "serialNil", fn := fun _ => fun
  | [d] => { results := [.lit (.bool true)], args := [d] }
  | _ => none }
def serialNilRow : OpenClaim := { program := "ytlnfhbkkodhmaaadoor", sum := "aaf733098b4f98443d45483d5a8560f4f979ff92497945316f76c1b90c3c1fa3", func := "hayloft/hayloftlaw09.SerialNil", spec := "serialNil", unfollowed := true, recurses := true, named := ["hayloft/program.ends"], apart := false, laid := [("hayloft/program.ends", laid_hayloft_program_ends)] }
def SerialNilSaid : Prop := serialNilRow.holds Tryd.pinned (OpenSpec.ofChange serialNilSpec)

/-- ITS FALSE NEIGHBOUR: 'it returns false'. Refute it at one input. -/
def serialNilWrong : ChangeSpec := { name := "serialNil", fn := fun _ => fun
  | [d] => { results := [.lit (.bool false)], args := [d] }
  | _ => none }
def SerialNilWrongFalsely : Prop := serialNilRow.holds Tryd.pinned (OpenSpec.ofChange serialNilWrong)

/-- 'hayloftlaw09.SerialDealt': WHATEVER THE INPUT: true; the input reads as it did. -/
def serialDealtSpec : ChangeSpec := { name := "serialDealt", fn := fun _ => fun
  | [d1, d2, d3, d4] => { results := [.lit (.bool true)], args := [d1, d2, d3, d4] }
  | _ => none }
def serialDealtRow : OpenClaim := { program := "ytlnfhbkkodhmaaadoor", sum := "aaf733098b4f98443d45483d5a8560f4f979ff92497945316f76c1b90c3c1fa3", func := "hayloft/hayloftlaw09.SerialDealt", spec := "serialDealt", unfollowed := true, recurses := true, named := ["hayloft/program.ends"], apart := false, laid := [("hayloft/program.ends", laid_hayloft_program_ends)] }
def SerialDealtSaid : Prop := serialDealtRow.holds Tryd.pinned (OpenSpec.ofChange serialDealtSpec)

/-- ITS FALSE NEIGHBOUR: 'it returns false'. Refute it at one input. -/
def serialDealtWrong : ChangeSpec := { name := "serialDealt", fn := fun _ => fun
  | [d1, d2, d3, d4] => { results := [.lit (.bool false)], args := [d1, d2, d3, d4] }
  | _ => none }
def SerialDealtWrongFalsely : Prop := serialDealtRow.holds Tryd.pinned (OpenSpec.ofChange serialDealtWrong)

/-- 'hayloftlaw09.SerialKeeps': WHATEVER THE INPUT: true; the input reads as it did. -/
def serialKeepsSpec : ChangeSpec := { name := "serialKeeps", fn := fun _ => fun
  | [d1, d2, d3] => { results := [.lit (.bool true)], args := [d1, d2, d3] }
  | _ => none }
def serialKeepsRow : OpenClaim := { program := "ytlnfhbkkodhmaaadoor", sum := "aaf733098b4f98443d45483d5a8560f4f979ff92497945316f76c1b90c3c1fa3", func := "hayloft/hayloftlaw09.SerialKeeps", spec := "serialKeeps", unfollowed := true, recurses := true, named := ["hayloft/program.ends"], apart := false, laid := [("hayloft/program.ends", laid_hayloft_program_ends)] }
def SerialKeepsSaid : Prop := serialKeepsRow.holds Tryd.pinned (OpenSpec.ofChange serialKeepsSpec)

/-- ITS FALSE NEIGHBOUR: 'it returns false'. Refute it at one input. -/
def serialKeepsWrong : ChangeSpec := { name := "serialKeeps", fn := fun _ => fun
  | [d1, d2, d3] => { results := [.lit (.bool false)], args := [d1, d2, d3] }
  | _ => none }
def SerialKeepsWrongFalsely : Prop := serialKeepsRow.holds Tryd.pinned (OpenSpec.ofChange serialKeepsWrong)

/- THE SECOND FORM. 'bulk': how many values and letters a reading holds, each counted each time it is reached (what is shared counts as often as it is met; a slice's spare places count too). A statement '..UptoSaid' is the law's where the arguments, and the package variables that the reading takes, are together of bulk at most 1048576: NARROWER than '..Said'. Prove '..Said' where nothing that the law and all that it calls make is longer than what came in: it says more and counts as full. Else prove '..UptoSaid'. A law counts once. -/
mutual
def uptoBulk {H : Type} : DataW H → Nat
  | .lit (.string bytes) => bytes.length + 1
  | .lit _ => 1
  | .nil => 1
  | .ptr d => uptoBulk d + 1
  | .slice elems spare => uptoBulkAll elems + uptoBulkAll spare + 1
  | .agg parts => uptoBulkAll parts + 1
  | .iface _ d => uptoBulk d + 1
  | .map entries => uptoBulkEntries entries + 1
  | .held _ => 1
def uptoBulkAll {H : Type} : List (DataW H) → Nat
  | [] => 0
  | d :: r => uptoBulk d + uptoBulkAll r
def uptoBulkEntries {H : Type} : List (Lit × DataW H) → Nat
  | [] => 0
  | x :: r => uptoBulkEntry x + uptoBulkEntries r
def uptoBulkEntry {H : Type} : Lit × DataW H → Nat
  | (.string bytes, d) => bytes.length + uptoBulk d + 1
  | (_, d) => uptoBulk d + 1
 end
def uptoSmall : (H : Type) → List (DataW H) → Bool := fun _ ds => decide (uptoBulkAll ds ≤ 1048576)
def OpenSpec.upto (s : _root_.Go.ChangeSpec) : _root_.Go.OpenSpec := { _root_.Go.OpenSpec.ofChange s with cond := some uptoSmall }

/-- 'hayloftlaw09.SerialRuns', WHERE WHAT IT READS IS OF BULK AT MOST 1048576: true; the input reads as it did. -/
def serialRunsUptoRow : OpenClaim := { program := "ytlnfhbkkodhmaaadoor", sum := "aaf733098b4f98443d45483d5a8560f4f979ff92497945316f76c1b90c3c1fa3", func := "hayloft/hayloftlaw09.SerialRuns", spec := "serialRuns", unfollowed := true, recurses := true, named := ["hayloft/program.ends"], apart := false, laid := [("hayloft/program.ends", laid_hayloft_program_ends)], narrowed := true }
def SerialRunsUptoSaid : Prop := serialRunsUptoRow.holds Tryd.pinned (OpenSpec.upto serialRunsSpec)

/-- 'hayloftlaw09.SerialTrail', WHERE WHAT IT READS IS OF BULK AT MOST 1048576: true; the input reads as it did. -/
def serialTrailUptoRow : OpenClaim := { program := "ytlnfhbkkodhmaaadoor", sum := "aaf733098b4f98443d45483d5a8560f4f979ff92497945316f76c1b90c3c1fa3", func := "hayloft/hayloftlaw09.SerialTrail", spec := "serialTrail", unfollowed := true, recurses := true, named := ["hayloft/program.ends"], apart := false, laid := [("hayloft/program.ends", laid_hayloft_program_ends)], narrowed := true }
def SerialTrailUptoSaid : Prop := serialTrailUptoRow.holds Tryd.pinned (OpenSpec.upto serialTrailSpec)

/-- 'hayloftlaw09.SerialNil', WHERE WHAT IT READS IS OF BULK AT MOST 1048576: true; the input reads as it did. -/
def serialNilUptoRow : OpenClaim := { program := "ytlnfhbkkodhmaaadoor", sum := "aaf733098b4f98443d45483d5a8560f4f979ff92497945316f76c1b90c3c1fa3", func := "hayloft/hayloftlaw09.SerialNil", spec := "serialNil", unfollowed := true, recurses := true, named := ["hayloft/program.ends"], apart := false, laid := [("hayloft/program.ends", laid_hayloft_program_ends)], narrowed := true }
def SerialNilUptoSaid : Prop := serialNilUptoRow.holds Tryd.pinned (OpenSpec.upto serialNilSpec)

/-- 'hayloftlaw09.SerialDealt', WHERE WHAT IT READS IS OF BULK AT MOST 1048576: true; the input reads as it did. -/
def serialDealtUptoRow : OpenClaim := { program := "ytlnfhbkkodhmaaadoor", sum := "aaf733098b4f98443d45483d5a8560f4f979ff92497945316f76c1b90c3c1fa3", func := "hayloft/hayloftlaw09.SerialDealt", spec := "serialDealt", unfollowed := true, recurses := true, named := ["hayloft/program.ends"], apart := false, laid := [("hayloft/program.ends", laid_hayloft_program_ends)], narrowed := true }
def SerialDealtUptoSaid : Prop := serialDealtUptoRow.holds Tryd.pinned (OpenSpec.upto serialDealtSpec)

/-- 'hayloftlaw09.SerialKeeps', WHERE WHAT IT READS IS OF BULK AT MOST 1048576: true; the input reads as it did. -/
def serialKeepsUptoRow : OpenClaim := { program := "ytlnfhbkkodhmaaadoor", sum := "aaf733098b4f98443d45483d5a8560f4f979ff92497945316f76c1b90c3c1fa3", func := "hayloft/hayloftlaw09.SerialKeeps", spec := "serialKeeps", unfollowed := true, recurses := true, named := ["hayloft/program.ends"], apart := false, laid := [("hayloft/program.ends", laid_hayloft_program_ends)], narrowed := true }
def SerialKeepsUptoSaid : Prop := serialKeepsUptoRow.holds Tryd.pinned (OpenSpec.upto serialKeepsSpec)

end Rows
end Go.Proofs.YtlnfhbkkodhmaaaDoor
