/-
  NARROWER THAN 'FOR EVERY INPUT', by the rows' own cells (each row's printed sentence says how): ProgramTells: laid · ProgramCut: laid · ProgramNeeds: laid.
  DERIVED. THE GIVEN ROWS OF THIS SEAT. 3 by the template 'for every input the law returns true; each argument reads behind the call as it read before'; 0 by the template 'total and deterministic' (their statements: YtecfbnfbpamegaaDoorTotals.lean).
  GIVEN WITH THE SEED: the statements are not yours to turn. If you find one false, say at which input.
  Laid BY PROGRAM, IN A SANDBOX (cutbox-rows.mjs): the forced cells as the released guide's own fill.sh prints them over the translation 135aacdc46ae1554… (all of the seat's roots in one cut). By AI agents, Wed Nov 11 2026. No macro, syntax, notation, axiom, sorry.
-/
import Derived.Test.YtecfbnfbpamegaaDoorChecked
import GoSem.Claim
import GoSem.ClaimJoined
import GoSem.ClaimMapViews
import Derived.JoinedTies
import Derived.KernelRfl
namespace Go.Proofs.YtecfbnfbpamegaaDoor
/- THE CELL 'sum', in the pinned program and in every row, IS THE sha256 OF THE DUMP (.gsa) THAT YtecfbnfbpamegaaDoorProg.lean LOADS. Nothing in Lean hashes anything: it is a label: what it is worth is what the hold of that sum in a sandbox is worth. -/
noncomputable def Tryd.pinned : Pinned := { name := "ytecfbnfbpamegaadoor", sum := "135aacdc46ae155424c46631510cce99717bf0c25e10f48463e43701652a7255", checked := Tryd.checked }
namespace Rows
def none {H : Type} : Left H := { results := [], args := [] }

/- WHAT THE LISTED PACKAGE-LEVEL VARIABLES READ AS WHEN THE CALL BEGINS. Each datum BY PROGRAM (the guide's laid-datum.mjs) off the statement by which the dump's own 'gosem.cut.vars' lays the variable. In a bare row this is a premise. The card (YtecfbnfbpamegaaDoorCards.lean) ties it to the program's text. -/
def laid_hayloft_table_unitsBounds {H : Type} : DataW H := .agg [.lit (.int .i64 0), .lit (.int .i64 8)]
def laid_hayloft_table_latBounds {H : Type} : DataW H := .agg [.lit (.int .i64 1), .lit (.int .i64 8)]
def laid_hayloft_table_busyBounds {H : Type} : DataW H := .agg [.lit (.int .i64 1), .lit (.int .i64 4)]
def laid_hayloft_table_delayBounds {H : Type} : DataW H := .agg [.lit (.int .i64 0), .lit (.int .i64 4)]
def laid_hayloft_program_ends {H : Type} : DataW H := .agg [.agg [.lit (.bool false), .lit (.bool false), .lit (.bool true), .lit (.bool false)], .agg [.lit (.bool true), .lit (.bool false), .lit (.bool true), .lit (.bool true)], .agg [.lit (.bool true), .lit (.bool false), .lit (.bool false), .lit (.bool false)], .agg [.lit (.bool true), .lit (.bool true), .lit (.bool true), .lit (.bool false)]]

/-- 'hayloftlaw04.ProgramTells': WHATEVER THE INPUT: true; the input reads as it did. -/
def programTellsSpec : ChangeSpec := { name := "programTells", fn := fun _ => fun
  | [d1, d2] => { results := [.lit (.bool true)], args := [d1, d2] }
  | _ => none }
def programTellsRow : OpenClaim := { program := "ytecfbnfbpamegaadoor", sum := "135aacdc46ae155424c46631510cce99717bf0c25e10f48463e43701652a7255", func := "hayloft/hayloftlaw04.ProgramTells", spec := "programTells", named := ["hayloft/program.ends", "hayloft/table.delayBounds", "hayloft/table.unitsBounds", "hayloft/table.latBounds", "hayloft/table.busyBounds"], apart := false, laid := [("hayloft/table.unitsBounds", laid_hayloft_table_unitsBounds), ("hayloft/table.latBounds", laid_hayloft_table_latBounds), ("hayloft/table.busyBounds", laid_hayloft_table_busyBounds), ("hayloft/table.delayBounds", laid_hayloft_table_delayBounds), ("hayloft/program.ends", laid_hayloft_program_ends)] }
def ProgramTellsSaid : Prop := programTellsRow.holds Tryd.pinned (OpenSpec.ofChange programTellsSpec)

/-- ITS FALSE NEIGHBOUR: 'it returns false'. Refute it at one input. -/
def programTellsWrong : ChangeSpec := { name := "programTells", fn := fun _ => fun
  | [d1, d2] => { results := [.lit (.bool false)], args := [d1, d2] }
  | _ => none }
def ProgramTellsWrongFalsely : Prop := programTellsRow.holds Tryd.pinned (OpenSpec.ofChange programTellsWrong)

/-- 'hayloftlaw04.ProgramCut': WHATEVER THE INPUT: true; the input reads as it did. -/
def programCutSpec : ChangeSpec := { name := "programCut", fn := fun _ => fun
  | [d1, d2] => { results := [.lit (.bool true)], args := [d1, d2] }
  | _ => none }
def programCutRow : OpenClaim := { program := "ytecfbnfbpamegaadoor", sum := "135aacdc46ae155424c46631510cce99717bf0c25e10f48463e43701652a7255", func := "hayloft/hayloftlaw04.ProgramCut", spec := "programCut", named := ["hayloft/program.ends", "hayloft/table.delayBounds", "hayloft/table.unitsBounds", "hayloft/table.latBounds", "hayloft/table.busyBounds"], apart := false, laid := [("hayloft/table.unitsBounds", laid_hayloft_table_unitsBounds), ("hayloft/table.latBounds", laid_hayloft_table_latBounds), ("hayloft/table.busyBounds", laid_hayloft_table_busyBounds), ("hayloft/table.delayBounds", laid_hayloft_table_delayBounds), ("hayloft/program.ends", laid_hayloft_program_ends)] }
def ProgramCutSaid : Prop := programCutRow.holds Tryd.pinned (OpenSpec.ofChange programCutSpec)

/-- ITS FALSE NEIGHBOUR: 'it returns false'. Refute it at one input. -/
def programCutWrong : ChangeSpec := { name := "programCut", fn := fun _ => fun
  | [d1, d2] => { results := [.lit (.bool false)], args := [d1, d2] }
  | _ => none }
def ProgramCutWrongFalsely : Prop := programCutRow.holds Tryd.pinned (OpenSpec.ofChange programCutWrong)

/-- 'hayloftlaw04.ProgramNeeds': WHATEVER THE INPUT: true; the input reads as it did. -/
def programNeedsSpec : ChangeSpec := { name := "programNeeds", fn := fun _ => fun
  | [d1, d2, d3] => { results := [.lit (.bool true)], args := [d1, d2, d3] }
  | _ => none }
def programNeedsRow : OpenClaim := { program := "ytecfbnfbpamegaadoor", sum := "135aacdc46ae155424c46631510cce99717bf0c25e10f48463e43701652a7255", func := "hayloft/hayloftlaw04.ProgramNeeds", spec := "programNeeds", named := ["hayloft/program.ends", "hayloft/table.delayBounds", "hayloft/table.unitsBounds", "hayloft/table.latBounds", "hayloft/table.busyBounds"], apart := false, laid := [("hayloft/table.unitsBounds", laid_hayloft_table_unitsBounds), ("hayloft/table.latBounds", laid_hayloft_table_latBounds), ("hayloft/table.busyBounds", laid_hayloft_table_busyBounds), ("hayloft/table.delayBounds", laid_hayloft_table_delayBounds), ("hayloft/program.ends", laid_hayloft_program_ends)] }
def ProgramNeedsSaid : Prop := programNeedsRow.holds Tryd.pinned (OpenSpec.ofChange programNeedsSpec)

/-- ITS FALSE NEIGHBOUR: 'it returns false'. Refute it at one input. -/
def programNeedsWrong : ChangeSpec := { name := "programNeeds", fn := fun _ => fun
  | [d1, d2, d3] => { results := [.lit (.bool false)], args := [d1, d2, d3] }
  | _ => none }
def ProgramNeedsWrongFalsely : Prop := programNeedsRow.holds Tryd.pinned (OpenSpec.ofChange programNeedsWrong)

/- THE SECOND FORM. 'bulk': how many values and letters a reading holds, each counted each time it is reached (what is shared counts as often as it is met; a slice's spare places count too). A statement '..UptoSaid' is the law's where the arguments, and the package variables that the reading takes, are together of bulk at most 1048576: NARROWER than '..Said'. Prove '..Said' where nothing that the law and all that it calls make is longer than what came in: it says more and counts as full. Else prove '..UptoSaid'. A law counts once. -/
mutual
def uptoBulk {H : Type} : DataW H → Nat
  | .lit (.string bytes) => bytes.length + 1
  | .lit _ => 1
  | .nil => 1
  | .ptr d => uptoBulk d + 1
  | .slice elems spare => uptoBulkAll elems + uptoBulkAll spare + 1
  | .agg parts => uptoBulkAll parts + 1
  | .iface _ d => uptoBulk d + 1
  | .map entries => uptoBulkEntries entries + 1
  | .held _ => 1
def uptoBulkAll {H : Type} : List (DataW H) → Nat
  | [] => 0
  | d :: r => uptoBulk d + uptoBulkAll r
def uptoBulkEntries {H : Type} : List (Lit × DataW H) → Nat
  | [] => 0
  | x :: r => uptoBulkEntry x + uptoBulkEntries r
def uptoBulkEntry {H : Type} : Lit × DataW H → Nat
  | (.string bytes, d) => bytes.length + uptoBulk d + 1
  | (_, d) => uptoBulk d + 1
 end
def uptoSmall : (H : Type) → List (DataW H) → Bool := fun _ ds => decide (uptoBulkAll ds ≤ 1048576)
def OpenSpec.upto (s : _root_.Go.ChangeSpec) : _root_.Go.OpenSpec := { _root_.Go.OpenSpec.ofChange s with cond := some uptoSmall }

/-- 'hayloftlaw04.ProgramTells', WHERE WHAT IT READS IS OF BULK AT MOST 1048576: true; the input reads as it did. -/
def programTellsUptoRow : OpenClaim := { program := "ytecfbnfbpamegaadoor", sum := "135aacdc46ae155424c46631510cce99717bf0c25e10f48463e43701652a7255", func := "hayloft/hayloftlaw04.ProgramTells", spec := "programTells", named := ["hayloft/program.ends", "hayloft/table.delayBounds", "hayloft/table.unitsBounds", "hayloft/table.latBounds", "hayloft/table.busyBounds"], apart := false, laid := [("hayloft/table.unitsBounds", laid_hayloft_table_unitsBounds), ("hayloft/table.latBounds", laid_hayloft_table_latBounds), ("hayloft/table.busyBounds", laid_hayloft_table_busyBounds), ("hayloft/table.delayBounds", laid_hayloft_table_delayBounds), ("hayloft/program.ends", laid_hayloft_program_ends)], narrowed := true }
def ProgramTellsUptoSaid : Prop := programTellsUptoRow.holds Tryd.pinned (OpenSpec.upto programTellsSpec)

/-- 'hayloftlaw04.ProgramCut', WHERE WHAT IT READS IS OF BULK AT MOST 1048576: true; the input reads as it did. -/
def programCutUptoRow : OpenClaim := { program := "ytecfbnfbpamegaadoor", sum := "135aacdc46ae155424c46631510cce99717bf0c25e10f48463e43701652a7255", func := "hayloft/hayloftlaw04.ProgramCut", spec := "programCut", named := ["hayloft/program.ends", "hayloft/table.delayBounds", "hayloft/table.unitsBounds", "hayloft/table.latBounds", "hayloft/table.busyBounds"], apart := false, laid := [("hayloft/table.unitsBounds", laid_hayloft_table_unitsBounds), ("hayloft/table.latBounds", laid_hayloft_table_latBounds), ("hayloft/table.busyBounds", laid_hayloft_table_busyBounds), ("hayloft/table.delayBounds", laid_hayloft_table_delayBounds), ("hayloft/program.ends", laid_hayloft_program_ends)], narrowed := true }
def ProgramCutUptoSaid : Prop := programCutUptoRow.holds Tryd.pinned (OpenSpec.upto programCutSpec)

/-- 'hayloftlaw04.ProgramNeeds', WHERE WHAT IT READS IS OF BULK AT MOST 1048576: true; the input reads as it did. -/
def programNeedsUptoRow : OpenClaim := { program := "ytecfbnfbpamegaadoor", sum := "135aacdc46ae155424c46631510cce99717bf0c25e10f48463e43701652a7255", func := "hayloft/hayloftlaw04.ProgramNeeds", spec := "programNeeds", named := ["hayloft/program.ends", "hayloft/table.delayBounds", "hayloft/table.unitsBounds", "hayloft/table.latBounds", "hayloft/table.busyBounds"], apart := false, laid := [("hayloft/table.unitsBounds", laid_hayloft_table_unitsBounds), ("hayloft/table.latBounds", laid_hayloft_table_latBounds), ("hayloft/table.busyBounds", laid_hayloft_table_busyBounds), ("hayloft/table.delayBounds", laid_hayloft_table_delayBounds), ("hayloft/program.ends", laid_hayloft_program_ends)], narrowed := true }
def ProgramNeedsUptoSaid : Prop := programNeedsUptoRow.holds Tryd.pinned (OpenSpec.upto programNeedsSpec)

end Rows
end Go.Proofs.YtecfbnfbpamegaaDoor
