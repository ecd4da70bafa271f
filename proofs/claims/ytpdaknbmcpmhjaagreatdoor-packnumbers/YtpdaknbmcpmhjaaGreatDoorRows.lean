/-
  NARROWER THAN 'FOR EVERY INPUT', by the rows' own cells (each row's printed sentence says how): LayoutBlocks: laid · LayoutLoops: laid · LayoutLong: laid · LayoutFair: laid · PackTells: laid · PackNumbers: laid.
  DERIVED. THE GIVEN ROWS OF THIS SEAT. 6 by the template 'for every input the law returns true; each argument reads behind the call as it read before'; 0 by the template 'total and deterministic' (their statements: YtpdaknbmcpmhjaaGreatDoorTotals.lean).
  GIVEN WITH THE SEED: the statements are not yours to turn. If you find one false, say at which input.
  Laid BY PROGRAM, IN A SANDBOX (cutbox-rows.mjs): the forced cells as the released guide's own fill.sh prints them over the translation bba692e2cf05c4c7… (all of the seat's roots in one cut). By AI agents, Wed Nov 11 2026. No macro, syntax, notation, axiom, sorry.
-/
import Derived.Test.YtpdaknbmcpmhjaaGreatDoorChecked
import GoSem.Claim
import GoSem.ClaimJoined
import GoSem.ClaimMapViews
import Derived.JoinedTies
import Derived.KernelRfl
namespace Go.Proofs.YtpdaknbmcpmhjaaGreatDoor
/- THE CELL 'sum', in the pinned program and in every row, IS THE sha256 OF THE DUMP (.gsa) THAT YtpdaknbmcpmhjaaGreatDoorProg.lean LOADS. Nothing in Lean hashes anything: it is a label: what it is worth is what the hold of that sum in a sandbox is worth. -/
noncomputable def Tryz.pinned : Pinned := { name := "ytpdaknbmcpmhjaagreatdoor", sum := "bba692e2cf05c4c7ee26b6ec7579c536df0358e541188635b3007746fd03b694", checked := Tryz.checked }
namespace Rows
def none {H : Type} : Left H := { results := [], args := [] }

/- WHAT THE LISTED PACKAGE-LEVEL VARIABLES READ AS WHEN THE CALL BEGINS. Each datum BY PROGRAM (the guide's laid-datum.mjs) off the statement by which the dump's own 'gosem.cut.vars' lays the variable. In a bare row this is a premise. The card (YtpdaknbmcpmhjaaGreatDoorCards.lean) ties it to the program's text. -/
def laid_hayloft_table_unitsBounds {H : Type} : DataW H := .agg [.lit (.int .i64 0), .lit (.int .i64 8)]
def laid_hayloft_table_latBounds {H : Type} : DataW H := .agg [.lit (.int .i64 1), .lit (.int .i64 8)]
def laid_hayloft_table_busyBounds {H : Type} : DataW H := .agg [.lit (.int .i64 1), .lit (.int .i64 4)]
def laid_hayloft_table_delayBounds {H : Type} : DataW H := .agg [.lit (.int .i64 0), .lit (.int .i64 4)]
def laid_hayloft_program_ends {H : Type} : DataW H := .agg [.agg [.lit (.bool false), .lit (.bool false), .lit (.bool true), .lit (.bool false)], .agg [.lit (.bool true), .lit (.bool false), .lit (.bool true), .lit (.bool true)], .agg [.lit (.bool true), .lit (.bool false), .lit (.bool false), .lit (.bool false)], .agg [.lit (.bool true), .lit (.bool true), .lit (.bool true), .lit (.bool false)]]

/-- 'hayloftlaw20.LayoutBlocks': WHATEVER THE INPUT: true; the input reads as it did. -/
def layoutBlocksSpec : ChangeSpec := { name := "layoutBlocks", fn := fun _ => fun
  | [d1, d2, d3] => { results := [.lit (.bool true)], args := [d1, d2, d3] }
  | _ => none }
def layoutBlocksRow : OpenClaim := { program := "ytpdaknbmcpmhjaagreatdoor", sum := "bba692e2cf05c4c7ee26b6ec7579c536df0358e541188635b3007746fd03b694", func := "hayloft/hayloftlaw20.LayoutBlocks", spec := "layoutBlocks", unfollowed := true, recurses := true, named := ["hayloft/program.ends", "hayloft/table.delayBounds", "hayloft/table.unitsBounds", "hayloft/table.latBounds", "hayloft/table.busyBounds"], plainKeys := false, apart := false, laid := [("hayloft/table.unitsBounds", laid_hayloft_table_unitsBounds), ("hayloft/table.latBounds", laid_hayloft_table_latBounds), ("hayloft/table.busyBounds", laid_hayloft_table_busyBounds), ("hayloft/table.delayBounds", laid_hayloft_table_delayBounds), ("hayloft/program.ends", laid_hayloft_program_ends)] }
def LayoutBlocksSaid : Prop := layoutBlocksRow.holds Tryz.pinned (OpenSpec.ofChange layoutBlocksSpec)

/-- ITS FALSE NEIGHBOUR: 'it returns false'. Refute it at one input. -/
def layoutBlocksWrong : ChangeSpec := { name := "layoutBlocks", fn := fun _ => fun
  | [d1, d2, d3] => { results := [.lit (.bool false)], args := [d1, d2, d3] }
  | _ => none }
def LayoutBlocksWrongFalsely : Prop := layoutBlocksRow.holds Tryz.pinned (OpenSpec.ofChange layoutBlocksWrong)

/-- 'hayloftlaw20.LayoutLoops': WHATEVER THE INPUT: true; the input reads as it did. -/
def layoutLoopsSpec : ChangeSpec := { name := "layoutLoops", fn := fun _ => fun
  | [d1, d2, d3] => { results := [.lit (.bool true)], args := [d1, d2, d3] }
  | _ => none }
def layoutLoopsRow : OpenClaim := { program := "ytpdaknbmcpmhjaagreatdoor", sum := "bba692e2cf05c4c7ee26b6ec7579c536df0358e541188635b3007746fd03b694", func := "hayloft/hayloftlaw20.LayoutLoops", spec := "layoutLoops", unfollowed := true, recurses := true, named := ["hayloft/table.delayBounds", "hayloft/table.unitsBounds", "hayloft/table.latBounds", "hayloft/table.busyBounds", "hayloft/program.ends"], plainKeys := false, apart := false, laid := [("hayloft/table.unitsBounds", laid_hayloft_table_unitsBounds), ("hayloft/table.latBounds", laid_hayloft_table_latBounds), ("hayloft/table.busyBounds", laid_hayloft_table_busyBounds), ("hayloft/table.delayBounds", laid_hayloft_table_delayBounds), ("hayloft/program.ends", laid_hayloft_program_ends)] }
def LayoutLoopsSaid : Prop := layoutLoopsRow.holds Tryz.pinned (OpenSpec.ofChange layoutLoopsSpec)

/-- ITS FALSE NEIGHBOUR: 'it returns false'. Refute it at one input. -/
def layoutLoopsWrong : ChangeSpec := { name := "layoutLoops", fn := fun _ => fun
  | [d1, d2, d3] => { results := [.lit (.bool false)], args := [d1, d2, d3] }
  | _ => none }
def LayoutLoopsWrongFalsely : Prop := layoutLoopsRow.holds Tryz.pinned (OpenSpec.ofChange layoutLoopsWrong)

/-- 'hayloftlaw20.LayoutLong': WHATEVER THE INPUT: true; the input reads as it did. -/
def layoutLongSpec : ChangeSpec := { name := "layoutLong", fn := fun _ => fun
  | [] => { results := [.lit (.bool true)], args := [] }
  | _ => none }
def layoutLongRow : OpenClaim := { program := "ytpdaknbmcpmhjaagreatdoor", sum := "bba692e2cf05c4c7ee26b6ec7579c536df0358e541188635b3007746fd03b694", func := "hayloft/hayloftlaw20.LayoutLong", spec := "layoutLong", unfollowed := true, recurses := true, named := ["hayloft/table.delayBounds", "hayloft/table.unitsBounds", "hayloft/table.latBounds", "hayloft/table.busyBounds", "hayloft/program.ends"], plainKeys := false, apart := false, laid := [("hayloft/table.unitsBounds", laid_hayloft_table_unitsBounds), ("hayloft/table.latBounds", laid_hayloft_table_latBounds), ("hayloft/table.busyBounds", laid_hayloft_table_busyBounds), ("hayloft/table.delayBounds", laid_hayloft_table_delayBounds), ("hayloft/program.ends", laid_hayloft_program_ends)] }
def LayoutLongSaid : Prop := layoutLongRow.holds Tryz.pinned (OpenSpec.ofChange layoutLongSpec)

/-- ITS FALSE NEIGHBOUR: 'it returns false'. Refute it at one input. -/
def layoutLongWrong : ChangeSpec := { name := "layoutLong", fn := fun _ => fun
  | [] => { results := [.lit (.bool false)], args := [] }
  | _ => none }
def LayoutLongWrongFalsely : Prop := layoutLongRow.holds Tryz.pinned (OpenSpec.ofChange layoutLongWrong)

/-- 'hayloftlaw20.LayoutFair': WHATEVER THE INPUT: true; the input reads as it did. -/
def layoutFairSpec : ChangeSpec := { name := "layoutFair", fn := fun _ => fun
  | [d1, d2, d3] => { results := [.lit (.bool true)], args := [d1, d2, d3] }
  | _ => none }
def layoutFairRow : OpenClaim := { program := "ytpdaknbmcpmhjaagreatdoor", sum := "bba692e2cf05c4c7ee26b6ec7579c536df0358e541188635b3007746fd03b694", func := "hayloft/hayloftlaw20.LayoutFair", spec := "layoutFair", unfollowed := true, recurses := true, named := ["hayloft/program.ends", "hayloft/table.delayBounds", "hayloft/table.unitsBounds", "hayloft/table.latBounds", "hayloft/table.busyBounds"], plainKeys := false, apart := false, laid := [("hayloft/table.unitsBounds", laid_hayloft_table_unitsBounds), ("hayloft/table.latBounds", laid_hayloft_table_latBounds), ("hayloft/table.busyBounds", laid_hayloft_table_busyBounds), ("hayloft/table.delayBounds", laid_hayloft_table_delayBounds), ("hayloft/program.ends", laid_hayloft_program_ends)] }
def LayoutFairSaid : Prop := layoutFairRow.holds Tryz.pinned (OpenSpec.ofChange layoutFairSpec)

/-- ITS FALSE NEIGHBOUR: 'it returns false'. Refute it at one input. -/
def layoutFairWrong : ChangeSpec := { name := "layoutFair", fn := fun _ => fun
  | [d1, d2, d3] => { results := [.lit (.bool false)], args := [d1, d2, d3] }
  | _ => none }
def LayoutFairWrongFalsely : Prop := layoutFairRow.holds Tryz.pinned (OpenSpec.ofChange layoutFairWrong)

/-- 'hayloftlaw21.PackTells': WHATEVER THE INPUT: true; the input reads as it did. -/
def packTellsSpec : ChangeSpec := { name := "packTells", fn := fun _ => fun
  | [d1, d2] => { results := [.lit (.bool true)], args := [d1, d2] }
  | _ => none }
def packTellsRow : OpenClaim := { program := "ytpdaknbmcpmhjaagreatdoor", sum := "bba692e2cf05c4c7ee26b6ec7579c536df0358e541188635b3007746fd03b694", func := "hayloft/hayloftlaw21.PackTells", spec := "packTells", unfollowed := true, recurses := true, named := ["hayloft/program.ends", "hayloft/table.delayBounds", "hayloft/table.unitsBounds", "hayloft/table.latBounds", "hayloft/table.busyBounds"], plainKeys := false, apart := false, laid := [("hayloft/table.unitsBounds", laid_hayloft_table_unitsBounds), ("hayloft/table.latBounds", laid_hayloft_table_latBounds), ("hayloft/table.busyBounds", laid_hayloft_table_busyBounds), ("hayloft/table.delayBounds", laid_hayloft_table_delayBounds), ("hayloft/program.ends", laid_hayloft_program_ends)] }
def PackTellsSaid : Prop := packTellsRow.holds Tryz.pinned (OpenSpec.ofChange packTellsSpec)

/-- ITS FALSE NEIGHBOUR: 'it returns false'. Refute it at one input. -/
def packTellsWrong : ChangeSpec := { name := "packTells", fn := fun _ => fun
  | [d1, d2] => { results := [.lit (.bool false)], args := [d1, d2] }
  | _ => none }
def PackTellsWrongFalsely : Prop := packTellsRow.holds Tryz.pinned (OpenSpec.ofChange packTellsWrong)

/-- 'hayloftlaw21.PackNumbers': WHATEVER THE INPUT: true; the input reads as it did. -/
def packNumbersSpec : ChangeSpec := { name := "packNumbers", fn := fun _ => fun
  | [d1, d2] => { results := [.lit (.bool true)], args := [d1, d2] }
  | _ => none }
def packNumbersRow : OpenClaim := { program := "ytpdaknbmcpmhjaagreatdoor", sum := "bba692e2cf05c4c7ee26b6ec7579c536df0358e541188635b3007746fd03b694", func := "hayloft/hayloftlaw21.PackNumbers", spec := "packNumbers", unfollowed := true, recurses := true, named := ["hayloft/table.delayBounds", "hayloft/table.unitsBounds", "hayloft/table.latBounds", "hayloft/table.busyBounds", "hayloft/program.ends"], plainKeys := false, apart := false, laid := [("hayloft/table.unitsBounds", laid_hayloft_table_unitsBounds), ("hayloft/table.latBounds", laid_hayloft_table_latBounds), ("hayloft/table.busyBounds", laid_hayloft_table_busyBounds), ("hayloft/table.delayBounds", laid_hayloft_table_delayBounds), ("hayloft/program.ends", laid_hayloft_program_ends)] }
def PackNumbersSaid : Prop := packNumbersRow.holds Tryz.pinned (OpenSpec.ofChange packNumbersSpec)

/-- ITS FALSE NEIGHBOUR: 'it returns false'. Refute it at one input. -/
def packNumbersWrong : ChangeSpec := { name := "packNumbers", fn := fun _ => fun
  | [d1, d2] => { results := [.lit (.bool false)], args := [d1, d2] }
  | _ => none }
def PackNumbersWrongFalsely : Prop := packNumbersRow.holds Tryz.pinned (OpenSpec.ofChange packNumbersWrong)

/- THE SECOND FORM. 'bulk': how many values and letters a reading holds, each counted each time it is reached (what is shared counts as often as it is met; a slice's spare places count too). A statement '..UptoSaid' is the law's where the arguments, and the package variables that the reading takes, are together of bulk at most 1048576: NARROWER than '..Said'. Prove '..Said' where nothing that the law and all that it calls make is longer than what came in: it says more and counts as full. Else prove '..UptoSaid'. A law counts once. -/
mutual
def uptoBulk {H : Type} : DataW H → Nat
  | .lit (.string bytes) => bytes.length + 1
  | .lit _ => 1
  | .nil => 1
  | .ptr d => uptoBulk d + 1
  | .slice elems spare => uptoBulkAll elems + uptoBulkAll spare + 1
  | .agg parts => uptoBulkAll parts + 1
  | .iface _ d => uptoBulk d + 1
  | .map entries => uptoBulkEntries entries + 1
  | .held _ => 1
def uptoBulkAll {H : Type} : List (DataW H) → Nat
  | [] => 0
  | d :: r => uptoBulk d + uptoBulkAll r
def uptoBulkEntries {H : Type} : List (Lit × DataW H) → Nat
  | [] => 0
  | x :: r => uptoBulkEntry x + uptoBulkEntries r
def uptoBulkEntry {H : Type} : Lit × DataW H → Nat
  | (.string bytes, d) => bytes.length + uptoBulk d + 1
  | (_, d) => uptoBulk d + 1
 end
def uptoSmall : (H : Type) → List (DataW H) → Bool := fun _ ds => decide (uptoBulkAll ds ≤ 1048576)
def OpenSpec.upto (s : _root_.Go.ChangeSpec) : _root_.Go.OpenSpec := { _root_.Go.OpenSpec.ofChange s with cond := some uptoSmall }

/-- 'hayloftlaw20.LayoutBlocks', WHERE WHAT IT READS IS OF BULK AT MOST 1048576: true; the input reads as it did. -/
def layoutBlocksUptoRow : OpenClaim := { program := "ytpdaknbmcpmhjaagreatdoor", sum := "bba692e2cf05c4c7ee26b6ec7579c536df0358e541188635b3007746fd03b694", func := "hayloft/hayloftlaw20.LayoutBlocks", spec := "layoutBlocks", unfollowed := true, recurses := true, named := ["hayloft/program.ends", "hayloft/table.delayBounds", "hayloft/table.unitsBounds", "hayloft/table.latBounds", "hayloft/table.busyBounds"], plainKeys := false, apart := false, laid := [("hayloft/table.unitsBounds", laid_hayloft_table_unitsBounds), ("hayloft/table.latBounds", laid_hayloft_table_latBounds), ("hayloft/table.busyBounds", laid_hayloft_table_busyBounds), ("hayloft/table.delayBounds", laid_hayloft_table_delayBounds), ("hayloft/program.ends", laid_hayloft_program_ends)], narrowed := true }
def LayoutBlocksUptoSaid : Prop := layoutBlocksUptoRow.holds Tryz.pinned (OpenSpec.upto layoutBlocksSpec)

/-- 'hayloftlaw20.LayoutLoops', WHERE WHAT IT READS IS OF BULK AT MOST 1048576: true; the input reads as it did. -/
def layoutLoopsUptoRow : OpenClaim := { program := "ytpdaknbmcpmhjaagreatdoor", sum := "bba692e2cf05c4c7ee26b6ec7579c536df0358e541188635b3007746fd03b694", func := "hayloft/hayloftlaw20.LayoutLoops", spec := "layoutLoops", unfollowed := true, recurses := true, named := ["hayloft/table.delayBounds", "hayloft/table.unitsBounds", "hayloft/table.latBounds", "hayloft/table.busyBounds", "hayloft/program.ends"], plainKeys := false, apart := false, laid := [("hayloft/table.unitsBounds", laid_hayloft_table_unitsBounds), ("hayloft/table.latBounds", laid_hayloft_table_latBounds), ("hayloft/table.busyBounds", laid_hayloft_table_busyBounds), ("hayloft/table.delayBounds", laid_hayloft_table_delayBounds), ("hayloft/program.ends", laid_hayloft_program_ends)], narrowed := true }
def LayoutLoopsUptoSaid : Prop := layoutLoopsUptoRow.holds Tryz.pinned (OpenSpec.upto layoutLoopsSpec)

/-- 'hayloftlaw20.LayoutLong', WHERE WHAT IT READS IS OF BULK AT MOST 1048576: true; the input reads as it did. -/
def layoutLongUptoRow : OpenClaim := { program := "ytpdaknbmcpmhjaagreatdoor", sum := "bba692e2cf05c4c7ee26b6ec7579c536df0358e541188635b3007746fd03b694", func := "hayloft/hayloftlaw20.LayoutLong", spec := "layoutLong", unfollowed := true, recurses := true, named := ["hayloft/table.delayBounds", "hayloft/table.unitsBounds", "hayloft/table.latBounds", "hayloft/table.busyBounds", "hayloft/program.ends"], plainKeys := false, apart := false, laid := [("hayloft/table.unitsBounds", laid_hayloft_table_unitsBounds), ("hayloft/table.latBounds", laid_hayloft_table_latBounds), ("hayloft/table.busyBounds", laid_hayloft_table_busyBounds), ("hayloft/table.delayBounds", laid_hayloft_table_delayBounds), ("hayloft/program.ends", laid_hayloft_program_ends)], narrowed := true }
def LayoutLongUptoSaid : Prop := layoutLongUptoRow.holds Tryz.pinned (OpenSpec.upto layoutLongSpec)

/-- 'hayloftlaw20.LayoutFair', WHERE WHAT IT READS IS OF BULK AT MOST 1048576: true; the input reads as it did. -/
def layoutFairUptoRow : OpenClaim := { program := "ytpdaknbmcpmhjaagreatdoor", sum := "bba692e2cf05c4c7ee26b6ec7579c536df0358e541188635b3007746fd03b694", func := "hayloft/hayloftlaw20.LayoutFair", spec := "layoutFair", unfollowed := true, recurses := true, named := ["hayloft/program.ends", "hayloft/table.delayBounds", "hayloft/table.unitsBounds", "hayloft/table.latBounds", "hayloft/table.busyBounds"], plainKeys := false, apart := false, laid := [("hayloft/table.unitsBounds", laid_hayloft_table_unitsBounds), ("hayloft/table.latBounds", laid_hayloft_table_latBounds), ("hayloft/table.busyBounds", laid_hayloft_table_busyBounds), ("hayloft/table.delayBounds", laid_hayloft_table_delayBounds), ("hayloft/program.ends", laid_hayloft_program_ends)], narrowed := true }
def LayoutFairUptoSaid : Prop := layoutFairUptoRow.holds Tryz.pinned (OpenSpec.upto layoutFairSpec)

/-- 'hayloftlaw21.PackTells', WHERE WHAT IT READS IS OF BULK AT MOST 1048576: true; the input reads as it did. -/
def packTellsUptoRow : OpenClaim := { program := "ytpdaknbmcpmhjaagreatdoor", sum := "bba692e2cf05c4c7ee26b6ec7579c536df0358e541188635b3007746fd03b694", func := "hayloft/hayloftlaw21.PackTells", spec := "packTells", unfollowed := true, recurses := true, named := ["hayloft/program.ends", "hayloft/table.delayBounds", "hayloft/table.unitsBounds", "hayloft/table.latBounds", "hayloft/table.busyBounds"], plainKeys := false, apart := false, laid := [("hayloft/table.unitsBounds", laid_hayloft_table_unitsBounds), ("hayloft/table.latBounds", laid_hayloft_table_latBounds), ("hayloft/table.busyBounds", laid_hayloft_table_busyBounds), ("hayloft/table.delayBounds", laid_hayloft_table_delayBounds), ("hayloft/program.ends", laid_hayloft_program_ends)], narrowed := true }
def PackTellsUptoSaid : Prop := packTellsUptoRow.holds Tryz.pinned (OpenSpec.upto packTellsSpec)

/-- 'hayloftlaw21.PackNumbers', WHERE WHAT IT READS IS OF BULK AT MOST 1048576: true; the input reads as it did. -/
def packNumbersUptoRow : OpenClaim := { program := "ytpdaknbmcpmhjaagreatdoor", sum := "bba692e2cf05c4c7ee26b6ec7579c536df0358e541188635b3007746fd03b694", func := "hayloft/hayloftlaw21.PackNumbers", spec := "packNumbers", unfollowed := true, recurses := true, named := ["hayloft/table.delayBounds", "hayloft/table.unitsBounds", "hayloft/table.latBounds", "hayloft/table.busyBounds", "hayloft/program.ends"], plainKeys := false, apart := false, laid := [("hayloft/table.unitsBounds", laid_hayloft_table_unitsBounds), ("hayloft/table.latBounds", laid_hayloft_table_latBounds), ("hayloft/table.busyBounds", laid_hayloft_table_busyBounds), ("hayloft/table.delayBounds", laid_hayloft_table_delayBounds), ("hayloft/program.ends", laid_hayloft_program_ends)], narrowed := true }
def PackNumbersUptoSaid : Prop := packNumbersUptoRow.holds Tryz.pinned (OpenSpec.upto packNumbersSpec)

end Rows
end Go.Proofs.YtpdaknbmcpmhjaaGreatDoor
