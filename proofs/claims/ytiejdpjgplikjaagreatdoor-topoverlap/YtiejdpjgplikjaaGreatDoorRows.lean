/-
  NARROWER THAN 'FOR EVERY INPUT', by the rows' own cells (each row's printed sentence says how): ModuloFinds: laid · TopOverlap: laid.
  DERIVED. THE GIVEN ROWS OF THIS SEAT. 2 by the template 'for every input the law returns true; each argument reads behind the call as it read before'; 0 by the template 'total and deterministic' (their statements: YtiejdpjgplikjaaGreatDoorTotals.lean).
  GIVEN WITH THE SEED: the statements are not yours to turn. If you find one false, say at which input.
  Laid BY PROGRAM, IN A SANDBOX (cutbox-rows.mjs): the forced cells as the released guide's own fill.sh prints them over the translation ee737ab59d48cd6c… (all of the seat's roots in one cut). By AI agents, Wed Nov 11 2026. No macro, syntax, notation, axiom, sorry.
-/
import Derived.Test.YtiejdpjgplikjaaGreatDoorChecked
import GoSem.Claim
import GoSem.ClaimJoined
import GoSem.ClaimMapViews
import Derived.JoinedTies
import Derived.KernelRfl
namespace Go.Proofs.YtiejdpjgplikjaaGreatDoor
/- THE CELL 'sum', in the pinned program and in every row, IS THE sha256 OF THE DUMP (.gsa) THAT YtiejdpjgplikjaaGreatDoorProg.lean LOADS. Nothing in Lean hashes anything: it is a label: what it is worth is what the hold of that sum in a sandbox is worth. -/
noncomputable def Tryz.pinned : Pinned := { name := "ytiejdpjgplikjaagreatdoor", sum := "ee737ab59d48cd6ccc04327b73b384f330ce399ea5fff4d6d83819ed7b341a17", checked := Tryz.checked }
namespace Rows
def none {H : Type} : Left H := { results := [], args := [] }

/- WHAT THE LISTED PACKAGE-LEVEL VARIABLES READ AS WHEN THE CALL BEGINS. Each datum BY PROGRAM (the guide's laid-datum.mjs) off the statement by which the dump's own 'gosem.cut.vars' lays the variable. In a bare row this is a premise. The card (YtiejdpjgplikjaaGreatDoorCards.lean) ties it to the program's text. -/
def laid_hayloft_table_unitsBounds {H : Type} : DataW H := .agg [.lit (.int .i64 0), .lit (.int .i64 8)]
def laid_hayloft_table_latBounds {H : Type} : DataW H := .agg [.lit (.int .i64 1), .lit (.int .i64 8)]
def laid_hayloft_table_busyBounds {H : Type} : DataW H := .agg [.lit (.int .i64 1), .lit (.int .i64 4)]
def laid_hayloft_table_delayBounds {H : Type} : DataW H := .agg [.lit (.int .i64 0), .lit (.int .i64 4)]

/-- 'hayloftlaw16.ModuloFinds': WHATEVER THE INPUT: true; the input reads as it did. -/
def moduloFindsSpec : ChangeSpec := { name := "moduloFinds", fn := fun _ => fun
  | [d1, d2] => { results := [.lit (.bool true)], args := [d1, d2] }
  | _ => none }
def moduloFindsRow : OpenClaim := { program := "ytiejdpjgplikjaagreatdoor", sum := "ee737ab59d48cd6ccc04327b73b384f330ce399ea5fff4d6d83819ed7b341a17", func := "hayloft/hayloftlaw16.ModuloFinds", spec := "moduloFinds", unfollowed := true, recurses := true, named := ["hayloft/table.delayBounds", "hayloft/table.unitsBounds", "hayloft/table.latBounds", "hayloft/table.busyBounds"], plainKeys := false, apart := false, laid := [("hayloft/table.unitsBounds", laid_hayloft_table_unitsBounds), ("hayloft/table.latBounds", laid_hayloft_table_latBounds), ("hayloft/table.busyBounds", laid_hayloft_table_busyBounds), ("hayloft/table.delayBounds", laid_hayloft_table_delayBounds)] }
def ModuloFindsSaid : Prop := moduloFindsRow.holds Tryz.pinned (OpenSpec.ofChange moduloFindsSpec)

/-- ITS FALSE NEIGHBOUR: 'it returns false'. Refute it at one input. -/
def moduloFindsWrong : ChangeSpec := { name := "moduloFinds", fn := fun _ => fun
  | [d1, d2] => { results := [.lit (.bool false)], args := [d1, d2] }
  | _ => none }
def ModuloFindsWrongFalsely : Prop := moduloFindsRow.holds Tryz.pinned (OpenSpec.ofChange moduloFindsWrong)

/-- 'haylofttop.TopOverlap': WHATEVER THE INPUT: true; the input reads as it did. -/
def topOverlapSpec : ChangeSpec := { name := "topOverlap", fn := fun _ => fun
  | [d1, d2, d3] => { results := [.lit (.bool true)], args := [d1, d2, d3] }
  | _ => none }
def topOverlapRow : OpenClaim := { program := "ytiejdpjgplikjaagreatdoor", sum := "ee737ab59d48cd6ccc04327b73b384f330ce399ea5fff4d6d83819ed7b341a17", func := "hayloft/haylofttop.TopOverlap", spec := "topOverlap", unfollowed := true, recurses := true, named := ["hayloft/table.delayBounds", "hayloft/table.unitsBounds", "hayloft/table.latBounds", "hayloft/table.busyBounds"], plainKeys := false, apart := false, laid := [("hayloft/table.unitsBounds", laid_hayloft_table_unitsBounds), ("hayloft/table.latBounds", laid_hayloft_table_latBounds), ("hayloft/table.busyBounds", laid_hayloft_table_busyBounds), ("hayloft/table.delayBounds", laid_hayloft_table_delayBounds)] }
def TopOverlapSaid : Prop := topOverlapRow.holds Tryz.pinned (OpenSpec.ofChange topOverlapSpec)

/-- ITS FALSE NEIGHBOUR: 'it returns false'. Refute it at one input. -/
def topOverlapWrong : ChangeSpec := { name := "topOverlap", fn := fun _ => fun
  | [d1, d2, d3] => { results := [.lit (.bool false)], args := [d1, d2, d3] }
  | _ => none }
def TopOverlapWrongFalsely : Prop := topOverlapRow.holds Tryz.pinned (OpenSpec.ofChange topOverlapWrong)

/- THE SECOND FORM. 'bulk': how many values and letters a reading holds, each counted each time it is reached (what is shared counts as often as it is met; a slice's spare places count too). A statement '..UptoSaid' is the law's where the arguments, and the package variables that the reading takes, are together of bulk at most 1048576: NARROWER than '..Said'. Prove '..Said' where nothing that the law and all that it calls make is longer than what came in: it says more and counts as full. Else prove '..UptoSaid'. A law counts once. -/
mutual
def uptoBulk {H : Type} : DataW H → Nat
  | .lit (.string bytes) => bytes.length + 1
  | .lit _ => 1
  | .nil => 1
  | .ptr d => uptoBulk d + 1
  | .slice elems spare => uptoBulkAll elems + uptoBulkAll spare + 1
  | .agg parts => uptoBulkAll parts + 1
  | .iface _ d => uptoBulk d + 1
  | .map entries => uptoBulkEntries entries + 1
  | .held _ => 1
def uptoBulkAll {H : Type} : List (DataW H) → Nat
  | [] => 0
  | d :: r => uptoBulk d + uptoBulkAll r
def uptoBulkEntries {H : Type} : List (Lit × DataW H) → Nat
  | [] => 0
  | x :: r => uptoBulkEntry x + uptoBulkEntries r
def uptoBulkEntry {H : Type} : Lit × DataW H → Nat
  | (.string bytes, d) => bytes.length + uptoBulk d + 1
  | (_, d) => uptoBulk d + 1
 end
def uptoSmall : (H : Type) → List (DataW H) → Bool := fun _ ds => decide (uptoBulkAll ds ≤ 1048576)
def OpenSpec.upto (s : _root_.Go.ChangeSpec) : _root_.Go.OpenSpec := { _root_.Go.OpenSpec.ofChange s with cond := some uptoSmall }

/-- 'hayloftlaw16.ModuloFinds', WHERE WHAT IT READS IS OF BULK AT MOST 1048576: true; the input reads as it did. -/
def moduloFindsUptoRow : OpenClaim := { program := "ytiejdpjgplikjaagreatdoor", sum := "ee737ab59d48cd6ccc04327b73b384f330ce399ea5fff4d6d83819ed7b341a17", func := "hayloft/hayloftlaw16.ModuloFinds", spec := "moduloFinds", unfollowed := true, recurses := true, named := ["hayloft/table.delayBounds", "hayloft/table.unitsBounds", "hayloft/table.latBounds", "hayloft/table.busyBounds"], plainKeys := false, apart := false, laid := [("hayloft/table.unitsBounds", laid_hayloft_table_unitsBounds), ("hayloft/table.latBounds", laid_hayloft_table_latBounds), ("hayloft/table.busyBounds", laid_hayloft_table_busyBounds), ("hayloft/table.delayBounds", laid_hayloft_table_delayBounds)], narrowed := true }
def ModuloFindsUptoSaid : Prop := moduloFindsUptoRow.holds Tryz.pinned (OpenSpec.upto moduloFindsSpec)

/-- 'haylofttop.TopOverlap', WHERE WHAT IT READS IS OF BULK AT MOST 1048576: true; the input reads as it did. -/
def topOverlapUptoRow : OpenClaim := { program := "ytiejdpjgplikjaagreatdoor", sum := "ee737ab59d48cd6ccc04327b73b384f330ce399ea5fff4d6d83819ed7b341a17", func := "hayloft/haylofttop.TopOverlap", spec := "topOverlap", unfollowed := true, recurses := true, named := ["hayloft/table.delayBounds", "hayloft/table.unitsBounds", "hayloft/table.latBounds", "hayloft/table.busyBounds"], plainKeys := false, apart := false, laid := [("hayloft/table.unitsBounds", laid_hayloft_table_unitsBounds), ("hayloft/table.latBounds", laid_hayloft_table_latBounds), ("hayloft/table.busyBounds", laid_hayloft_table_busyBounds), ("hayloft/table.delayBounds", laid_hayloft_table_delayBounds)], narrowed := true }
def TopOverlapUptoSaid : Prop := topOverlapUptoRow.holds Tryz.pinned (OpenSpec.upto topOverlapSpec)

end Rows
end Go.Proofs.YtiejdpjgplikjaaGreatDoor
