/-
  NARROWER THAN 'FOR EVERY INPUT', by the rows' own cells (each row's printed sentence says how): ListChecks: laid · ListEarly: laid · ListOwn: laid · TopGreedy: laid.
  DERIVED. THE GIVEN ROWS OF THIS SEAT. 4 by the template 'for every input the law returns true; each argument reads behind the call as it read before'; 0 by the template 'total and deterministic' (their statements: YtnckkhamkkaljaaDoorTotals.lean).
  GIVEN WITH THE SEED: the statements are not yours to turn. If you find one false, say at which input.
  Laid BY PROGRAM, IN A SANDBOX (cutbox-rows.mjs): the forced cells as the released guide's own fill.sh prints them over the translation d1d84d4549e3582a… (all of the seat's roots in one cut). By AI agents, Wed Nov 11 2026. No macro, syntax, notation, axiom, sorry.
-/
import Derived.Test.YtnckkhamkkaljaaDoorChecked
import GoSem.Claim
import GoSem.ClaimJoined
import GoSem.ClaimMapViews
import Derived.JoinedTies
import Derived.KernelRfl
namespace Go.Proofs.YtnckkhamkkaljaaDoor
/- THE CELL 'sum', in the pinned program and in every row, IS THE sha256 OF THE DUMP (.gsa) THAT YtnckkhamkkaljaaDoorProg.lean LOADS. Nothing in Lean hashes anything: it is a label: what it is worth is what the hold of that sum in a sandbox is worth. -/
noncomputable def Tryd.pinned : Pinned := { name := "ytnckkhamkkaljaadoor", sum := "d1d84d4549e3582adac699a2b1dc803d3bae692f5d25ddf792de18935d6d2e4a", checked := Tryd.checked }
namespace Rows
def none {H : Type} : Left H := { results := [], args := [] }

/- WHAT THE LISTED PACKAGE-LEVEL VARIABLES READ AS WHEN THE CALL BEGINS. Each datum BY PROGRAM (the guide's laid-datum.mjs) off the statement by which the dump's own 'gosem.cut.vars' lays the variable. In a bare row this is a premise. The card (YtnckkhamkkaljaaDoorCards.lean) ties it to the program's text. -/
def laid_hayloft_table_unitsBounds {H : Type} : DataW H := .agg [.lit (.int .i64 0), .lit (.int .i64 8)]
def laid_hayloft_table_latBounds {H : Type} : DataW H := .agg [.lit (.int .i64 1), .lit (.int .i64 8)]
def laid_hayloft_table_busyBounds {H : Type} : DataW H := .agg [.lit (.int .i64 1), .lit (.int .i64 4)]
def laid_hayloft_table_delayBounds {H : Type} : DataW H := .agg [.lit (.int .i64 0), .lit (.int .i64 4)]

/-- 'hayloftlaw14.ListChecks': WHATEVER THE INPUT: true; the input reads as it did. -/
def listChecksSpec : ChangeSpec := { name := "listChecks", fn := fun _ => fun
  | [d1, d2, d3] => { results := [.lit (.bool true)], args := [d1, d2, d3] }
  | _ => none }
def listChecksRow : OpenClaim := { program := "ytnckkhamkkaljaadoor", sum := "d1d84d4549e3582adac699a2b1dc803d3bae692f5d25ddf792de18935d6d2e4a", func := "hayloft/hayloftlaw14.ListChecks", spec := "listChecks", unfollowed := true, recurses := true, named := ["hayloft/table.delayBounds", "hayloft/table.unitsBounds", "hayloft/table.latBounds", "hayloft/table.busyBounds"], plainKeys := false, apart := false, laid := [("hayloft/table.unitsBounds", laid_hayloft_table_unitsBounds), ("hayloft/table.latBounds", laid_hayloft_table_latBounds), ("hayloft/table.busyBounds", laid_hayloft_table_busyBounds), ("hayloft/table.delayBounds", laid_hayloft_table_delayBounds)] }
def ListChecksSaid : Prop := listChecksRow.holds Tryd.pinned (OpenSpec.ofChange listChecksSpec)

/-- ITS FALSE NEIGHBOUR: 'it returns false'. Refute it at one input. -/
def listChecksWrong : ChangeSpec := { name := "listChecks", fn := fun _ => fun
  | [d1, d2, d3] => { results := [.lit (.bool false)], args := [d1, d2, d3] }
  | _ => none }
def ListChecksWrongFalsely : Prop := listChecksRow.holds Tryd.pinned (OpenSpec.ofChange listChecksWrong)

/-- 'hayloftlaw14.ListEarly': WHATEVER THE INPUT: true; the input reads as it did. -/
def listEarlySpec : ChangeSpec := { name := "listEarly", fn := fun _ => fun
  | [d1, d2] => { results := [.lit (.bool true)], args := [d1, d2] }
  | _ => none }
def listEarlyRow : OpenClaim := { program := "ytnckkhamkkaljaadoor", sum := "d1d84d4549e3582adac699a2b1dc803d3bae692f5d25ddf792de18935d6d2e4a", func := "hayloft/hayloftlaw14.ListEarly", spec := "listEarly", unfollowed := true, recurses := true, named := ["hayloft/table.delayBounds", "hayloft/table.unitsBounds", "hayloft/table.latBounds", "hayloft/table.busyBounds"], plainKeys := false, apart := false, laid := [("hayloft/table.unitsBounds", laid_hayloft_table_unitsBounds), ("hayloft/table.latBounds", laid_hayloft_table_latBounds), ("hayloft/table.busyBounds", laid_hayloft_table_busyBounds), ("hayloft/table.delayBounds", laid_hayloft_table_delayBounds)] }
def ListEarlySaid : Prop := listEarlyRow.holds Tryd.pinned (OpenSpec.ofChange listEarlySpec)

/-- ITS FALSE NEIGHBOUR: 'it returns false'. Refute it at one input. -/
def listEarlyWrong : ChangeSpec := { name := "listEarly", fn := fun _ => fun
  | [d1, d2] => { results := [.lit (.bool false)], args := [d1, d2] }
  | _ => none }
def ListEarlyWrongFalsely : Prop := listEarlyRow.holds Tryd.pinned (OpenSpec.ofChange listEarlyWrong)

/-- 'hayloftlaw14.ListOwn': WHATEVER THE INPUT: true; the input reads as it did. -/
def listOwnSpec : ChangeSpec := { name := "listOwn", fn := fun _ => fun
  | [d1, d2] => { results := [.lit (.bool true)], args := [d1, d2] }
  | _ => none }
def listOwnRow : OpenClaim := { program := "ytnckkhamkkaljaadoor", sum := "d1d84d4549e3582adac699a2b1dc803d3bae692f5d25ddf792de18935d6d2e4a", func := "hayloft/hayloftlaw14.ListOwn", spec := "listOwn", unfollowed := true, recurses := true, named := ["hayloft/table.delayBounds", "hayloft/table.unitsBounds", "hayloft/table.latBounds", "hayloft/table.busyBounds"], plainKeys := false, apart := false, laid := [("hayloft/table.unitsBounds", laid_hayloft_table_unitsBounds), ("hayloft/table.latBounds", laid_hayloft_table_latBounds), ("hayloft/table.busyBounds", laid_hayloft_table_busyBounds), ("hayloft/table.delayBounds", laid_hayloft_table_delayBounds)] }
def ListOwnSaid : Prop := listOwnRow.holds Tryd.pinned (OpenSpec.ofChange listOwnSpec)

/-- ITS FALSE NEIGHBOUR: 'it returns false'. Refute it at one input. -/
def listOwnWrong : ChangeSpec := { name := "listOwn", fn := fun _ => fun
  | [d1, d2] => { results := [.lit (.bool false)], args := [d1, d2] }
  | _ => none }
def ListOwnWrongFalsely : Prop := listOwnRow.holds Tryd.pinned (OpenSpec.ofChange listOwnWrong)

/-- 'haylofttop.TopGreedy': WHATEVER THE INPUT: true; the input reads as it did. -/
def topGreedySpec : ChangeSpec := { name := "topGreedy", fn := fun _ => fun
  | [d1, d2] => { results := [.lit (.bool true)], args := [d1, d2] }
  | _ => none }
def topGreedyRow : OpenClaim := { program := "ytnckkhamkkaljaadoor", sum := "d1d84d4549e3582adac699a2b1dc803d3bae692f5d25ddf792de18935d6d2e4a", func := "hayloft/haylofttop.TopGreedy", spec := "topGreedy", unfollowed := true, recurses := true, named := ["hayloft/table.delayBounds", "hayloft/table.unitsBounds", "hayloft/table.latBounds", "hayloft/table.busyBounds"], plainKeys := false, apart := false, laid := [("hayloft/table.unitsBounds", laid_hayloft_table_unitsBounds), ("hayloft/table.latBounds", laid_hayloft_table_latBounds), ("hayloft/table.busyBounds", laid_hayloft_table_busyBounds), ("hayloft/table.delayBounds", laid_hayloft_table_delayBounds)] }
def TopGreedySaid : Prop := topGreedyRow.holds Tryd.pinned (OpenSpec.ofChange topGreedySpec)

/-- ITS FALSE NEIGHBOUR: 'it returns false'. Refute it at one input. -/
def topGreedyWrong : ChangeSpec := { name := "topGreedy", fn := fun _ => fun
  | [d1, d2] => { results := [.lit (.bool false)], args := [d1, d2] }
  | _ => none }
def TopGreedyWrongFalsely : Prop := topGreedyRow.holds Tryd.pinned (OpenSpec.ofChange topGreedyWrong)

/- THE SECOND FORM. 'bulk': how many values and letters a reading holds, each counted each time it is reached (what is shared counts as often as it is met; a slice's spare places count too). A statement '..UptoSaid' is the law's where the arguments, and the package variables that the reading takes, are together of bulk at most 1048576: NARROWER than '..Said'. Prove '..Said' where nothing that the law and all that it calls make is longer than what came in: it says more and counts as full. Else prove '..UptoSaid'. A law counts once. -/
mutual
def uptoBulk {H : Type} : DataW H → Nat
  | .lit (.string bytes) => bytes.length + 1
  | .lit _ => 1
  | .nil => 1
  | .ptr d => uptoBulk d + 1
  | .slice elems spare => uptoBulkAll elems + uptoBulkAll spare + 1
  | .agg parts => uptoBulkAll parts + 1
  | .iface _ d => uptoBulk d + 1
  | .map entries => uptoBulkEntries entries + 1
  | .held _ => 1
def uptoBulkAll {H : Type} : List (DataW H) → Nat
  | [] => 0
  | d :: r => uptoBulk d + uptoBulkAll r
def uptoBulkEntries {H : Type} : List (Lit × DataW H) → Nat
  | [] => 0
  | x :: r => uptoBulkEntry x + uptoBulkEntries r
def uptoBulkEntry {H : Type} : Lit × DataW H → Nat
  | (.string bytes, d) => bytes.length + uptoBulk d + 1
  | (_, d) => uptoBulk d + 1
 end
def uptoSmall : (H : Type) → List (DataW H) → Bool := fun _ ds => decide (uptoBulkAll ds ≤ 1048576)
def OpenSpec.upto (s : _root_.Go.ChangeSpec) : _root_.Go.OpenSpec := { _root_.Go.OpenSpec.ofChange s with cond := some uptoSmall }

/-- 'hayloftlaw14.ListChecks', WHERE WHAT IT READS IS OF BULK AT MOST 1048576: true; the input reads as it did. -/
def listChecksUptoRow : OpenClaim := { program := "ytnckkhamkkaljaadoor", sum := "d1d84d4549e3582adac699a2b1dc803d3bae692f5d25ddf792de18935d6d2e4a", func := "hayloft/hayloftlaw14.ListChecks", spec := "listChecks", unfollowed := true, recurses := true, named := ["hayloft/table.delayBounds", "hayloft/table.unitsBounds", "hayloft/table.latBounds", "hayloft/table.busyBounds"], plainKeys := false, apart := false, laid := [("hayloft/table.unitsBounds", laid_hayloft_table_unitsBounds), ("hayloft/table.latBounds", laid_hayloft_table_latBounds), ("hayloft/table.busyBounds", laid_hayloft_table_busyBounds), ("hayloft/table.delayBounds", laid_hayloft_table_delayBounds)], narrowed := true }
def ListChecksUptoSaid : Prop := listChecksUptoRow.holds Tryd.pinned (OpenSpec.upto listChecksSpec)

/-- 'hayloftlaw14.ListEarly', WHERE WHAT IT READS IS OF BULK AT MOST 1048576: true; the input reads as it did. -/
def listEarlyUptoRow : OpenClaim := { program := "ytnckkhamkkaljaadoor", sum := "d1d84d4549e3582adac699a2b1dc803d3bae692f5d25ddf792de18935d6d2e4a", func := "hayloft/hayloftlaw14.ListEarly", spec := "listEarly", unfollowed := true, recurses := true, named := ["hayloft/table.delayBounds", "hayloft/table.unitsBounds", "hayloft/table.latBounds", "hayloft/table.busyBounds"], plainKeys := false, apart := false, laid := [("hayloft/table.unitsBounds", laid_hayloft_table_unitsBounds), ("hayloft/table.latBounds", laid_hayloft_table_latBounds), ("hayloft/table.busyBounds", laid_hayloft_table_busyBounds), ("hayloft/table.delayBounds", laid_hayloft_table_delayBounds)], narrowed := true }
def ListEarlyUptoSaid : Prop := listEarlyUptoRow.holds Tryd.pinned (OpenSpec.upto listEarlySpec)

/-- 'hayloftlaw14.ListOwn', WHERE WHAT IT READS IS OF BULK AT MOST 1048576: true; the input reads as it did. -/
def listOwnUptoRow : OpenClaim := { program := "ytnckkhamkkaljaadoor", sum := "d1d84d4549e3582adac699a2b1dc803d3bae692f5d25ddf792de18935d6d2e4a", func := "hayloft/hayloftlaw14.ListOwn", spec := "listOwn", unfollowed := true, recurses := true, named := ["hayloft/table.delayBounds", "hayloft/table.unitsBounds", "hayloft/table.latBounds", "hayloft/table.busyBounds"], plainKeys := false, apart := false, laid := [("hayloft/table.unitsBounds", laid_hayloft_table_unitsBounds), ("hayloft/table.latBounds", laid_hayloft_table_latBounds), ("hayloft/table.busyBounds", laid_hayloft_table_busyBounds), ("hayloft/table.delayBounds", laid_hayloft_table_delayBounds)], narrowed := true }
def ListOwnUptoSaid : Prop := listOwnUptoRow.holds Tryd.pinned (OpenSpec.upto listOwnSpec)

/-- 'haylofttop.TopGreedy', WHERE WHAT IT READS IS OF BULK AT MOST 1048576: true; the input reads as it did. -/
def topGreedyUptoRow : OpenClaim := { program := "ytnckkhamkkaljaadoor", sum := "d1d84d4549e3582adac699a2b1dc803d3bae692f5d25ddf792de18935d6d2e4a", func := "hayloft/haylofttop.TopGreedy", spec := "topGreedy", unfollowed := true, recurses := true, named := ["hayloft/table.delayBounds", "hayloft/table.unitsBounds", "hayloft/table.latBounds", "hayloft/table.busyBounds"], plainKeys := false, apart := false, laid := [("hayloft/table.unitsBounds", laid_hayloft_table_unitsBounds), ("hayloft/table.latBounds", laid_hayloft_table_latBounds), ("hayloft/table.busyBounds", laid_hayloft_table_busyBounds), ("hayloft/table.delayBounds", laid_hayloft_table_delayBounds)], narrowed := true }
def TopGreedyUptoSaid : Prop := topGreedyUptoRow.holds Tryd.pinned (OpenSpec.upto topGreedySpec)

end Rows
end Go.Proofs.YtnckkhamkkaljaaDoor
