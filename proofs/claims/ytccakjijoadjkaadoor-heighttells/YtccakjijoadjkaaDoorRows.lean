/-
  NARROWER THAN 'FOR EVERY INPUT', by the rows' own cells (each row's printed sentence says how): DepsTell: laid · DepsSwap: laid · DepsLater: laid · HeightTells: laid · HeightFalls: laid · HeightBound: laid.
  DERIVED. THE GIVEN ROWS OF THIS SEAT. 6 by the template 'for every input the law returns true; each argument reads behind the call as it read before'; 0 by the template 'total and deterministic' (their statements: YtccakjijoadjkaaDoorTotals.lean).
  GIVEN WITH THE SEED: the statements are not yours to turn. If you find one false, say at which input.
  Laid BY PROGRAM, IN A SANDBOX (cutbox-rows.mjs): the forced cells as the released guide's own fill.sh prints them over the translation 35131042614ea222… (all of the seat's roots in one cut). By AI agents, Wed Nov 11 2026. No macro, syntax, notation, axiom, sorry.
-/
import Derived.Test.YtccakjijoadjkaaDoorChecked
import GoSem.Claim
import GoSem.ClaimJoined
import GoSem.ClaimMapViews
import Derived.JoinedTies
import Derived.KernelRfl
namespace Go.Proofs.YtccakjijoadjkaaDoor
/- THE CELL 'sum', in the pinned program and in every row, IS THE sha256 OF THE DUMP (.gsa) THAT YtccakjijoadjkaaDoorProg.lean LOADS. Nothing in Lean hashes anything: it is a label: what it is worth is what the hold of that sum in a sandbox is worth. -/
noncomputable def Tryd.pinned : Pinned := { name := "ytccakjijoadjkaadoor", sum := "35131042614ea22282efe91ee480b2514b59a8e5adf35351e2904a0cfa77c716", checked := Tryd.checked }
namespace Rows
def none {H : Type} : Left H := { results := [], args := [] }

/- WHAT THE LISTED PACKAGE-LEVEL VARIABLES READ AS WHEN THE CALL BEGINS. Each datum BY PROGRAM (the guide's laid-datum.mjs) off the statement by which the dump's own 'gosem.cut.vars' lays the variable. In a bare row this is a premise. The card (YtccakjijoadjkaaDoorCards.lean) ties it to the program's text. -/
def laid_hayloft_table_unitsBounds {H : Type} : DataW H := .agg [.lit (.int .i64 0), .lit (.int .i64 8)]
def laid_hayloft_table_latBounds {H : Type} : DataW H := .agg [.lit (.int .i64 1), .lit (.int .i64 8)]
def laid_hayloft_table_busyBounds {H : Type} : DataW H := .agg [.lit (.int .i64 1), .lit (.int .i64 4)]
def laid_hayloft_table_delayBounds {H : Type} : DataW H := .agg [.lit (.int .i64 0), .lit (.int .i64 4)]
def laid_hayloft_program_ends {H : Type} : DataW H := .agg [.agg [.lit (.bool false), .lit (.bool false), .lit (.bool true), .lit (.bool false)], .agg [.lit (.bool true), .lit (.bool false), .lit (.bool true), .lit (.bool true)], .agg [.lit (.bool true), .lit (.bool false), .lit (.bool false), .lit (.bool false)], .agg [.lit (.bool true), .lit (.bool true), .lit (.bool true), .lit (.bool false)]]

/-- 'hayloftlaw11.DepsTell': WHATEVER THE INPUT: true; the input reads as it did. -/
def depsTellSpec : ChangeSpec := { name := "depsTell", fn := fun _ => fun
  | [d1, d2] => { results := [.lit (.bool true)], args := [d1, d2] }
  | _ => none }
def depsTellRow : OpenClaim := { program := "ytccakjijoadjkaadoor", sum := "35131042614ea22282efe91ee480b2514b59a8e5adf35351e2904a0cfa77c716", func := "hayloft/hayloftlaw11.DepsTell", spec := "depsTell", unfollowed := true, recurses := true, named := ["hayloft/table.delayBounds", "hayloft/table.unitsBounds", "hayloft/table.latBounds", "hayloft/table.busyBounds"], apart := false, laid := [("hayloft/table.unitsBounds", laid_hayloft_table_unitsBounds), ("hayloft/table.latBounds", laid_hayloft_table_latBounds), ("hayloft/table.busyBounds", laid_hayloft_table_busyBounds), ("hayloft/table.delayBounds", laid_hayloft_table_delayBounds)] }
def DepsTellSaid : Prop := depsTellRow.holds Tryd.pinned (OpenSpec.ofChange depsTellSpec)

/-- ITS FALSE NEIGHBOUR: 'it returns false'. Refute it at one input. -/
def depsTellWrong : ChangeSpec := { name := "depsTell", fn := fun _ => fun
  | [d1, d2] => { results := [.lit (.bool false)], args := [d1, d2] }
  | _ => none }
def DepsTellWrongFalsely : Prop := depsTellRow.holds Tryd.pinned (OpenSpec.ofChange depsTellWrong)

/-- 'hayloftlaw11.DepsSwap': WHATEVER THE INPUT: true; the input reads as it did. -/
def depsSwapSpec : ChangeSpec := { name := "depsSwap", fn := fun _ => fun
  | [d1, d2, d3, d4] => { results := [.lit (.bool true)], args := [d1, d2, d3, d4] }
  | _ => none }
def depsSwapRow : OpenClaim := { program := "ytccakjijoadjkaadoor", sum := "35131042614ea22282efe91ee480b2514b59a8e5adf35351e2904a0cfa77c716", func := "hayloft/hayloftlaw11.DepsSwap", spec := "depsSwap", unfollowed := true, recurses := true, named := ["hayloft/table.delayBounds", "hayloft/table.unitsBounds", "hayloft/table.latBounds", "hayloft/table.busyBounds", "hayloft/program.ends"], apart := false, laid := [("hayloft/table.unitsBounds", laid_hayloft_table_unitsBounds), ("hayloft/table.latBounds", laid_hayloft_table_latBounds), ("hayloft/table.busyBounds", laid_hayloft_table_busyBounds), ("hayloft/table.delayBounds", laid_hayloft_table_delayBounds), ("hayloft/program.ends", laid_hayloft_program_ends)] }
def DepsSwapSaid : Prop := depsSwapRow.holds Tryd.pinned (OpenSpec.ofChange depsSwapSpec)

/-- ITS FALSE NEIGHBOUR: 'it returns false'. Refute it at one input. -/
def depsSwapWrong : ChangeSpec := { name := "depsSwap", fn := fun _ => fun
  | [d1, d2, d3, d4] => { results := [.lit (.bool false)], args := [d1, d2, d3, d4] }
  | _ => none }
def DepsSwapWrongFalsely : Prop := depsSwapRow.holds Tryd.pinned (OpenSpec.ofChange depsSwapWrong)

/-- 'hayloftlaw11.DepsLater': WHATEVER THE INPUT: true; the input reads as it did. -/
def depsLaterSpec : ChangeSpec := { name := "depsLater", fn := fun _ => fun
  | [d1, d2, d3] => { results := [.lit (.bool true)], args := [d1, d2, d3] }
  | _ => none }
def depsLaterRow : OpenClaim := { program := "ytccakjijoadjkaadoor", sum := "35131042614ea22282efe91ee480b2514b59a8e5adf35351e2904a0cfa77c716", func := "hayloft/hayloftlaw11.DepsLater", spec := "depsLater", unfollowed := true, recurses := true, named := ["hayloft/table.delayBounds", "hayloft/table.unitsBounds", "hayloft/table.latBounds", "hayloft/table.busyBounds"], apart := false, laid := [("hayloft/table.unitsBounds", laid_hayloft_table_unitsBounds), ("hayloft/table.latBounds", laid_hayloft_table_latBounds), ("hayloft/table.busyBounds", laid_hayloft_table_busyBounds), ("hayloft/table.delayBounds", laid_hayloft_table_delayBounds)] }
def DepsLaterSaid : Prop := depsLaterRow.holds Tryd.pinned (OpenSpec.ofChange depsLaterSpec)

/-- ITS FALSE NEIGHBOUR: 'it returns false'. Refute it at one input. -/
def depsLaterWrong : ChangeSpec := { name := "depsLater", fn := fun _ => fun
  | [d1, d2, d3] => { results := [.lit (.bool false)], args := [d1, d2, d3] }
  | _ => none }
def DepsLaterWrongFalsely : Prop := depsLaterRow.holds Tryd.pinned (OpenSpec.ofChange depsLaterWrong)

/-- 'hayloftlaw12.HeightTells': WHATEVER THE INPUT: true; the input reads as it did. -/
def heightTellsSpec : ChangeSpec := { name := "heightTells", fn := fun _ => fun
  | [d1, d2] => { results := [.lit (.bool true)], args := [d1, d2] }
  | _ => none }
def heightTellsRow : OpenClaim := { program := "ytccakjijoadjkaadoor", sum := "35131042614ea22282efe91ee480b2514b59a8e5adf35351e2904a0cfa77c716", func := "hayloft/hayloftlaw12.HeightTells", spec := "heightTells", unfollowed := true, recurses := true, named := ["hayloft/table.delayBounds", "hayloft/table.unitsBounds", "hayloft/table.latBounds", "hayloft/table.busyBounds"], apart := false, laid := [("hayloft/table.unitsBounds", laid_hayloft_table_unitsBounds), ("hayloft/table.latBounds", laid_hayloft_table_latBounds), ("hayloft/table.busyBounds", laid_hayloft_table_busyBounds), ("hayloft/table.delayBounds", laid_hayloft_table_delayBounds)] }
def HeightTellsSaid : Prop := heightTellsRow.holds Tryd.pinned (OpenSpec.ofChange heightTellsSpec)

/-- ITS FALSE NEIGHBOUR: 'it returns false'. Refute it at one input. -/
def heightTellsWrong : ChangeSpec := { name := "heightTells", fn := fun _ => fun
  | [d1, d2] => { results := [.lit (.bool false)], args := [d1, d2] }
  | _ => none }
def HeightTellsWrongFalsely : Prop := heightTellsRow.holds Tryd.pinned (OpenSpec.ofChange heightTellsWrong)

/-- 'hayloftlaw12.HeightFalls': WHATEVER THE INPUT: true; the input reads as it did. -/
def heightFallsSpec : ChangeSpec := { name := "heightFalls", fn := fun _ => fun
  | [d1, d2] => { results := [.lit (.bool true)], args := [d1, d2] }
  | _ => none }
def heightFallsRow : OpenClaim := { program := "ytccakjijoadjkaadoor", sum := "35131042614ea22282efe91ee480b2514b59a8e5adf35351e2904a0cfa77c716", func := "hayloft/hayloftlaw12.HeightFalls", spec := "heightFalls", unfollowed := true, recurses := true, named := ["hayloft/table.delayBounds", "hayloft/table.unitsBounds", "hayloft/table.latBounds", "hayloft/table.busyBounds"], apart := false, laid := [("hayloft/table.unitsBounds", laid_hayloft_table_unitsBounds), ("hayloft/table.latBounds", laid_hayloft_table_latBounds), ("hayloft/table.busyBounds", laid_hayloft_table_busyBounds), ("hayloft/table.delayBounds", laid_hayloft_table_delayBounds)] }
def HeightFallsSaid : Prop := heightFallsRow.holds Tryd.pinned (OpenSpec.ofChange heightFallsSpec)

/-- ITS FALSE NEIGHBOUR: 'it returns false'. Refute it at one input. -/
def heightFallsWrong : ChangeSpec := { name := "heightFalls", fn := fun _ => fun
  | [d1, d2] => { results := [.lit (.bool false)], args := [d1, d2] }
  | _ => none }
def HeightFallsWrongFalsely : Prop := heightFallsRow.holds Tryd.pinned (OpenSpec.ofChange heightFallsWrong)

/-- 'hayloftlaw12.HeightBound': WHATEVER THE INPUT: true; the input reads as it did. -/
def heightBoundSpec : ChangeSpec := { name := "heightBound", fn := fun _ => fun
  | [d1, d2, d3] => { results := [.lit (.bool true)], args := [d1, d2, d3] }
  | _ => none }
def heightBoundRow : OpenClaim := { program := "ytccakjijoadjkaadoor", sum := "35131042614ea22282efe91ee480b2514b59a8e5adf35351e2904a0cfa77c716", func := "hayloft/hayloftlaw12.HeightBound", spec := "heightBound", unfollowed := true, recurses := true, named := ["hayloft/table.delayBounds", "hayloft/table.unitsBounds", "hayloft/table.latBounds", "hayloft/table.busyBounds"], apart := false, laid := [("hayloft/table.unitsBounds", laid_hayloft_table_unitsBounds), ("hayloft/table.latBounds", laid_hayloft_table_latBounds), ("hayloft/table.busyBounds", laid_hayloft_table_busyBounds), ("hayloft/table.delayBounds", laid_hayloft_table_delayBounds)] }
def HeightBoundSaid : Prop := heightBoundRow.holds Tryd.pinned (OpenSpec.ofChange heightBoundSpec)

/-- ITS FALSE NEIGHBOUR: 'it returns false'. Refute it at one input. -/
def heightBoundWrong : ChangeSpec := { name := "heightBound", fn := fun _ => fun
  | [d1, d2, d3] => { results := [.lit (.bool false)], args := [d1, d2, d3] }
  | _ => none }
def HeightBoundWrongFalsely : Prop := heightBoundRow.holds Tryd.pinned (OpenSpec.ofChange heightBoundWrong)

/- THE SECOND FORM. 'bulk': how many values and letters a reading holds, each counted each time it is reached (what is shared counts as often as it is met; a slice's spare places count too). A statement '..UptoSaid' is the law's where the arguments, and the package variables that the reading takes, are together of bulk at most 1048576: NARROWER than '..Said'. Prove '..Said' where nothing that the law and all that it calls make is longer than what came in: it says more and counts as full. Else prove '..UptoSaid'. A law counts once. -/
mutual
def uptoBulk {H : Type} : DataW H → Nat
  | .lit (.string bytes) => bytes.length + 1
  | .lit _ => 1
  | .nil => 1
  | .ptr d => uptoBulk d + 1
  | .slice elems spare => uptoBulkAll elems + uptoBulkAll spare + 1
  | .agg parts => uptoBulkAll parts + 1
  | .iface _ d => uptoBulk d + 1
  | .map entries => uptoBulkEntries entries + 1
  | .held _ => 1
def uptoBulkAll {H : Type} : List (DataW H) → Nat
  | [] => 0
  | d :: r => uptoBulk d + uptoBulkAll r
def uptoBulkEntries {H : Type} : List (Lit × DataW H) → Nat
  | [] => 0
  | x :: r => uptoBulkEntry x + uptoBulkEntries r
def uptoBulkEntry {H : Type} : Lit × DataW H → Nat
  | (.string bytes, d) => bytes.length + uptoBulk d + 1
  | (_, d) => uptoBulk d + 1
 end
def uptoSmall : (H : Type) → List (DataW H) → Bool := fun _ ds => decide (uptoBulkAll ds ≤ 1048576)
def OpenSpec.upto (s : _root_.Go.ChangeSpec) : _root_.Go.OpenSpec := { _root_.Go.OpenSpec.ofChange s with cond := some uptoSmall }

/-- 'hayloftlaw11.DepsTell', WHERE WHAT IT READS IS OF BULK AT MOST 1048576: true; the input reads as it did. -/
def depsTellUptoRow : OpenClaim := { program := "ytccakjijoadjkaadoor", sum := "35131042614ea22282efe91ee480b2514b59a8e5adf35351e2904a0cfa77c716", func := "hayloft/hayloftlaw11.DepsTell", spec := "depsTell", unfollowed := true, recurses := true, named := ["hayloft/table.delayBounds", "hayloft/table.unitsBounds", "hayloft/table.latBounds", "hayloft/table.busyBounds"], apart := false, laid := [("hayloft/table.unitsBounds", laid_hayloft_table_unitsBounds), ("hayloft/table.latBounds", laid_hayloft_table_latBounds), ("hayloft/table.busyBounds", laid_hayloft_table_busyBounds), ("hayloft/table.delayBounds", laid_hayloft_table_delayBounds)], narrowed := true }
def DepsTellUptoSaid : Prop := depsTellUptoRow.holds Tryd.pinned (OpenSpec.upto depsTellSpec)

/-- 'hayloftlaw11.DepsSwap', WHERE WHAT IT READS IS OF BULK AT MOST 1048576: true; the input reads as it did. -/
def depsSwapUptoRow : OpenClaim := { program := "ytccakjijoadjkaadoor", sum := "35131042614ea22282efe91ee480b2514b59a8e5adf35351e2904a0cfa77c716", func := "hayloft/hayloftlaw11.DepsSwap", spec := "depsSwap", unfollowed := true, recurses := true, named := ["hayloft/table.delayBounds", "hayloft/table.unitsBounds", "hayloft/table.latBounds", "hayloft/table.busyBounds", "hayloft/program.ends"], apart := false, laid := [("hayloft/table.unitsBounds", laid_hayloft_table_unitsBounds), ("hayloft/table.latBounds", laid_hayloft_table_latBounds), ("hayloft/table.busyBounds", laid_hayloft_table_busyBounds), ("hayloft/table.delayBounds", laid_hayloft_table_delayBounds), ("hayloft/program.ends", laid_hayloft_program_ends)], narrowed := true }
def DepsSwapUptoSaid : Prop := depsSwapUptoRow.holds Tryd.pinned (OpenSpec.upto depsSwapSpec)

/-- 'hayloftlaw11.DepsLater', WHERE WHAT IT READS IS OF BULK AT MOST 1048576: true; the input reads as it did. -/
def depsLaterUptoRow : OpenClaim := { program := "ytccakjijoadjkaadoor", sum := "35131042614ea22282efe91ee480b2514b59a8e5adf35351e2904a0cfa77c716", func := "hayloft/hayloftlaw11.DepsLater", spec := "depsLater", unfollowed := true, recurses := true, named := ["hayloft/table.delayBounds", "hayloft/table.unitsBounds", "hayloft/table.latBounds", "hayloft/table.busyBounds"], apart := false, laid := [("hayloft/table.unitsBounds", laid_hayloft_table_unitsBounds), ("hayloft/table.latBounds", laid_hayloft_table_latBounds), ("hayloft/table.busyBounds", laid_hayloft_table_busyBounds), ("hayloft/table.delayBounds", laid_hayloft_table_delayBounds)], narrowed := true }
def DepsLaterUptoSaid : Prop := depsLaterUptoRow.holds Tryd.pinned (OpenSpec.upto depsLaterSpec)

/-- 'hayloftlaw12.HeightTells', WHERE WHAT IT READS IS OF BULK AT MOST 1048576: true; the input reads as it did. -/
def heightTellsUptoRow : OpenClaim := { program := "ytccakjijoadjkaadoor", sum := "35131042614ea22282efe91ee480b2514b59a8e5adf35351e2904a0cfa77c716", func := "hayloft/hayloftlaw12.HeightTells", spec := "heightTells", unfollowed := true, recurses := true, named := ["hayloft/table.delayBounds", "hayloft/table.unitsBounds", "hayloft/table.latBounds", "hayloft/table.busyBounds"], apart := false, laid := [("hayloft/table.unitsBounds", laid_hayloft_table_unitsBounds), ("hayloft/table.latBounds", laid_hayloft_table_latBounds), ("hayloft/table.busyBounds", laid_hayloft_table_busyBounds), ("hayloft/table.delayBounds", laid_hayloft_table_delayBounds)], narrowed := true }
def HeightTellsUptoSaid : Prop := heightTellsUptoRow.holds Tryd.pinned (OpenSpec.upto heightTellsSpec)

/-- 'hayloftlaw12.HeightFalls', WHERE WHAT IT READS IS OF BULK AT MOST 1048576: true; the input reads as it did. -/
def heightFallsUptoRow : OpenClaim := { program := "ytccakjijoadjkaadoor", sum := "35131042614ea22282efe91ee480b2514b59a8e5adf35351e2904a0cfa77c716", func := "hayloft/hayloftlaw12.HeightFalls", spec := "heightFalls", unfollowed := true, recurses := true, named := ["hayloft/table.delayBounds", "hayloft/table.unitsBounds", "hayloft/table.latBounds", "hayloft/table.busyBounds"], apart := false, laid := [("hayloft/table.unitsBounds", laid_hayloft_table_unitsBounds), ("hayloft/table.latBounds", laid_hayloft_table_latBounds), ("hayloft/table.busyBounds", laid_hayloft_table_busyBounds), ("hayloft/table.delayBounds", laid_hayloft_table_delayBounds)], narrowed := true }
def HeightFallsUptoSaid : Prop := heightFallsUptoRow.holds Tryd.pinned (OpenSpec.upto heightFallsSpec)

/-- 'hayloftlaw12.HeightBound', WHERE WHAT IT READS IS OF BULK AT MOST 1048576: true; the input reads as it did. -/
def heightBoundUptoRow : OpenClaim := { program := "ytccakjijoadjkaadoor", sum := "35131042614ea22282efe91ee480b2514b59a8e5adf35351e2904a0cfa77c716", func := "hayloft/hayloftlaw12.HeightBound", spec := "heightBound", unfollowed := true, recurses := true, named := ["hayloft/table.delayBounds", "hayloft/table.unitsBounds", "hayloft/table.latBounds", "hayloft/table.busyBounds"], apart := false, laid := [("hayloft/table.unitsBounds", laid_hayloft_table_unitsBounds), ("hayloft/table.latBounds", laid_hayloft_table_latBounds), ("hayloft/table.busyBounds", laid_hayloft_table_busyBounds), ("hayloft/table.delayBounds", laid_hayloft_table_delayBounds)], narrowed := true }
def HeightBoundUptoSaid : Prop := heightBoundUptoRow.holds Tryd.pinned (OpenSpec.upto heightBoundSpec)

end Rows
end Go.Proofs.YtccakjijoadjkaaDoor
