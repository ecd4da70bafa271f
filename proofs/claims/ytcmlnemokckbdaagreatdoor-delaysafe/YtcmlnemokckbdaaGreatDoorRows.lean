/-
  NARROWER THAN 'FOR EVERY INPUT', by the rows' own cells (each row's printed sentence says how): DelayEnds: laid · DelayEarly: laid · DelaySafe: laid.
  DERIVED. THE GIVEN ROWS OF THIS SEAT. 3 by the template 'for every input the law returns true; each argument reads behind the call as it read before'; 0 by the template 'total and deterministic' (their statements: YtcmlnemokckbdaaGreatDoorTotals.lean).
  GIVEN WITH THE SEED: the statements are not yours to turn. If you find one false, say at which input.
  Laid BY PROGRAM, IN A SANDBOX (cutbox-rows.mjs): the forced cells as the released guide's own fill.sh prints them over the translation a9d543e99af67447… (all of the seat's roots in one cut). By AI agents, Wed Nov 11 2026. No macro, syntax, notation, axiom, sorry.
-/
import Derived.Test.YtcmlnemokckbdaaGreatDoorChecked
import GoSem.Claim
import GoSem.ClaimJoined
import GoSem.ClaimMapViews
import Derived.JoinedTies
import Derived.KernelRfl
namespace Go.Proofs.YtcmlnemokckbdaaGreatDoor
/- THE CELL 'sum', in the pinned program and in every row, IS THE sha256 OF THE DUMP (.gsa) THAT YtcmlnemokckbdaaGreatDoorProg.lean LOADS. Nothing in Lean hashes anything: it is a label: what it is worth is what the hold of that sum in a sandbox is worth. -/
noncomputable def Tryz.pinned : Pinned := { name := "ytcmlnemokckbdaagreatdoor", sum := "a9d543e99af6744737b38220d2cab726ca38ab0a3b80e528df170196ff25bf8a", checked := Tryz.checked }
namespace Rows
def none {H : Type} : Left H := { results := [], args := [] }

/- WHAT THE LISTED PACKAGE-LEVEL VARIABLES READ AS WHEN THE CALL BEGINS. Each datum BY PROGRAM (the guide's laid-datum.mjs) off the statement by which the dump's own 'gosem.cut.vars' lays the variable. In a bare row this is a premise. The card (YtcmlnemokckbdaaGreatDoorCards.lean) ties it to the program's text. -/
def laid_hayloft_table_unitsBounds {H : Type} : DataW H := .agg [.lit (.int .i64 0), .lit (.int .i64 8)]
def laid_hayloft_table_latBounds {H : Type} : DataW H := .agg [.lit (.int .i64 1), .lit (.int .i64 8)]
def laid_hayloft_table_busyBounds {H : Type} : DataW H := .agg [.lit (.int .i64 1), .lit (.int .i64 4)]
def laid_hayloft_table_delayBounds {H : Type} : DataW H := .agg [.lit (.int .i64 0), .lit (.int .i64 4)]
def laid_hayloft_program_ends {H : Type} : DataW H := .agg [.agg [.lit (.bool false), .lit (.bool false), .lit (.bool true), .lit (.bool false)], .agg [.lit (.bool true), .lit (.bool false), .lit (.bool true), .lit (.bool true)], .agg [.lit (.bool true), .lit (.bool false), .lit (.bool false), .lit (.bool false)], .agg [.lit (.bool true), .lit (.bool true), .lit (.bool true), .lit (.bool false)]]

/-- 'hayloftlaw18.DelayEnds': WHATEVER THE INPUT: true; the input reads as it did. -/
def delayEndsSpec : ChangeSpec := { name := "delayEnds", fn := fun _ => fun
  | [d1, d2, d3] => { results := [.lit (.bool true)], args := [d1, d2, d3] }
  | _ => none }
def delayEndsRow : OpenClaim := { program := "ytcmlnemokckbdaagreatdoor", sum := "a9d543e99af6744737b38220d2cab726ca38ab0a3b80e528df170196ff25bf8a", func := "hayloft/hayloftlaw18.DelayEnds", spec := "delayEnds", unfollowed := true, recurses := true, named := ["hayloft/table.delayBounds", "hayloft/table.unitsBounds", "hayloft/table.latBounds", "hayloft/table.busyBounds"], plainKeys := false, apart := false, laid := [("hayloft/table.unitsBounds", laid_hayloft_table_unitsBounds), ("hayloft/table.latBounds", laid_hayloft_table_latBounds), ("hayloft/table.busyBounds", laid_hayloft_table_busyBounds), ("hayloft/table.delayBounds", laid_hayloft_table_delayBounds)] }
def DelayEndsSaid : Prop := delayEndsRow.holds Tryz.pinned (OpenSpec.ofChange delayEndsSpec)

/-- ITS FALSE NEIGHBOUR: 'it returns false'. Refute it at one input. -/
def delayEndsWrong : ChangeSpec := { name := "delayEnds", fn := fun _ => fun
  | [d1, d2, d3] => { results := [.lit (.bool false)], args := [d1, d2, d3] }
  | _ => none }
def DelayEndsWrongFalsely : Prop := delayEndsRow.holds Tryz.pinned (OpenSpec.ofChange delayEndsWrong)

/-- 'hayloftlaw18.DelayEarly': WHATEVER THE INPUT: true; the input reads as it did. -/
def delayEarlySpec : ChangeSpec := { name := "delayEarly", fn := fun _ => fun
  | [d1, d2] => { results := [.lit (.bool true)], args := [d1, d2] }
  | _ => none }
def delayEarlyRow : OpenClaim := { program := "ytcmlnemokckbdaagreatdoor", sum := "a9d543e99af6744737b38220d2cab726ca38ab0a3b80e528df170196ff25bf8a", func := "hayloft/hayloftlaw18.DelayEarly", spec := "delayEarly", unfollowed := true, recurses := true, named := ["hayloft/program.ends", "hayloft/table.delayBounds", "hayloft/table.unitsBounds", "hayloft/table.latBounds", "hayloft/table.busyBounds"], plainKeys := false, apart := false, laid := [("hayloft/table.unitsBounds", laid_hayloft_table_unitsBounds), ("hayloft/table.latBounds", laid_hayloft_table_latBounds), ("hayloft/table.busyBounds", laid_hayloft_table_busyBounds), ("hayloft/table.delayBounds", laid_hayloft_table_delayBounds), ("hayloft/program.ends", laid_hayloft_program_ends)] }
def DelayEarlySaid : Prop := delayEarlyRow.holds Tryz.pinned (OpenSpec.ofChange delayEarlySpec)

/-- ITS FALSE NEIGHBOUR: 'it returns false'. Refute it at one input. -/
def delayEarlyWrong : ChangeSpec := { name := "delayEarly", fn := fun _ => fun
  | [d1, d2] => { results := [.lit (.bool false)], args := [d1, d2] }
  | _ => none }
def DelayEarlyWrongFalsely : Prop := delayEarlyRow.holds Tryz.pinned (OpenSpec.ofChange delayEarlyWrong)

/-- 'hayloftlaw18.DelaySafe': WHATEVER THE INPUT: true; the input reads as it did. -/
def delaySafeSpec : ChangeSpec := { name := "delaySafe", fn := fun _ => fun
  | [d1, d2, d3, d4] => { results := [.lit (.bool true)], args := [d1, d2, d3, d4] }
  | _ => none }
def delaySafeRow : OpenClaim := { program := "ytcmlnemokckbdaagreatdoor", sum := "a9d543e99af6744737b38220d2cab726ca38ab0a3b80e528df170196ff25bf8a", func := "hayloft/hayloftlaw18.DelaySafe", spec := "delaySafe", unfollowed := true, recurses := true, named := ["hayloft/program.ends", "hayloft/table.delayBounds", "hayloft/table.unitsBounds", "hayloft/table.latBounds", "hayloft/table.busyBounds"], plainKeys := false, apart := false, laid := [("hayloft/table.unitsBounds", laid_hayloft_table_unitsBounds), ("hayloft/table.latBounds", laid_hayloft_table_latBounds), ("hayloft/table.busyBounds", laid_hayloft_table_busyBounds), ("hayloft/table.delayBounds", laid_hayloft_table_delayBounds), ("hayloft/program.ends", laid_hayloft_program_ends)] }
def DelaySafeSaid : Prop := delaySafeRow.holds Tryz.pinned (OpenSpec.ofChange delaySafeSpec)

/-- ITS FALSE NEIGHBOUR: 'it returns false'. Refute it at one input. -/
def delaySafeWrong : ChangeSpec := { name := "delaySafe", fn := fun _ => fun
  | [d1, d2, d3, d4] => { results := [.lit (.bool false)], args := [d1, d2, d3, d4] }
  | _ => none }
def DelaySafeWrongFalsely : Prop := delaySafeRow.holds Tryz.pinned (OpenSpec.ofChange delaySafeWrong)

/- THE SECOND FORM. 'bulk': how many values and letters a reading holds, each counted each time it is reached (what is shared counts as often as it is met; a slice's spare places count too). A statement '..UptoSaid' is the law's where the arguments, and the package variables that the reading takes, are together of bulk at most 1048576: NARROWER than '..Said'. Prove '..Said' where nothing that the law and all that it calls make is longer than what came in: it says more and counts as full. Else prove '..UptoSaid'. A law counts once. -/
mutual
def uptoBulk {H : Type} : DataW H → Nat
  | .lit (.string bytes) => bytes.length + 1
  | .lit _ => 1
  | .nil => 1
  | .ptr d => uptoBulk d + 1
  | .slice elems spare => uptoBulkAll elems + uptoBulkAll spare + 1
  | .agg parts => uptoBulkAll parts + 1
  | .iface _ d => uptoBulk d + 1
  | .map entries => uptoBulkEntries entries + 1
  | .held _ => 1
def uptoBulkAll {H : Type} : List (DataW H) → Nat
  | [] => 0
  | d :: r => uptoBulk d + uptoBulkAll r
def uptoBulkEntries {H : Type} : List (Lit × DataW H) → Nat
  | [] => 0
  | x :: r => uptoBulkEntry x + uptoBulkEntries r
def uptoBulkEntry {H : Type} : Lit × DataW H → Nat
  | (.string bytes, d) => bytes.length + uptoBulk d + 1
  | (_, d) => uptoBulk d + 1
 end
def uptoSmall : (H : Type) → List (DataW H) → Bool := fun _ ds => decide (uptoBulkAll ds ≤ 1048576)
def OpenSpec.upto (s : _root_.Go.ChangeSpec) : _root_.Go.OpenSpec := { _root_.Go.OpenSpec.ofChange s with cond := some uptoSmall }

/-- 'hayloftlaw18.DelayEnds', WHERE WHAT IT READS IS OF BULK AT MOST 1048576: true; the input reads as it did. -/
def delayEndsUptoRow : OpenClaim := { program := "ytcmlnemokckbdaagreatdoor", sum := "a9d543e99af6744737b38220d2cab726ca38ab0a3b80e528df170196ff25bf8a", func := "hayloft/hayloftlaw18.DelayEnds", spec := "delayEnds", unfollowed := true, recurses := true, named := ["hayloft/table.delayBounds", "hayloft/table.unitsBounds", "hayloft/table.latBounds", "hayloft/table.busyBounds"], plainKeys := false, apart := false, laid := [("hayloft/table.unitsBounds", laid_hayloft_table_unitsBounds), ("hayloft/table.latBounds", laid_hayloft_table_latBounds), ("hayloft/table.busyBounds", laid_hayloft_table_busyBounds), ("hayloft/table.delayBounds", laid_hayloft_table_delayBounds)], narrowed := true }
def DelayEndsUptoSaid : Prop := delayEndsUptoRow.holds Tryz.pinned (OpenSpec.upto delayEndsSpec)

/-- 'hayloftlaw18.DelayEarly', WHERE WHAT IT READS IS OF BULK AT MOST 1048576: true; the input reads as it did. -/
def delayEarlyUptoRow : OpenClaim := { program := "ytcmlnemokckbdaagreatdoor", sum := "a9d543e99af6744737b38220d2cab726ca38ab0a3b80e528df170196ff25bf8a", func := "hayloft/hayloftlaw18.DelayEarly", spec := "delayEarly", unfollowed := true, recurses := true, named := ["hayloft/program.ends", "hayloft/table.delayBounds", "hayloft/table.unitsBounds", "hayloft/table.latBounds", "hayloft/table.busyBounds"], plainKeys := false, apart := false, laid := [("hayloft/table.unitsBounds", laid_hayloft_table_unitsBounds), ("hayloft/table.latBounds", laid_hayloft_table_latBounds), ("hayloft/table.busyBounds", laid_hayloft_table_busyBounds), ("hayloft/table.delayBounds", laid_hayloft_table_delayBounds), ("hayloft/program.ends", laid_hayloft_program_ends)], narrowed := true }
def DelayEarlyUptoSaid : Prop := delayEarlyUptoRow.holds Tryz.pinned (OpenSpec.upto delayEarlySpec)

/-- 'hayloftlaw18.DelaySafe', WHERE WHAT IT READS IS OF BULK AT MOST 1048576: true; the input reads as it did. -/
def delaySafeUptoRow : OpenClaim := { program := "ytcmlnemokckbdaagreatdoor", sum := "a9d543e99af6744737b38220d2cab726ca38ab0a3b80e528df170196ff25bf8a", func := "hayloft/hayloftlaw18.DelaySafe", spec := "delaySafe", unfollowed := true, recurses := true, named := ["hayloft/program.ends", "hayloft/table.delayBounds", "hayloft/table.unitsBounds", "hayloft/table.latBounds", "hayloft/table.busyBounds"], plainKeys := false, apart := false, laid := [("hayloft/table.unitsBounds", laid_hayloft_table_unitsBounds), ("hayloft/table.latBounds", laid_hayloft_table_latBounds), ("hayloft/table.busyBounds", laid_hayloft_table_busyBounds), ("hayloft/table.delayBounds", laid_hayloft_table_delayBounds), ("hayloft/program.ends", laid_hayloft_program_ends)], narrowed := true }
def DelaySafeUptoSaid : Prop := delaySafeUptoRow.holds Tryz.pinned (OpenSpec.upto delaySafeSpec)

end Rows
end Go.Proofs.YtcmlnemokckbdaaGreatDoor
