/-
  NARROWER THAN 'FOR EVERY INPUT', by the rows' own cells (each row's printed sentence says how): ReservePlays: laid · ReserveNil: laid · ReserveCounts: laid · ReserveWide: laid.
  DERIVED. THE GIVEN ROWS OF THIS SEAT. 4 by the template 'for every input the law returns true; each argument reads behind the call as it read before'; 0 by the template 'total and deterministic' (their statements: YthjnegdgpnbkkaaDoorTotals.lean).
  GIVEN WITH THE SEED: the statements are not yours to turn. If you find one false, say at which input.
  Laid BY PROGRAM, IN A SANDBOX (cutbox-rows.mjs): the forced cells as the released guide's own fill.sh prints them over the translation edb5059d6a3751ae… (all of the seat's roots in one cut). By AI agents, Wed Nov 11 2026. No macro, syntax, notation, axiom, sorry.
-/
import Derived.Test.YthjnegdgpnbkkaaDoorChecked
import GoSem.Claim
import GoSem.ClaimJoined
import GoSem.ClaimMapViews
import Derived.JoinedTies
import Derived.KernelRfl
namespace Go.Proofs.YthjnegdgpnbkkaaDoor
/- THE CELL 'sum', in the pinned program and in every row, IS THE sha256 OF THE DUMP (.gsa) THAT YthjnegdgpnbkkaaDoorProg.lean LOADS. Nothing in Lean hashes anything: it is a label: what it is worth is what the hold of that sum in a sandbox is worth. -/
noncomputable def Tryd.pinned : Pinned := { name := "ythjnegdgpnbkkaadoor", sum := "edb5059d6a3751ae262f81c675b70cc69154681a6bf7a72069d2ce39821a85f8", checked := Tryd.checked }
namespace Rows
def none {H : Type} : Left H := { results := [], args := [] }

/- WHAT THE LISTED PACKAGE-LEVEL VARIABLES READ AS WHEN THE CALL BEGINS. Each datum BY PROGRAM (the guide's laid-datum.mjs) off the statement by which the dump's own 'gosem.cut.vars' lays the variable. In a bare row this is a premise. The card (YthjnegdgpnbkkaaDoorCards.lean) ties it to the program's text. -/
def laid_hayloft_table_unitsBounds {H : Type} : DataW H := .agg [.lit (.int .i64 0), .lit (.int .i64 8)]
def laid_hayloft_table_latBounds {H : Type} : DataW H := .agg [.lit (.int .i64 1), .lit (.int .i64 8)]
def laid_hayloft_table_busyBounds {H : Type} : DataW H := .agg [.lit (.int .i64 1), .lit (.int .i64 4)]
def laid_hayloft_table_delayBounds {H : Type} : DataW H := .agg [.lit (.int .i64 0), .lit (.int .i64 4)]

/-- 'hayloftlaw13.ReservePlays': WHATEVER THE INPUT: true; the input reads as it did. -/
def reservePlaysSpec : ChangeSpec := { name := "reservePlays", fn := fun _ => fun
  | [d1, d2, d3, d4] => { results := [.lit (.bool true)], args := [d1, d2, d3, d4] }
  | _ => none }
def reservePlaysRow : OpenClaim := { program := "ythjnegdgpnbkkaadoor", sum := "edb5059d6a3751ae262f81c675b70cc69154681a6bf7a72069d2ce39821a85f8", func := "hayloft/hayloftlaw13.ReservePlays", spec := "reservePlays", unfollowed := true, recurses := true, named := ["hayloft/table.delayBounds", "hayloft/table.unitsBounds", "hayloft/table.latBounds", "hayloft/table.busyBounds"], plainKeys := false, apart := false, laid := [("hayloft/table.unitsBounds", laid_hayloft_table_unitsBounds), ("hayloft/table.latBounds", laid_hayloft_table_latBounds), ("hayloft/table.busyBounds", laid_hayloft_table_busyBounds), ("hayloft/table.delayBounds", laid_hayloft_table_delayBounds)] }
def ReservePlaysSaid : Prop := reservePlaysRow.holds Tryd.pinned (OpenSpec.ofChange reservePlaysSpec)

/-- ITS FALSE NEIGHBOUR: 'it returns false'. Refute it at one input. -/
def reservePlaysWrong : ChangeSpec := { name := "reservePlays", fn := fun _ => fun
  | [d1, d2, d3, d4] => { results := [.lit (.bool false)], args := [d1, d2, d3, d4] }
  | _ => none }
def ReservePlaysWrongFalsely : Prop := reservePlaysRow.holds Tryd.pinned (OpenSpec.ofChange reservePlaysWrong)

/-- 'hayloftlaw13.ReserveNil': WHATEVER THE INPUT: true; the input reads as it did. -/
def reserveNilSpec : ChangeSpec := { name := "reserveNil", fn := fun _ => fun
  | [d1, d2] => { results := [.lit (.bool true)], args := [d1, d2] }
  | _ => none }
def reserveNilRow : OpenClaim := { program := "ythjnegdgpnbkkaadoor", sum := "edb5059d6a3751ae262f81c675b70cc69154681a6bf7a72069d2ce39821a85f8", func := "hayloft/hayloftlaw13.ReserveNil", spec := "reserveNil", unfollowed := true, recurses := true, named := ["hayloft/table.delayBounds", "hayloft/table.unitsBounds", "hayloft/table.latBounds", "hayloft/table.busyBounds"], plainKeys := false, apart := false, laid := [("hayloft/table.unitsBounds", laid_hayloft_table_unitsBounds), ("hayloft/table.latBounds", laid_hayloft_table_latBounds), ("hayloft/table.busyBounds", laid_hayloft_table_busyBounds), ("hayloft/table.delayBounds", laid_hayloft_table_delayBounds)] }
def ReserveNilSaid : Prop := reserveNilRow.holds Tryd.pinned (OpenSpec.ofChange reserveNilSpec)

/-- ITS FALSE NEIGHBOUR: 'it returns false'. Refute it at one input. -/
def reserveNilWrong : ChangeSpec := { name := "reserveNil", fn := fun _ => fun
  | [d1, d2] => { results := [.lit (.bool false)], args := [d1, d2] }
  | _ => none }
def ReserveNilWrongFalsely : Prop := reserveNilRow.holds Tryd.pinned (OpenSpec.ofChange reserveNilWrong)

/-- 'hayloftlaw13.ReserveCounts': WHATEVER THE INPUT: true; the input reads as it did. -/
def reserveCountsSpec : ChangeSpec := { name := "reserveCounts", fn := fun _ => fun
  | [d1, d2, d3] => { results := [.lit (.bool true)], args := [d1, d2, d3] }
  | _ => none }
def reserveCountsRow : OpenClaim := { program := "ythjnegdgpnbkkaadoor", sum := "edb5059d6a3751ae262f81c675b70cc69154681a6bf7a72069d2ce39821a85f8", func := "hayloft/hayloftlaw13.ReserveCounts", spec := "reserveCounts", unfollowed := true, recurses := true, named := ["hayloft/table.delayBounds", "hayloft/table.unitsBounds", "hayloft/table.latBounds", "hayloft/table.busyBounds"], plainKeys := false, apart := false, laid := [("hayloft/table.unitsBounds", laid_hayloft_table_unitsBounds), ("hayloft/table.latBounds", laid_hayloft_table_latBounds), ("hayloft/table.busyBounds", laid_hayloft_table_busyBounds), ("hayloft/table.delayBounds", laid_hayloft_table_delayBounds)] }
def ReserveCountsSaid : Prop := reserveCountsRow.holds Tryd.pinned (OpenSpec.ofChange reserveCountsSpec)

/-- ITS FALSE NEIGHBOUR: 'it returns false'. Refute it at one input. -/
def reserveCountsWrong : ChangeSpec := { name := "reserveCounts", fn := fun _ => fun
  | [d1, d2, d3] => { results := [.lit (.bool false)], args := [d1, d2, d3] }
  | _ => none }
def ReserveCountsWrongFalsely : Prop := reserveCountsRow.holds Tryd.pinned (OpenSpec.ofChange reserveCountsWrong)

/-- 'hayloftlaw13.ReserveWide': WHATEVER THE INPUT: true; the input reads as it did. -/
def reserveWideSpec : ChangeSpec := { name := "reserveWide", fn := fun _ => fun
  | [d1, d2] => { results := [.lit (.bool true)], args := [d1, d2] }
  | _ => none }
def reserveWideRow : OpenClaim := { program := "ythjnegdgpnbkkaadoor", sum := "edb5059d6a3751ae262f81c675b70cc69154681a6bf7a72069d2ce39821a85f8", func := "hayloft/hayloftlaw13.ReserveWide", spec := "reserveWide", unfollowed := true, recurses := true, named := ["hayloft/table.delayBounds", "hayloft/table.unitsBounds", "hayloft/table.latBounds", "hayloft/table.busyBounds"], plainKeys := false, apart := false, laid := [("hayloft/table.unitsBounds", laid_hayloft_table_unitsBounds), ("hayloft/table.latBounds", laid_hayloft_table_latBounds), ("hayloft/table.busyBounds", laid_hayloft_table_busyBounds), ("hayloft/table.delayBounds", laid_hayloft_table_delayBounds)] }
def ReserveWideSaid : Prop := reserveWideRow.holds Tryd.pinned (OpenSpec.ofChange reserveWideSpec)

/-- ITS FALSE NEIGHBOUR: 'it returns false'. Refute it at one input. -/
def reserveWideWrong : ChangeSpec := { name := "reserveWide", fn := fun _ => fun
  | [d1, d2] => { results := [.lit (.bool false)], args := [d1, d2] }
  | _ => none }
def ReserveWideWrongFalsely : Prop := reserveWideRow.holds Tryd.pinned (OpenSpec.ofChange reserveWideWrong)

/- THE SECOND FORM. 'bulk': how many values and letters a reading holds, each counted each time it is reached (what is shared counts as often as it is met; a slice's spare places count too). A statement '..UptoSaid' is the law's where the arguments, and the package variables that the reading takes, are together of bulk at most 1048576: NARROWER than '..Said'. Prove '..Said' where nothing that the law and all that it calls make is longer than what came in: it says more and counts as full. Else prove '..UptoSaid'. A law counts once. -/
mutual
def uptoBulk {H : Type} : DataW H → Nat
  | .lit (.string bytes) => bytes.length + 1
  | .lit _ => 1
  | .nil => 1
  | .ptr d => uptoBulk d + 1
  | .slice elems spare => uptoBulkAll elems + uptoBulkAll spare + 1
  | .agg parts => uptoBulkAll parts + 1
  | .iface _ d => uptoBulk d + 1
  | .map entries => uptoBulkEntries entries + 1
  | .held _ => 1
def uptoBulkAll {H : Type} : List (DataW H) → Nat
  | [] => 0
  | d :: r => uptoBulk d + uptoBulkAll r
def uptoBulkEntries {H : Type} : List (Lit × DataW H) → Nat
  | [] => 0
  | x :: r => uptoBulkEntry x + uptoBulkEntries r
def uptoBulkEntry {H : Type} : Lit × DataW H → Nat
  | (.string bytes, d) => bytes.length + uptoBulk d + 1
  | (_, d) => uptoBulk d + 1
 end
def uptoSmall : (H : Type) → List (DataW H) → Bool := fun _ ds => decide (uptoBulkAll ds ≤ 1048576)
def OpenSpec.upto (s : _root_.Go.ChangeSpec) : _root_.Go.OpenSpec := { _root_.Go.OpenSpec.ofChange s with cond := some uptoSmall }

/-- 'hayloftlaw13.ReservePlays', WHERE WHAT IT READS IS OF BULK AT MOST 1048576: true; the input reads as it did. -/
def reservePlaysUptoRow : OpenClaim := { program := "ythjnegdgpnbkkaadoor", sum := "edb5059d6a3751ae262f81c675b70cc69154681a6bf7a72069d2ce39821a85f8", func := "hayloft/hayloftlaw13.ReservePlays", spec := "reservePlays", unfollowed := true, recurses := true, named := ["hayloft/table.delayBounds", "hayloft/table.unitsBounds", "hayloft/table.latBounds", "hayloft/table.busyBounds"], plainKeys := false, apart := false, laid := [("hayloft/table.unitsBounds", laid_hayloft_table_unitsBounds), ("hayloft/table.latBounds", laid_hayloft_table_latBounds), ("hayloft/table.busyBounds", laid_hayloft_table_busyBounds), ("hayloft/table.delayBounds", laid_hayloft_table_delayBounds)], narrowed := true }
def ReservePlaysUptoSaid : Prop := reservePlaysUptoRow.holds Tryd.pinned (OpenSpec.upto reservePlaysSpec)

/-- 'hayloftlaw13.ReserveNil', WHERE WHAT IT READS IS OF BULK AT MOST 1048576: true; the input reads as it did. -/
def reserveNilUptoRow : OpenClaim := { program := "ythjnegdgpnbkkaadoor", sum := "edb5059d6a3751ae262f81c675b70cc69154681a6bf7a72069d2ce39821a85f8", func := "hayloft/hayloftlaw13.ReserveNil", spec := "reserveNil", unfollowed := true, recurses := true, named := ["hayloft/table.delayBounds", "hayloft/table.unitsBounds", "hayloft/table.latBounds", "hayloft/table.busyBounds"], plainKeys := false, apart := false, laid := [("hayloft/table.unitsBounds", laid_hayloft_table_unitsBounds), ("hayloft/table.latBounds", laid_hayloft_table_latBounds), ("hayloft/table.busyBounds", laid_hayloft_table_busyBounds), ("hayloft/table.delayBounds", laid_hayloft_table_delayBounds)], narrowed := true }
def ReserveNilUptoSaid : Prop := reserveNilUptoRow.holds Tryd.pinned (OpenSpec.upto reserveNilSpec)

/-- 'hayloftlaw13.ReserveCounts', WHERE WHAT IT READS IS OF BULK AT MOST 1048576: true; the input reads as it did. -/
def reserveCountsUptoRow : OpenClaim := { program := "ythjnegdgpnbkkaadoor", sum := "edb5059d6a3751ae262f81c675b70cc69154681a6bf7a72069d2ce39821a85f8", func := "hayloft/hayloftlaw13.ReserveCounts", spec := "reserveCounts", unfollowed := true, recurses := true, named := ["hayloft/table.delayBounds", "hayloft/table.unitsBounds", "hayloft/table.latBounds", "hayloft/table.busyBounds"], plainKeys := false, apart := false, laid := [("hayloft/table.unitsBounds", laid_hayloft_table_unitsBounds), ("hayloft/table.latBounds", laid_hayloft_table_latBounds), ("hayloft/table.busyBounds", laid_hayloft_table_busyBounds), ("hayloft/table.delayBounds", laid_hayloft_table_delayBounds)], narrowed := true }
def ReserveCountsUptoSaid : Prop := reserveCountsUptoRow.holds Tryd.pinned (OpenSpec.upto reserveCountsSpec)

/-- 'hayloftlaw13.ReserveWide', WHERE WHAT IT READS IS OF BULK AT MOST 1048576: true; the input reads as it did. -/
def reserveWideUptoRow : OpenClaim := { program := "ythjnegdgpnbkkaadoor", sum := "edb5059d6a3751ae262f81c675b70cc69154681a6bf7a72069d2ce39821a85f8", func := "hayloft/hayloftlaw13.ReserveWide", spec := "reserveWide", unfollowed := true, recurses := true, named := ["hayloft/table.delayBounds", "hayloft/table.unitsBounds", "hayloft/table.latBounds", "hayloft/table.busyBounds"], plainKeys := false, apart := false, laid := [("hayloft/table.unitsBounds", laid_hayloft_table_unitsBounds), ("hayloft/table.latBounds", laid_hayloft_table_latBounds), ("hayloft/table.busyBounds", laid_hayloft_table_busyBounds), ("hayloft/table.delayBounds", laid_hayloft_table_delayBounds)], narrowed := true }
def ReserveWideUptoSaid : Prop := reserveWideUptoRow.holds Tryd.pinned (OpenSpec.upto reserveWideSpec)

end Rows
end Go.Proofs.YthjnegdgpnbkkaaDoor
