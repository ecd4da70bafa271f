/-
  NARROWER THAN 'FOR EVERY INPUT', by the rows' own cells (each row's printed sentence says how): LiveTells: laid · LiveMeans: laid · LiveEnds: laid.
  DERIVED. THE GIVEN ROWS OF THIS SEAT. 3 by the template 'for every input the law returns true; each argument reads behind the call as it read before'; 0 by the template 'total and deterministic' (their statements: YtlinekpaffgcjaaDoorTotals.lean).
  GIVEN WITH THE SEED: the statements are not yours to turn. If you find one false, say at which input.
  Laid BY PROGRAM, IN A SANDBOX (cutbox-rows.mjs): the forced cells as the released guide's own fill.sh prints them over the translation 3cead62256eeb099… (all of the seat's roots in one cut). By AI agents, Wed Nov 11 2026. No macro, syntax, notation, axiom, sorry.
-/
import Derived.Test.YtlinekpaffgcjaaDoorChecked
import GoSem.Claim
import GoSem.ClaimJoined
import GoSem.ClaimMapViews
import Derived.JoinedTies
import Derived.KernelRfl
namespace Go.Proofs.YtlinekpaffgcjaaDoor
/- THE CELL 'sum', in the pinned program and in every row, IS THE sha256 OF THE DUMP (.gsa) THAT YtlinekpaffgcjaaDoorProg.lean LOADS. Nothing in Lean hashes anything: it is a label: what it is worth is what the hold of that sum in a sandbox is worth. -/
noncomputable def Tryd.pinned : Pinned := { name := "ytlinekpaffgcjaadoor", sum := "3cead62256eeb099883bbc34fc7050936ca17e8357ffa23efc28475b981cb5b9", checked := Tryd.checked }
namespace Rows
def none {H : Type} : Left H := { results := [], args := [] }

/- WHAT THE LISTED PACKAGE-LEVEL VARIABLES READ AS WHEN THE CALL BEGINS. Each datum BY PROGRAM (the guide's laid-datum.mjs) off the statement by which the dump's own 'gosem.cut.vars' lays the variable. In a bare row this is a premise. The card (YtlinekpaffgcjaaDoorCards.lean) ties it to the program's text. -/
def laid_hayloft_program_ends {H : Type} : DataW H := .agg [.agg [.lit (.bool false), .lit (.bool false), .lit (.bool true), .lit (.bool false)], .agg [.lit (.bool true), .lit (.bool false), .lit (.bool true), .lit (.bool true)], .agg [.lit (.bool true), .lit (.bool false), .lit (.bool false), .lit (.bool false)], .agg [.lit (.bool true), .lit (.bool true), .lit (.bool true), .lit (.bool false)]]

/-- 'hayloftlaw08.LiveTells': WHATEVER THE INPUT: true; the input reads as it did. -/
def liveTellsSpec : ChangeSpec := { name := "liveTells", fn := fun _ => fun
  | [d1, d2, d3] => { results := [.lit (.bool true)], args := [d1, d2, d3] }
  | _ => none }
def liveTellsRow : OpenClaim := { program := "ytlinekpaffgcjaadoor", sum := "3cead62256eeb099883bbc34fc7050936ca17e8357ffa23efc28475b981cb5b9", func := "hayloft/hayloftlaw08.LiveTells", spec := "liveTells", unfollowed := true, recurses := true, named := ["hayloft/program.ends"], plainKeys := false, apart := false, laid := [("hayloft/program.ends", laid_hayloft_program_ends)] }
def LiveTellsSaid : Prop := liveTellsRow.holds Tryd.pinned (OpenSpec.ofChange liveTellsSpec)

/-- ITS FALSE NEIGHBOUR: 'it returns false'. Refute it at one input. -/
def liveTellsWrong : ChangeSpec := { name := "liveTells", fn := fun _ => fun
  | [d1, d2, d3] => { results := [.lit (.bool false)], args := [d1, d2, d3] }
  | _ => none }
def LiveTellsWrongFalsely : Prop := liveTellsRow.holds Tryd.pinned (OpenSpec.ofChange liveTellsWrong)

/-- 'hayloftlaw08.LiveMeans': WHATEVER THE INPUT: true; the input reads as it did. -/
def liveMeansSpec : ChangeSpec := { name := "liveMeans", fn := fun _ => fun
  | [d1, d2, d3] => { results := [.lit (.bool true)], args := [d1, d2, d3] }
  | _ => none }
def liveMeansRow : OpenClaim := { program := "ytlinekpaffgcjaadoor", sum := "3cead62256eeb099883bbc34fc7050936ca17e8357ffa23efc28475b981cb5b9", func := "hayloft/hayloftlaw08.LiveMeans", spec := "liveMeans", unfollowed := true, recurses := true, named := ["hayloft/program.ends"], plainKeys := false, apart := false, laid := [("hayloft/program.ends", laid_hayloft_program_ends)] }
def LiveMeansSaid : Prop := liveMeansRow.holds Tryd.pinned (OpenSpec.ofChange liveMeansSpec)

/-- ITS FALSE NEIGHBOUR: 'it returns false'. Refute it at one input. -/
def liveMeansWrong : ChangeSpec := { name := "liveMeans", fn := fun _ => fun
  | [d1, d2, d3] => { results := [.lit (.bool false)], args := [d1, d2, d3] }
  | _ => none }
def LiveMeansWrongFalsely : Prop := liveMeansRow.holds Tryd.pinned (OpenSpec.ofChange liveMeansWrong)

/-- 'hayloftlaw08.LiveEnds': WHATEVER THE INPUT: true; the input reads as it did. -/
def liveEndsSpec : ChangeSpec := { name := "liveEnds", fn := fun _ => fun
  | [d1, d2] => { results := [.lit (.bool true)], args := [d1, d2] }
  | _ => none }
def liveEndsRow : OpenClaim := { program := "ytlinekpaffgcjaadoor", sum := "3cead62256eeb099883bbc34fc7050936ca17e8357ffa23efc28475b981cb5b9", func := "hayloft/hayloftlaw08.LiveEnds", spec := "liveEnds", unfollowed := true, recurses := true, named := ["hayloft/program.ends"], plainKeys := false, apart := false, laid := [("hayloft/program.ends", laid_hayloft_program_ends)] }
def LiveEndsSaid : Prop := liveEndsRow.holds Tryd.pinned (OpenSpec.ofChange liveEndsSpec)

/-- ITS FALSE NEIGHBOUR: 'it returns false'. Refute it at one input. -/
def liveEndsWrong : ChangeSpec := { name := "liveEnds", fn := fun _ => fun
  | [d1, d2] => { results := [.lit (.bool false)], args := [d1, d2] }
  | _ => none }
def LiveEndsWrongFalsely : Prop := liveEndsRow.holds Tryd.pinned (OpenSpec.ofChange liveEndsWrong)

/- THE SECOND FORM. 'bulk': how many values and letters a reading holds, each counted each time it is reached (what is shared counts as often as it is met; a slice's spare places count too). A statement '..UptoSaid' is the law's where the arguments, and the package variables that the reading takes, are together of bulk at most 1048576: NARROWER than '..Said'. Prove '..Said' where nothing that the law and all that it calls make is longer than what came in: it says more and counts as full. Else prove '..UptoSaid'. A law counts once. -/
mutual
def uptoBulk {H : Type} : DataW H → Nat
  | .lit (.string bytes) => bytes.length + 1
  | .lit _ => 1
  | .nil => 1
  | .ptr d => uptoBulk d + 1
  | .slice elems spare => uptoBulkAll elems + uptoBulkAll spare + 1
  | .agg parts => uptoBulkAll parts + 1
  | .iface _ d => uptoBulk d + 1
  | .map entries => uptoBulkEntries entries + 1
  | .held _ => 1
def uptoBulkAll {H : Type} : List (DataW H) → Nat
  | [] => 0
  | d :: r => uptoBulk d + uptoBulkAll r
def uptoBulkEntries {H : Type} : List (Lit × DataW H) → Nat
  | [] => 0
  | x :: r => uptoBulkEntry x + uptoBulkEntries r
def uptoBulkEntry {H : Type} : Lit × DataW H → Nat
  | (.string bytes, d) => bytes.length + uptoBulk d + 1
  | (_, d) => uptoBulk d + 1
 end
def uptoSmall : (H : Type) → List (DataW H) → Bool := fun _ ds => decide (uptoBulkAll ds ≤ 1048576)
def OpenSpec.upto (s : _root_.Go.ChangeSpec) : _root_.Go.OpenSpec := { _root_.Go.OpenSpec.ofChange s with cond := some uptoSmall }

/-- 'hayloftlaw08.LiveTells', WHERE WHAT IT READS IS OF BULK AT MOST 1048576: true; the input reads as it did. -/
def liveTellsUptoRow : OpenClaim := { program := "ytlinekpaffgcjaadoor", sum := "3cead62256eeb099883bbc34fc7050936ca17e8357ffa23efc28475b981cb5b9", func := "hayloft/hayloftlaw08.LiveTells", spec := "liveTells", unfollowed := true, recurses := true, named := ["hayloft/program.ends"], plainKeys := false, apart := false, laid := [("hayloft/program.ends", laid_hayloft_program_ends)], narrowed := true }
def LiveTellsUptoSaid : Prop := liveTellsUptoRow.holds Tryd.pinned (OpenSpec.upto liveTellsSpec)

/-- 'hayloftlaw08.LiveMeans', WHERE WHAT IT READS IS OF BULK AT MOST 1048576: true; the input reads as it did. -/
def liveMeansUptoRow : OpenClaim := { program := "ytlinekpaffgcjaadoor", sum := "3cead62256eeb099883bbc34fc7050936ca17e8357ffa23efc28475b981cb5b9", func := "hayloft/hayloftlaw08.LiveMeans", spec := "liveMeans", unfollowed := true, recurses := true, named := ["hayloft/program.ends"], plainKeys := false, apart := false, laid := [("hayloft/program.ends", laid_hayloft_program_ends)], narrowed := true }
def LiveMeansUptoSaid : Prop := liveMeansUptoRow.holds Tryd.pinned (OpenSpec.upto liveMeansSpec)

/-- 'hayloftlaw08.LiveEnds', WHERE WHAT IT READS IS OF BULK AT MOST 1048576: true; the input reads as it did. -/
def liveEndsUptoRow : OpenClaim := { program := "ytlinekpaffgcjaadoor", sum := "3cead62256eeb099883bbc34fc7050936ca17e8357ffa23efc28475b981cb5b9", func := "hayloft/hayloftlaw08.LiveEnds", spec := "liveEnds", unfollowed := true, recurses := true, named := ["hayloft/program.ends"], plainKeys := false, apart := false, laid := [("hayloft/program.ends", laid_hayloft_program_ends)], narrowed := true }
def LiveEndsUptoSaid : Prop := liveEndsUptoRow.holds Tryd.pinned (OpenSpec.upto liveEndsSpec)

end Rows
end Go.Proofs.YtlinekpaffgcjaaDoor
