/- The document's answer on kinds of operations (Of, turns), read off the program by the walk: the chapter's table. Conditions: the kind is a number of 8 bits. -/
import Derived.Test.YtldfjlepbbmhnaaDoorKd
namespace Go.Proofs.YtldfjlepbbmhnaaDoor.Op
open Go.ChangeShapes Go.WideShapes Go.ChangeAt Go.RowKit
set_option maxRecDepth 20000

abbrev K.row (k : K) : Value := .agg #[.string k.s, .int .i64 k.cls, .bool k.D, .bool k.A, .bool k.B, .bool k.N, .bool k.I]
end Go.Proofs.YtldfjlepbbmhnaaDoor.Op
