/- The document's answer on what an operation writes (Writes), read off the program by the walk. Conditions: each field is a number of its own width. -/
import Derived.Test.YtldfjlepbbmhnaaDoorRc
namespace Go.Proofs.YtldfjlepbbmhnaaDoor.Op
open Go.ChangeShapes Go.WideShapes Go.ChangeAt Go.RowKit
set_option maxRecDepth 20000


end Go.Proofs.YtldfjlepbbmhnaaDoor.Op
