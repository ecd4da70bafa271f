/- What the document's own Put, Get and Signed answer, read off its loops by the walk. Conditions: the words are from 0 to 2^64 - 1. -/
import Derived.Test.YtldfjlepbbmhnaaDoorForms
import Derived.Test.YtldfjlepbbmhnaaDoorBc
namespace Go.Proofs.YtldfjlepbbmhnaaDoor.Op
open Go.RowKit

end Go.Proofs.YtldfjlepbbmhnaaDoor.Op
namespace Go.Proofs.YtldfjlepbbmhnaaDoor.Op
open Go.ChangeShapes Go.WideShapes Go.ChangeAt Go.RowKit

end Go.Proofs.YtldfjlepbbmhnaaDoor.Op
