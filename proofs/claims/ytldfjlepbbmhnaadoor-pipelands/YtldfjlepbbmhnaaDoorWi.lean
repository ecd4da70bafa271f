/- Whether two lists of bundles are the same (the law's own Same), read off the program by the walk. Conditions: both lie in memory. -/
import Derived.Test.YtldfjlepbbmhnaaDoorWh
namespace Go.Proofs.YtldfjlepbbmhnaaDoor.Bu
open Go.ChangeShapes Go.WideShapes Go.ChangeAt Go.RowKit
open _root_.Go.Proofs.YtldfjlepbbmhnaaDoor.Op
open _root_.Go.Proofs.YtldfjlepbbmhnaaDoor.Tb (Tab TabAt Bnds four tabAt_new ckR)
open _root_.Go.Proofs.YtldfjlepbbmhnaaDoor.So
set_option maxRecDepth 20000

end Go.Proofs.YtldfjlepbbmhnaaDoor.Bu
