/- A program that is copied lies in rows of its own. Read off the program by the walk. Conditions: the program lies in memory; no list is great. -/
import Derived.Test.YtddcndlogoajkaaDoorQCw
namespace Go.Proofs.YtddcndlogoajkaaDoor.L8.Op
open Go.ChangeShapes Go.WideShapes Go.ChangeAt Go.RowKit
set_option maxRecDepth 20000

end Go.Proofs.YtddcndlogoajkaaDoor.L8.Op
