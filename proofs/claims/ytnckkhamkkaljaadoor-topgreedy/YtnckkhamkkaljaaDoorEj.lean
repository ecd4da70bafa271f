/- The dependences from round to round (acrossRounds), read off the program by the walk. Conditions: the finder and the list lie in memory. -/
import Derived.Test.YtnckkhamkkaljaaDoorEi
namespace Go.Proofs.YtnckkhamkkaljaaDoor.Dp
open Go.ChangeShapes Go.WideShapes Go.ChangeAt Go.RowKit
open _root_.Go.Proofs.YtnckkhamkkaljaaDoor.Op _root_.Go.Proofs.YtnckkhamkkaljaaDoor.So
open _root_.Go.Proofs.YtnckkhamkkaljaaDoor.Al (meetB roundB meet_any)
set_option maxRecDepth 20000

end Go.Proofs.YtnckkhamkkaljaaDoor.Dp
