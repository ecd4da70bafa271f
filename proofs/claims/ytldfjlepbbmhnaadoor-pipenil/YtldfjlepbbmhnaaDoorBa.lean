/- The rounds of the document's own loops (a bit after another), in the spelling of the walk. Conditions: each lemma names the bounds of its numbers. -/
import Derived.Test.YtldfjlepbbmhnaaDoorForms
namespace Go.Proofs.YtldfjlepbbmhnaaDoor.Op
open Go.RowKit

end Go.Proofs.YtldfjlepbbmhnaaDoor.Op
