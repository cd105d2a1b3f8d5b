/- Marks of texts, from any number on. -/
import Derived.Test.YtcbijfbeapeliaaG6
import Derived.LoopTactic
namespace Go.Proofs.Ytcbijfbeapeliaa
open Go.RowKit

end Go.Proofs.Ytcbijfbeapeliaa
