/- Marks of texts, from any number on. -/
import Derived.Test.YtcbijfbeapeliaaDoorG6
import Derived.LoopTactic
namespace Go.Proofs.YtcbijfbeapeliaaDoor
open Go.RowKit

end Go.Proofs.YtcbijfbeapeliaaDoor
