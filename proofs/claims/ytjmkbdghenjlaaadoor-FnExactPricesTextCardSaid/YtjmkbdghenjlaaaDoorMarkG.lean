/- Marks of texts, from any number on. -/
import Derived.Test.YtjmkbdghenjlaaaDoorG6
import Derived.LoopTactic
namespace Go.Proofs.YtjmkbdghenjlaaaDoor
open Go.RowKit

end Go.Proofs.YtjmkbdghenjlaaaDoor
