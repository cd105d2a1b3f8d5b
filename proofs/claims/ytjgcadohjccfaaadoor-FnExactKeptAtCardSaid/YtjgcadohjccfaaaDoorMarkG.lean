/- Marks of texts, from any number on. -/
import Derived.Test.YtjgcadohjccfaaaDoorG6
import Derived.LoopTactic
namespace Go.Proofs.YtjgcadohjccfaaaDoor
open Go.RowKit

end Go.Proofs.YtjgcadohjccfaaaDoor
