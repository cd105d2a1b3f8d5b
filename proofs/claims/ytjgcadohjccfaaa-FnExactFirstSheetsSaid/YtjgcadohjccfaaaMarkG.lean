/- Marks of texts, from any number on. -/
import Derived.Test.YtjgcadohjccfaaaG6
import Derived.LoopTactic
namespace Go.Proofs.Ytjgcadohjccfaaa
open Go.RowKit

end Go.Proofs.Ytjgcadohjccfaaa
