/- The model of chapter 4: lists of words, worn words, what two of them tell, letters upside down. -/
import Derived.Test.YtjgcadohjccfaaaIvB
import Derived.LoopTactic
namespace Go.Proofs.Ytjgcadohjccfaaa
open Go.RowKit

end Go.Proofs.Ytjgcadohjccfaaa
