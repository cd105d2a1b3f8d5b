/- The program's chapter 4: lists of words, worn words, what two of them tell. -/
import Derived.Test.YtjgcadohjccfaaaIvIA
namespace Go.Proofs.Ytjgcadohjccfaaa
open Go.RowKit

end Go.Proofs.Ytjgcadohjccfaaa
