/- The program's chapter 4: all of a list, all bytes of a text; lists of words, worn words. -/
import Derived.Test.YtjgcadohjccfaaaIvP
import Derived.LoopTactic
import Derived.Shelf.Abstract
namespace Go.Proofs.Ytjgcadohjccfaaa
open Go.RowKit

end Go.Proofs.Ytjgcadohjccfaaa
