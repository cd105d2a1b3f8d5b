/- Marks of texts, from any number on. -/
import Derived.Test.YtjmkbdghenjlaaaG6
import Derived.LoopTactic
namespace Go.Proofs.Ytjmkbdghenjlaaa
open Go.RowKit

end Go.Proofs.Ytjmkbdghenjlaaa
