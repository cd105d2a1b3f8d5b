/- Marks of texts, from any number on. -/
import Derived.Test.YtngondeaeipcfaaDoorG6
import Derived.LoopTactic
namespace Go.Proofs.YtngondeaeipcfaaDoor
open Go.RowKit

end Go.Proofs.YtngondeaeipcfaaDoor
