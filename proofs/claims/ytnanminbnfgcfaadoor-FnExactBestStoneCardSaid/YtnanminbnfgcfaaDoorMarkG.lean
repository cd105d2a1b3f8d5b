/- Marks of texts, from any number on. -/
import Derived.Test.YtnanminbnfgcfaaDoorG6
import Derived.LoopTactic
namespace Go.Proofs.YtnanminbnfgcfaaDoor
open Go.RowKit

end Go.Proofs.YtnanminbnfgcfaaDoor
