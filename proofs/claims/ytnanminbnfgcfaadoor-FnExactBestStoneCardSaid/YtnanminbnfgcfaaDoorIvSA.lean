/- The model of chapter 4: lists of words, worn words, what two of them tell, letters upside down. -/
import Derived.Test.YtnanminbnfgcfaaDoorIvP
import Derived.LoopTactic
namespace Go.Proofs.YtnanminbnfgcfaaDoor
open Go.RowKit

end Go.Proofs.YtnanminbnfgcfaaDoor
