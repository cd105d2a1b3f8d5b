/- The model of chapter 4: lists of words, worn words, what two of them tell, letters upside down. -/
import Derived.Test.YtngondeaeipcfaaDoorIvB
import Derived.LoopTactic
namespace Go.Proofs.YtngondeaeipcfaaDoor
open Go.RowKit

end Go.Proofs.YtngondeaeipcfaaDoor
