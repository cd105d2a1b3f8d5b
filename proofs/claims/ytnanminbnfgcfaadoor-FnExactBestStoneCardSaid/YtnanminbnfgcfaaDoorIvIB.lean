/- The program's chapter 4: lists of words, worn words, what two of them tell. -/
import Derived.Test.YtnanminbnfgcfaaDoorIvIA
namespace Go.Proofs.YtnanminbnfgcfaaDoor
open Go.RowKit

end Go.Proofs.YtnanminbnfgcfaaDoor
