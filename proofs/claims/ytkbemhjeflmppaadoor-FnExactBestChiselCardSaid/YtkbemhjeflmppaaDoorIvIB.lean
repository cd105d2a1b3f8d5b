/- The program's chapter 4: lists of words, worn words, what two of them tell. -/
import Derived.Test.YtkbemhjeflmppaaDoorIvIA
namespace Go.Proofs.YtkbemhjeflmppaaDoor
open Go.RowKit

end Go.Proofs.YtkbemhjeflmppaaDoor
