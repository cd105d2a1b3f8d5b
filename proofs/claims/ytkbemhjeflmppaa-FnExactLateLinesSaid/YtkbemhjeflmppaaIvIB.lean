/- The program's chapter 4: lists of words, worn words, what two of them tell. -/
import Derived.Test.YtkbemhjeflmppaaIvIA
namespace Go.Proofs.Ytkbemhjeflmppaa
open Go.RowKit

end Go.Proofs.Ytkbemhjeflmppaa
