/- Marks of texts, from any number on. -/
import Derived.Test.YtkbemhjeflmppaaDoorG6
import Derived.LoopTactic
namespace Go.Proofs.YtkbemhjeflmppaaDoor
open Go.RowKit

end Go.Proofs.YtkbemhjeflmppaaDoor
