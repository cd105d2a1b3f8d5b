/- Marks of texts, from any number on. -/
import Derived.Test.YtngondeaeipcfaaGreatDoorG6
import Derived.LoopTactic
namespace Go.Proofs.YtngondeaeipcfaaGreatDoor
open Go.RowKit

end Go.Proofs.YtngondeaeipcfaaGreatDoor
