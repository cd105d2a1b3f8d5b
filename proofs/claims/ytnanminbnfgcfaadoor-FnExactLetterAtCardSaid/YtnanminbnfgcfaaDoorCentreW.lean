/- CentreLine of the program. -/
import Derived.Test.YtnanminbnfgcfaaDoorCentreS
import Derived.Test.YtnanminbnfgcfaaDoorImplLine
import Derived.Test.YtnanminbnfgcfaaDoorG6
namespace Go.Proofs.YtnanminbnfgcfaaDoor
open Go.RowKit

end Go.Proofs.YtnanminbnfgcfaaDoor
