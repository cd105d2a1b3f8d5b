/- CentreLine of the program. -/
import Derived.Test.YtjgcadohjccfaaaCentreS
import Derived.Test.YtjgcadohjccfaaaImplLine
import Derived.Test.YtjgcadohjccfaaaG6
namespace Go.Proofs.Ytjgcadohjccfaaa
open Go.RowKit

end Go.Proofs.Ytjgcadohjccfaaa
