/- ValidText: the model and the program give the same answer for every text. -/
import Derived.Test.YtikndeloeeppaaaSpecText
import Derived.Test.YtikndeloeeppaaaImplText
namespace Go.Proofs.Ytikndeloeeppaaa
open Go.RowKit

end Go.Proofs.Ytikndeloeeppaaa
