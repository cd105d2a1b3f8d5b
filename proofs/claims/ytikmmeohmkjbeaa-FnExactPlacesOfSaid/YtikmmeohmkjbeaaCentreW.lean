/- CentreLine of the program. -/
import Derived.Test.YtikmmeohmkjbeaaCentreS
import Derived.Test.YtikmmeohmkjbeaaImplLine
import Derived.Test.YtikmmeohmkjbeaaG6
namespace Go.Proofs.Ytikmmeohmkjbeaa
open Go.RowKit

set_option maxHeartbeats 400000 in
theorem validWide_any (x : Int) (w : World) : Calls Try.prog 144 #[.int .i64 x] w fun e w' => e = .returned (.bool (inB x 0 4000)) ∧ w = w' := by
  go_enter Try.func144, Try.ntmps144
  go_wp2_with (go_at_call 97; refine (between_any _ _ _ _).mono ?_; rintro e w' ⟨rfl, rfl⟩)
  go_ret
  exact ⟨rfl, rfl⟩

end Go.Proofs.Ytikmmeohmkjbeaa
