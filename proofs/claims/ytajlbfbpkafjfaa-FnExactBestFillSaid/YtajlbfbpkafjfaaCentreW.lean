/- CentreLine of the program. -/
import Derived.Test.YtajlbfbpkafjfaaCentreS
import Derived.Test.YtajlbfbpkafjfaaImplLine
import Derived.Test.YtajlbfbpkafjfaaG6
namespace Go.Proofs.Ytajlbfbpkafjfaa
open Go.RowKit

set_option maxHeartbeats 400000 in
theorem validWide_any (x : Int) (w : World) : Calls Try.prog 136 #[.int .i64 x] w fun e w' => e = .returned (.bool (inB x 0 4000)) ∧ w = w' := by
  go_enter Try.func136, Try.ntmps136
  go_wp2_with (go_at_call 100; refine (between_any _ _ _ _).mono ?_; rintro e w' ⟨rfl, rfl⟩)
  go_ret
  exact ⟨rfl, rfl⟩

end Go.Proofs.Ytajlbfbpkafjfaa
