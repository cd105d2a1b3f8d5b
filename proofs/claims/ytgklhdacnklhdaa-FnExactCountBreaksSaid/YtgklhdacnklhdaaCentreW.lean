/- CentreLine of the program. -/
import Derived.Test.YtgklhdacnklhdaaCentreS
import Derived.Test.YtgklhdacnklhdaaImplLine
import Derived.Test.YtgklhdacnklhdaaG6
namespace Go.Proofs.Ytgklhdacnklhdaa
open Go.RowKit

set_option maxHeartbeats 400000 in
theorem validWide_any (x : Int) (w : World) : Calls Try.prog 142 #[.int .i64 x] w fun e w' => e = .returned (.bool (inB x 0 4000)) ∧ w = w' := by
  go_enter Try.func142, Try.ntmps142
  go_wp2_with (go_at_call 121; refine (between_any _ _ _ _).mono ?_; rintro e w' ⟨rfl, rfl⟩)
  go_ret
  exact ⟨rfl, rfl⟩

end Go.Proofs.Ytgklhdacnklhdaa
