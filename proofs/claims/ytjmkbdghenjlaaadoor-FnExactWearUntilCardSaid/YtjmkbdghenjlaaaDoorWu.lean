/- WearUntil of both, as the law asks them. -/
import Derived.Test.YtjmkbdghenjlaaaDoorWuS
import Derived.Test.YtjmkbdghenjlaaaDoorWuI
namespace Go.Proofs.YtjmkbdghenjlaaaDoor
open Go Go.RowKit

theorem le_of_wf {x : Int} (h : (Lit.int .i64 x).wf = true) : x ≤ 9223372036854775807 := by
  simp [Lit.wf, IntKind.min, IntKind.max, IntKind.signed, IntKind.bits] at h; omega
theorem specWearUntil_any (R : List Nat) (hR : rok R) (x : Int) (_ : (Lit.int .i64 x).wf = true) (y : Int) (_ : (Lit.int .i64 y).wf = true) (w : World) :
    Calls Tryd.prog 15 #[.agg (rwc R).toArray, .int .i64 x, .int .i64 y] w fun e w' => e = .returned (.tuple #[.int .i64 (wuT R x y), .int .i64 (wuC R x y)]) ∧ Below w.heap.size w w' := specWearUntil_all R hR x y w
theorem implWearUntil_any (R : List Nat) (hR : rok R) (x : Int) (_ : (Lit.int .i64 x).wf = true) (y : Int) (hy : (Lit.int .i64 y).wf = true) (w : World) (hg : ErrT w) :
    Calls Tryd.prog 17 #[.agg (rwc R).toArray, .int .i64 x, .int .i64 y] w fun e w' => e = .returned (.tuple #[.int .i64 (wuT R x y), .int .i64 (wuC R x y)]) ∧ Below w.heap.size w w' := implWearUntil_all R hR x y (le_of_wf hy) w hg
end Go.Proofs.YtjmkbdghenjlaaaDoor
