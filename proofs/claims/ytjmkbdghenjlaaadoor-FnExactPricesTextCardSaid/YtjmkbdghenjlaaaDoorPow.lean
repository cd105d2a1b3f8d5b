/- What the row of PricesText tells of the library's table of powers of ten. -/
import Derived.Test.YtjmkbdghenjlaaaDoorPt
import Derived.Test.YtjmkbdghenjlaaaDoorRows
import Derived.LaidLaws
import Derived.LaidHandle
import Derived.LaidSub
import Derived.LaidMore
import Derived.Lay
import Derived.Lib.LaidTab
import Derived.Stop.Joined
namespace Go.Proofs.YtjmkbdghenjlaaaDoor
open Go Go.RowKit

theorem pow_of_laid {W : World} (h : laidMetH Tryd.prog Rows.fnExactPricesTextRow.laid W) : PowT W := by
  have h1 := laidMetH.filter (fun x => x.1 == "internal/strconv.uint64pow10") h
  have e : Rows.fnExactPricesTextRow.laid.filter (fun x => x.1 == "internal/strconv.uint64pow10") = [("internal/strconv.uint64pow10", Rows.laid_internal_strconv_uint64pow10)] := by
    simp [Rows.fnExactPricesTextRow]
  rw [e, MakeChecks.laidMetH_plain _ _ _ (by kernel_rfl)] at h1
  exact Lib.tabIs_of_head pow_named (by kernel_rfl) Tryd.underlying254 Tryd.underlying235 (by kernel_rfl) (by kernel_rfl) h1
end Go.Proofs.YtjmkbdghenjlaaaDoor
