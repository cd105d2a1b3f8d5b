/- slices.Collect of the words of a text, and WordsOf of the program. -/
import Derived.Shelf.SlIter.Collect
import Derived.Test.YtikndeloeeppaaaIter
import Derived.Test.YtikndeloeeppaaaValidText
namespace Go.Proofs
open Go Go.RowKit Go.Shelf Go.Sort
def Ytikndeloeeppaaa.zren : Go.Shelf.Ren := ⟨fun | 8 => 149 | 11 => 190 | n => n, fun | 0 => 0 | 4 => 4 | 24 => 60 | 26 => 9 | 28 => 105 | 33 => 101 | n => n, fun n => n⟩
set_option maxRecDepth 100000 in
theorem Ytikndeloeeppaaa.zlays : SlLaysZ.n8 Try.prog Ytikndeloeeppaaa.zren := {
  mixed := by kernel_rfl
  f8 := ⟨"slices.Collect[string]", by kernel_rfl, Try.func149.trans (congrArg some (by kernel_rfl))⟩
  f11 := ⟨"slices.AppendSeq[[]string,string]", by kernel_rfl, Try.func190.trans (congrArg some (by kernel_rfl))⟩
  t0 := by kernel_rfl
  a0 := Try.isAgg0
  z0 := Try.sizeOf0
  v0 := Try.zeroValue0
  t24 := Try.underlying60
  a24 := run_isAgg_plain Try.underlying60 rfl
  z24 := Try.sizeOf60
  v24 := Try.zeroValue60
  t26 := Try.underlying9
  a26 := run_isAgg_plain Try.underlying9 rfl
  z26 := Try.sizeOf9
  v26 := Try.zeroValue9
  t28 := Try.underlying105
  a28 := run_isAgg_plain Try.underlying105 rfl
  z28 := Try.sizeOf105
  v28 := Try.zeroValue105
  i26 := by kernel_rfl }
namespace Ytikndeloeeppaaa
end Ytikndeloeeppaaa
end Go.Proofs
