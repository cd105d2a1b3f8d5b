/- slices.Collect of the words of a text, and WordsOf of the program. -/
import Derived.Shelf.SlIter.Collect
import Derived.Test.YtkgoceiingddoaaIter
import Derived.Test.YtkgoceiingddoaaValidText
namespace Go.Proofs
open Go Go.RowKit Go.Shelf Go.Sort
def Ytkgoceiingddoaa.zren : Go.Shelf.Ren := ⟨fun | 8 => 78 | 11 => 112 | n => n, fun | 0 => 0 | 4 => 4 | 24 => 39 | 26 => 9 | 28 => 88 | 33 => 38 | n => n, fun n => n⟩
set_option maxRecDepth 100000 in
theorem Ytkgoceiingddoaa.zlays : SlLaysZ.n8 Try.prog Ytkgoceiingddoaa.zren := {
  mixed := by kernel_rfl
  f8 := ⟨"slices.Collect[string]", by kernel_rfl, Try.func78.trans (congrArg some (by kernel_rfl))⟩
  f11 := ⟨"slices.AppendSeq[[]string,string]", by kernel_rfl, Try.func112.trans (congrArg some (by kernel_rfl))⟩
  t0 := by kernel_rfl
  a0 := Try.isAgg0
  z0 := Try.sizeOf0
  v0 := Try.zeroValue0
  t24 := Try.underlying39
  a24 := run_isAgg_plain Try.underlying39 rfl
  z24 := Try.sizeOf39
  v24 := Try.zeroValue39
  t26 := Try.underlying9
  a26 := run_isAgg_plain Try.underlying9 rfl
  z26 := Try.sizeOf9
  v26 := Try.zeroValue9
  t28 := Try.underlying88
  a28 := run_isAgg_plain Try.underlying88 rfl
  z28 := Try.sizeOf88
  v28 := Try.zeroValue88
  i26 := by kernel_rfl }
namespace Ytkgoceiingddoaa
end Ytkgoceiingddoaa
end Go.Proofs
