/- The library's number that strings.Contains and its like read. -/
import Derived.Test.YtjgcadohjccfaaaG1
namespace Go.Proofs.Ytjgcadohjccfaaa
open Go.RowKit

/-- internal/bytealg.MaxLen holds some number. -/
def Glob (w : World) : Prop := ∃ m, w.cell? ⟨0, 0, none⟩ = some (.int .i64 m)
theorem Glob.lt {w : World} (h : Glob w) : 0 < w.heap.size := by obtain ⟨m, hm⟩ := h; exact World.block_lt_of_cell? w _ hm
theorem Glob.below {w w' : World} (h : Glob w) (hb : Below w.heap.size w w') : Glob w' := by
  have hl := h.lt
  obtain ⟨m, hm⟩ := h
  exact ⟨m, (hb.cell (p := ⟨0, 0, none⟩) hl).trans hm⟩
end Go.Proofs.Ytjgcadohjccfaaa
