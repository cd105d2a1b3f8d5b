/- A list of rubbings that came in. -/
import Derived.Test.YtjmkbdghenjlaaaDoorOpenRub
import Derived.Test.YtjmkbdghenjlaaaDoorOpenRows
import Derived.Test.YtjmkbdghenjlaaaDoorWoI
import Derived.ChangeSame
namespace Go.Proofs.YtjmkbdghenjlaaaDoor
open Go.ChangeShapes Go.WideShapes Go.ChangeAt Go.RowKit Go.Deep

section
variable {H : Type} {enc : TypeId × Value → H} {w : World} {base : Nat} {spare : Nat → Bool} {held : Bool}
set_option maxRecDepth 100000 in
theorem open_rubbings {r : Reach} {b0 : Nat} {v : Value} {d : DataW H} {p : List MemPlace} (hv : Value.okWide Tryd.prog w r b0 22 v) (h : DataW.Trod enc Tryd.prog w base spare held 22 v d p) :
    ∃ (A : Option Addr) (xs : List (List Nat)) (c : Nat), v = .slice A xs.length c ∧ xs.length ≤ maxLen ∧ (∀ x ∈ xs, rok x) ∧ RbsAt w w.heap.size A xs := by
  obtain ⟨a0, len0, cap0, rfl⟩ := okWide_slice Tryd.underlying22 hv
  obtain ⟨fuel, hf⟩ := h
  change DataW.trod enc Tryd.prog w base spare held fuel 22 [.slice a0 len0 cap0] = _ at hf
  obtain ⟨A, xs, cp, h1, h2, h3, h4⟩ := open_rows (z := 8) (c := rwc8) (ok := rok) Tryd.underlying22 (by kernel_rfl) (by omega) (fun _ => by simp [rwc8]) (fun f cs' y h => by
    obtain ⟨zs, m, _, _, hal, _, _⟩ := DataW.trod_array Tryd.underlying25 h
    have h8 : cs'.length = 8 := by rw [hal]; kernel_rfl
    obtain ⟨R, rfl, hR⟩ := open_rubCells h8 h
    exact ⟨R, (rwc8_eq hR.1).symm, hR⟩) hf
  injection h1 with h1
  exact ⟨A, xs, cp, h1, h2, h3, rbs_of8 h3 h4⟩
end
end Go.Proofs.YtjmkbdghenjlaaaDoor
