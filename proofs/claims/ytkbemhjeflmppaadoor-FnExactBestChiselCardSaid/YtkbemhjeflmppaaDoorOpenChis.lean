/- A list of chisels that came in. -/
import Derived.Test.YtkbemhjeflmppaaDoorChis
import Derived.Test.YtkbemhjeflmppaaDoorOpenRows
import Derived.Test.YtkbemhjeflmppaaDoorOpenChi
import Derived.ChangeSame
namespace Go.Proofs.YtkbemhjeflmppaaDoor
open Go.ChangeShapes Go.WideShapes Go.ChangeAt Go.RowKit Go.Deep

section
variable {H : Type} {enc : TypeId × Value → H} {w : World} {base : Nat} {spare : Nat → Bool} {held : Bool}
set_option maxRecDepth 100000 in
theorem open_chiselCells {fuel : Nat} {cs : List Value} {x : DataW H × List MemPlace} (h : DataW.trod enc Tryd.prog w base spare held fuel 31 cs = some x) : ∃ p, cs = chc p ∧ chok p := by
  obtain ⟨y0, y1, n, _, hl, h0, h1⟩ := trod_struct2 Tryd.underlying31 h
  have hC : Tryd.prog.cellsOf 31 = 2 := by kernel_rfl
  have hc5 : Tryd.prog.cellsOf 29 = 1 := by kernel_rfl
  have hc24 : Tryd.prog.cellsOf 22 = 1 := by kernel_rfl
  rw [hC] at hl
  match cs, hl with
  | [c0, c1], _ =>
    simp only [hc5, hc24, List.drop_zero, List.drop_succ_cons, List.take_succ_cons, List.take_zero] at h0 h1
    obtain ⟨a, ha, wa⟩ := one_int Tryd.underlying29 h0
    obtain ⟨b, hb, wb⟩ := one_int Tryd.underlying22 h1
    injection ha with ha; injection hb with hb
    exact ⟨(a, b), by rw [ha, hb]; rfl, i16_of wa, i8_of wb⟩
set_option maxRecDepth 100000 in
theorem open_chisels {r : Reach} {b0 : Nat} {v : Value} {d : DataW H} {p : List MemPlace} (hv : Value.okWide Tryd.prog w r b0 48 v) (h : DataW.Trod enc Tryd.prog w base spare held 48 v d p) :
    ∃ (A : Option Addr) (xs : List (Int × Int)) (c : Nat), v = .slice A xs.length c ∧ xs.length ≤ maxLen ∧ (∀ x ∈ xs, chok x) ∧ ChsAt w w.heap.size A xs := by
  obtain ⟨a0, len0, cap0, rfl⟩ := okWide_slice Tryd.underlying48 hv
  obtain ⟨fuel, hf⟩ := h
  change DataW.trod enc Tryd.prog w base spare held fuel 48 [.slice a0 len0 cap0] = _ at hf
  obtain ⟨A, xs, cp, h1, h2, h3, h4⟩ := open_rows (z := 2) (c := chc) (ok := chok) Tryd.underlying48 (by kernel_rfl) (by omega) (fun _ => rfl) (fun f cs' y h => open_chiselCells h) hf
  injection h1 with h1
  exact ⟨A, xs, cp, h1, h2, h3, h4⟩
end
end Go.Proofs.YtkbemhjeflmppaaDoor
