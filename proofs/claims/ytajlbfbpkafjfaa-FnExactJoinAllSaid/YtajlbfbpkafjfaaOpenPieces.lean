/- A list of pieces that came in. -/
import Derived.Test.YtajlbfbpkafjfaaPc
import Derived.Test.YtajlbfbpkafjfaaOpenRows
namespace Go.Proofs.Ytajlbfbpkafjfaa
open Go.ChangeShapes Go.WideShapes Go.ChangeAt Go.RowKit Go.Deep

section
variable {H : Type} {enc : TypeId × Value → H} {w : World} {base : Nat} {spare : Nat → Bool} {held : Bool}
set_option maxRecDepth 100000 in
theorem open_pieceCells {fuel : Nat} {cs : List Value} {x : DataW H × List MemPlace} (h : DataW.trod enc Try.prog w base spare held fuel 125 cs = some x) : ∃ p, cs = pcx p ∧ pxok p := by
  obtain ⟨y0, y1, y2, n, _, hl, h0, h1, h2⟩ := trod_struct3 Try.underlying125 h
  have hC : Try.prog.cellsOf 125 = 3 := by kernel_rfl
  have hc5 : Try.prog.cellsOf 5 = 1 := by kernel_rfl
  have hc9 : Try.prog.cellsOf 9 = 1 := by kernel_rfl
  rw [hC] at hl
  match cs, hl with
  | [c0, c1, c2], _ =>
    simp only [hc5, hc9, List.drop_zero, List.drop_succ_cons, List.take_succ_cons, List.take_zero] at h0 h1 h2
    obtain ⟨s1, e1, _, z1⟩ := DataW.trod_string Try.underlying9 h0
    obtain ⟨a, ha, wa⟩ := one_int Try.underlying5 h1
    obtain ⟨b, hb, wb⟩ := one_int Try.underlying5 h2
    injection e1 with e1; injection ha with ha; injection hb with hb
    exact ⟨(s1, a, b), by rw [e1, ha, hb]; rfl, z1, u8_of wa, u8_of wb⟩
set_option maxRecDepth 100000 in
theorem open_pieces {r : Reach} {b0 : Nat} {v : Value} {d : DataW H} {p : List MemPlace} (hv : Value.okWide Try.prog w r b0 66 v) (h : DataW.Trod enc Try.prog w base spare held 66 v d p) :
    ∃ (A : Option Addr) (xs : List Pcx) (c : Nat), v = .slice A xs.length c ∧ xs.length ≤ maxLen ∧ (∀ x ∈ xs, pxok x) ∧ PcAt w w.heap.size A xs := by
  obtain ⟨a0, len0, cap0, rfl⟩ := okWide_slice Try.underlying66 hv
  obtain ⟨fuel, hf⟩ := h
  change DataW.trod enc Try.prog w base spare held fuel 66 [.slice a0 len0 cap0] = _ at hf
  obtain ⟨A, xs, cp, h1, h2, h3, h4⟩ := open_rows (z := 3) (c := pcx) (ok := pxok) Try.underlying66 (by kernel_rfl) (by omega) (fun _ => rfl) (fun f cs' y h => open_pieceCells h) hf
  injection h1 with h1
  exact ⟨A, xs, cp, h1, h2, h3, h4⟩
end
end Go.Proofs.Ytajlbfbpkafjfaa
