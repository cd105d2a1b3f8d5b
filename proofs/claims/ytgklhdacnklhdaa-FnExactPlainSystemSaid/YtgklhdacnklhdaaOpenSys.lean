/- A system that came in. -/
import Derived.Test.YtgklhdacnklhdaaSys
import Derived.Test.YtgklhdacnklhdaaOpenRows
import Derived.ChangeSame
namespace Go.Proofs.Ytgklhdacnklhdaa
open Go.ChangeShapes Go.WideShapes Go.ChangeAt Go.RowKit Go.Deep

section
variable {H : Type} {enc : TypeId × Value → H} {w : World} {base : Nat} {spare : Nat → Bool} {held : Bool}
theorem i16_of {n : Int} (h : (Lit.int .i16 n).wf = true) : i16ok n := by
  simp [Lit.wf, IntKind.min, IntKind.max, IntKind.signed, IntKind.bits] at h; exact ⟨by omega, by omega⟩

set_option maxRecDepth 100000 in
theorem open_signCells {fuel : Nat} {cs : List Value} {x : DataW H × List MemPlace} (h : DataW.trod enc Try.prog w base spare held fuel 203 cs = some x) : ∃ p, cs = sgc p ∧ (u8ok p.1 ∧ i16ok p.2) := by
  obtain ⟨y0, y1, n, _, hl, h0, h1⟩ := trod_struct2 Try.underlying203 h
  have hC : Try.prog.cellsOf 203 = 2 := by kernel_rfl
  have hc5 : Try.prog.cellsOf 5 = 1 := by kernel_rfl
  have hc24 : Try.prog.cellsOf 141 = 1 := by kernel_rfl
  rw [hC] at hl
  match cs, hl with
  | [c0, c1], _ =>
    simp only [hc5, hc24, List.drop_zero, List.drop_succ_cons, List.take_succ_cons, List.take_zero] at h0 h1
    obtain ⟨a, ha, wa⟩ := one_int Try.underlying5 h0
    obtain ⟨b, hb, wb⟩ := one_int Try.underlying141 h1
    injection ha with ha; injection hb with hb
    exact ⟨(a, b), by rw [ha, hb]; rfl, u8_of wa, i16_of wb⟩
set_option maxRecDepth 100000 in
theorem open_a2Cells {fuel : Nat} {cs : List Value} {x : DataW H × List MemPlace} (h : DataW.trod enc Try.prog w base spare held fuel 144 cs = some x) : ∃ p, cs = a2c p ∧ (u8ok p.1 ∧ u8ok p.2) := by
  have hc5 : Try.prog.cellsOf 5 = 1 := by kernel_rfl
  obtain ⟨zs, m, _, _, hal, hzl, hz⟩ := DataW.trod_array Try.underlying144 h
  rw [show Try.prog.cellsOf 144 = 2 by kernel_rfl] at hal
  match cs, hal with
  | [c0, c1], _ =>
    have h0 := hz 0 (by omega)
    have h1 := hz 1 (by omega)
    rw [hc5] at h0 h1
    rw [List.getElem?_eq_getElem (by omega)] at h0 h1
    simp only [Nat.zero_mul, Nat.one_mul, List.drop_zero, List.drop_succ_cons, List.take_succ_cons, List.take_zero] at h0 h1
    obtain ⟨a, ha, wa⟩ := one_int Try.underlying5 h0
    obtain ⟨b, hb, wb⟩ := one_int Try.underlying5 h1
    injection ha with ha; injection hb with hb
    exact ⟨(a, b), by rw [ha, hb]; rfl, u8_of wa, u8_of wb⟩

set_option maxRecDepth 100000 in
theorem open_system {r : Reach} {b0 : Nat} {v : Value} {d : DataW H} {p : List MemPlace} (hv : Value.okWide Try.prog w r b0 64 v) (h : DataW.Trod enc Try.prog w base spare held 64 v d p) :
    ∃ (S : Sy) (A D : Option Addr) (c e : Nat), v = sv S A D c e ∧ S.ok ∧ SyAt w w.heap.size A D S := by
  obtain ⟨cs, rfl, hsz⟩ := okWide_struct Try.underlying64 hv
  obtain ⟨l⟩ := cs
  obtain ⟨fuel, hf⟩ := h
  obtain ⟨y0, y1, n, _, hl, h0, h1⟩ := trod_struct2 Try.underlying64 hf
  have hC : Try.prog.cellsOf 64 = 2 := by kernel_rfl
  have hc1 : Try.prog.cellsOf 61 = 1 := by kernel_rfl
  have hc2 : Try.prog.cellsOf 62 = 1 := by kernel_rfl
  rw [hC] at hsz
  match l, hsz with
  | [c0, c1], _ =>
    simp only [Value.cells, hc1, hc2, List.drop_zero, List.drop_succ_cons, List.take_succ_cons, List.take_zero] at h0 h1
    obtain ⟨A, xs, cp, e0, n0, ok0, hA⟩ := open_rows (c := sgc) Try.underlying61 (by kernel_rfl : Try.prog.cellsOf 203 = 2) (by omega) (fun _ => rfl) (fun _ _ _ h => open_signCells h) h0
    obtain ⟨D, ys, dp, e1, n1, ok1, hD⟩ := open_rows (c := a2c) Try.underlying62 (by kernel_rfl : Try.prog.cellsOf 144 = 2) (by omega) (fun _ => rfl) (fun _ _ _ h => open_a2Cells h) h1
    injection e0 with e0; injection e1 with e1
    subst e0; subst e1
    exact ⟨⟨xs, ys⟩, A, D, cp, dp, rfl, ⟨ok0, ok1, n0, n1⟩, hA, hD⟩
end
end Go.Proofs.Ytgklhdacnklhdaa
