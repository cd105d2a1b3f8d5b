/- Strokes, or a chisel, that came in. -/
import Derived.Test.YtngondeaeipcfaaGreatDoorOpen
namespace Go.Proofs.YtngondeaeipcfaaGreatDoor
open Go.ChangeShapes Go.WideShapes Go.ChangeAt Go.RowKit Go.Deep

section
variable {H : Type} {enc : TypeId × Value → H} {w : World} {base : Nat} {spare : Nat → Bool} {held : Bool}

theorem i16_of {n : Int} (h : (Lit.int .i16 n).wf = true) : -32768 ≤ n ∧ n ≤ 32767 := by
  simp [Lit.wf, IntKind.min, IntKind.max, IntKind.signed, IntKind.bits] at h; omega

set_option maxRecDepth 100000 in
/-- Strokes that came in. -/
theorem open_strokes {r : Reach} {b0 : Nat} {v : Value} {d : DataW H} {p : List MemPlace} (hv : Value.okWide Tryz.prog w r b0 25 v) (h : DataW.Trod enc Tryz.prog w base spare held 25 v d p) :
    ∃ (S : List Int), v = .agg (wc S).toArray ∧ S.length = 26 ∧ ∀ x ∈ S, i8ok x := by
  obtain ⟨cs, rfl, hsz⟩ : ∃ cs, v = .agg cs ∧ cs.size = Tryz.prog.cellsOf 25 := by
    have h1 := hv
    simp only [Value.okWide, Tryz.underlying25] at h1
    obtain ⟨cs, h1, h2, _⟩ := h1
    exact ⟨cs, h1, h2⟩
  obtain ⟨l⟩ := cs
  have hC : Tryz.prog.cellsOf 25 = 26 := by kernel_rfl
  have hc24 : Tryz.prog.cellsOf 24 = 1 := by kernel_rfl
  rw [hC] at hsz
  have hl : l.length = 26 := by simpa using hsz
  obtain ⟨fuel, hf⟩ := h
  obtain ⟨zs, m, _, _, hal, hzl, hz⟩ := DataW.trod_array Tryz.underlying25 hf
  have each : ∀ i, i < 26 → ∃ a : Int, l[i]? = some (.int .i8 a) ∧ i8ok a := by
    intro i hi
    have hzi := hz i hi
    simp only [Value.cells] at hzi
    rw [hc24, Nat.mul_one, take1_drop _ _ undef (by omega), List.getElem?_eq_getElem (by omega)] at hzi
    obtain ⟨a, ha, wa⟩ := one_int Tryz.underlying24 hzi
    refine ⟨a, ?_, i8_of wa⟩
    injection ha with ha
    rw [List.getD_eq_getElem?_getD, List.getElem?_eq_getElem (by omega)] at ha
    rw [List.getElem?_eq_getElem (by omega)]
    simpa using ha
  let g : Nat → Int := fun i => match l[i]? with | some (.int .i8 a) => a | _ => 0
  have hgi : ∀ i, i < 26 → l[i]? = some (.int .i8 (g i)) ∧ i8ok (g i) := by
    intro i hi
    obtain ⟨a, ha, hk⟩ := each i hi
    have : g i = a := by simp only [g, ha]
    rw [this]; exact ⟨ha, hk⟩
  refine ⟨(List.range 26).map g, ?_, by simp, ?_⟩
  · have : l = wc ((List.range 26).map g) := by
      apply List.ext_getElem?
      intro i
      by_cases hi : i < 26
      · rw [(hgi i hi).1, wc_get (by simp; exact hi)]; simp [List.getD, hi]
      · rw [List.getElem?_eq_none (by omega), List.getElem?_eq_none (by rw [wc_length]; simp; omega)]
    rw [this]
  · intro x hx
    obtain ⟨i, hi, rfl⟩ := List.mem_map.1 hx
    exact (hgi i (List.mem_range.1 hi)).2

end
end Go.Proofs.YtngondeaeipcfaaGreatDoor
