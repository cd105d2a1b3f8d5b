/- A sheet, or prices, that came in. -/
import Derived.Test.YtngondeaeipcfaaGreatDoorOpenChi
import Derived.Test.YtngondeaeipcfaaGreatDoorGdA
namespace Go.Proofs.YtngondeaeipcfaaGreatDoor
open Go.ChangeShapes Go.WideShapes Go.ChangeAt Go.RowKit Go.Deep

section
variable {H : Type} {enc : TypeId × Value → H} {w : World} {base : Nat} {spare : Nat → Bool} {held : Bool}

set_option maxRecDepth 100000 in
/-- Prices that came in. -/
theorem open_prices {r : Reach} {b0 : Nat} {v : Value} {d : DataW H} {p : List MemPlace} (hv : Value.okWide Tryz.prog w r b0 98 v) (h : DataW.Trod enc Tryz.prog w base spare held 98 v d p) :
    ∃ (P : List Int), v = .agg (pw P).toArray ∧ P.length = 29 ∧ ∀ x ∈ P, i16ok x := by
  obtain ⟨cs, rfl, hsz⟩ := okWide_struct Tryz.underlying98 hv
  obtain ⟨l⟩ := cs
  have hC : Tryz.prog.cellsOf 98 = 29 := by kernel_rfl
  have hc25 : Tryz.prog.cellsOf 88 = 26 := by kernel_rfl
  have hc24 : Tryz.prog.cellsOf 87 = 1 := by kernel_rfl
  rw [hC] at hsz
  have hl : l.length = 29 := by simpa using hsz
  obtain ⟨fuel, hf⟩ := h
  obtain ⟨xs, n, _, _, _, hlen, hg⟩ := DataW.trod_struct Tryz.underlying98 hf
  have g0 : DataW.trod enc Tryz.prog w base spare held n 88 ((l.drop 0).take (Tryz.prog.cellsOf 88)) = xs[0]? := hg 0 _ rfl
  have g1 : DataW.trod enc Tryz.prog w base spare held n 87 ((l.drop 26).take (Tryz.prog.cellsOf 87)) = xs[1]? := hg 1 _ rfl
  have g2 : DataW.trod enc Tryz.prog w base spare held n 87 ((l.drop 27).take (Tryz.prog.cellsOf 87)) = xs[2]? := hg 2 _ rfl
  have g3 : DataW.trod enc Tryz.prog w base spare held n 87 ((l.drop 28).take (Tryz.prog.cellsOf 87)) = xs[3]? := hg 3 _ rfl
  clear hg
  rw [hc25] at g0
  rw [hc24] at g1 g2 g3
  have hx : ∀ i, i < 4 → ∃ y, xs[i]? = some y := fun i hi => ⟨xs[i]'(by rw [hlen]; simpa using hi), List.getElem?_eq_getElem _⟩
  obtain ⟨y0, e0⟩ := hx 0 (by omega)
  obtain ⟨y1, e1⟩ := hx 1 (by omega)
  obtain ⟨y2, e2⟩ := hx 2 (by omega)
  obtain ⟨y3, e3⟩ := hx 3 (by omega)
  rw [e0] at g0; rw [e1] at g1; rw [e2] at g2; rw [e3] at g3
  rw [take1_drop _ _ undef (by omega)] at g1 g2 g3
  obtain ⟨x1, h1, w1⟩ := one_int Tryz.underlying87 g1
  obtain ⟨x2, h2, w2⟩ := one_int Tryz.underlying87 g2
  obtain ⟨x3, h3, w3⟩ := one_int Tryz.underlying87 g3
  obtain ⟨zs, m, _, _, hal, hzl, hz⟩ := DataW.trod_array Tryz.underlying88 g0
  have each : ∀ i, i < 29 → ∃ a : Int, l[i]? = some (.int .i16 a) ∧ i16ok a := by
    intro i hi
    by_cases h26 : i < 26
    · have hzi := hz i h26
      rw [hc24, Nat.mul_one, take1_drop _ _ undef (by simp; omega), List.getElem?_eq_getElem (by omega)] at hzi
      obtain ⟨a, ha, wa⟩ := one_int Tryz.underlying87 hzi
      refine ⟨a, ?_, i16_of wa⟩
      injection ha with ha
      rw [List.getD_eq_getElem?_getD, List.drop_zero, List.getElem?_take, if_pos h26, List.getElem?_eq_getElem (by omega)] at ha
      rw [List.getElem?_eq_getElem (by omega)]
      simpa using ha
    · injection h1 with h1; injection h2 with h2; injection h3 with h3
      rw [List.getD_eq_getElem?_getD, List.getElem?_eq_getElem (by omega), Option.getD_some] at h1 h2 h3
      have : i = 26 ∨ i = 27 ∨ i = 28 := by omega
      rcases this with rfl | rfl | rfl
      · exact ⟨x1, by rw [List.getElem?_eq_getElem (by omega), h1], i16_of w1⟩
      · exact ⟨x2, by rw [List.getElem?_eq_getElem (by omega), h2], i16_of w2⟩
      · exact ⟨x3, by rw [List.getElem?_eq_getElem (by omega), h3], i16_of w3⟩
  let g : Nat → Int := fun i => match l[i]? with | some (.int .i16 a) => a | _ => 0
  have hgi : ∀ i, i < 29 → l[i]? = some (.int .i16 (g i)) ∧ i16ok (g i) := by
    intro i hi
    obtain ⟨a, ha, hk⟩ := each i hi
    have : g i = a := by simp only [g, ha]
    rw [this]; exact ⟨ha, hk⟩
  refine ⟨(List.range 29).map g, ?_, by simp, ?_⟩
  · have : l = pw ((List.range 29).map g) := by
      apply List.ext_getElem?
      intro i
      by_cases hi : i < 29
      · rw [(hgi i hi).1, pw_get (by simp; exact hi)]; simp [List.getD, hi]
      · rw [List.getElem?_eq_none (by omega), List.getElem?_eq_none (by rw [pw_length]; simp; omega)]
    rw [this]
  · intro x hx
    obtain ⟨i, hi, rfl⟩ := List.mem_map.1 hx
    exact (hgi i (List.mem_range.1 hi)).2
end
end Go.Proofs.YtngondeaeipcfaaGreatDoor
