/- A rubbing that came in. -/
import Derived.Test.YtjmkbdghenjlaaaRbP
import Derived.Test.YtjmkbdghenjlaaaOpen
namespace Go.Proofs.Ytjmkbdghenjlaaa
open Go.ChangeShapes Go.WideShapes Go.ChangeAt Go.RowKit Go.Deep

section
variable {H : Type} {enc : TypeId × Value → H} {w : World} {base : Nat} {spare : Nat → Bool} {held : Bool}

theorem u16_of {n : Int} (h : (Lit.int .u16 n).wf = true) : ∃ m : Nat, n = (m : Int) ∧ m < 65536 := by
  simp [Lit.wf, IntKind.min, IntKind.max, IntKind.signed, IntKind.bits] at h
  exact ⟨n.toNat, by omega, by omega⟩

set_option maxRecDepth 100000 in
theorem open_rubCells {fuel : Nat} {l : List Value} {x : DataW H × List MemPlace} (hl : l.length = 8) (hf : DataW.trod enc Try.prog w base spare held fuel 23 l = some x) : ∃ R, l = rwc R ∧ rok R := by
  have hc24 : Try.prog.cellsOf 22 = 1 := by kernel_rfl
  obtain ⟨zs, m, _, _, hal, hzl, hz⟩ := DataW.trod_array Try.underlying23 hf
  have each : ∀ i, i < 8 → ∃ a : Nat, l[i]? = some (.int .u16 (a : Int)) ∧ a < 65536 := by
    intro i hi
    have hzi := hz i hi
    rw [hc24, Nat.mul_one, take1_drop _ _ undef (by omega), List.getElem?_eq_getElem (by omega)] at hzi
    obtain ⟨a, ha, wa⟩ := one_int Try.underlying22 hzi
    obtain ⟨m, rfl, hm⟩ := u16_of wa
    refine ⟨m, ?_, hm⟩
    injection ha with ha
    rw [List.getD_eq_getElem?_getD, List.getElem?_eq_getElem (by omega)] at ha
    rw [List.getElem?_eq_getElem (by omega)]
    simpa using ha
  let g : Nat → Nat := fun i => match l[i]? with | some (.int .u16 a) => a.toNat | _ => 0
  have hgi : ∀ i, i < 8 → l[i]? = some (.int .u16 ((g i : Nat) : Int)) ∧ g i < 65536 := by
    intro i hi
    obtain ⟨a, ha, hk⟩ := each i hi
    have : g i = a := by simp only [g, ha]; simp
    rw [this]; exact ⟨ha, hk⟩
  refine ⟨(List.range 8).map g, ?_, by simp, ?_⟩
  · apply List.ext_getElem?
    intro i
    by_cases hi : i < 8
    · rw [(hgi i hi).1, rwc_get (by simp; exact hi)]; simp [List.getD, hi]
    · rw [List.getElem?_eq_none (by omega), List.getElem?_eq_none (by rw [rwc_length]; simp; omega)]
  · intro x hx
    obtain ⟨i, hi, rfl⟩ := List.mem_map.1 hx
    exact (hgi i (List.mem_range.1 hi)).2

set_option maxRecDepth 100000 in
/-- A rubbing that came in. -/
theorem open_rubbing {r : Reach} {b0 : Nat} {v : Value} {d : DataW H} {p : List MemPlace} (hv : Value.okWide Try.prog w r b0 23 v) (h : DataW.Trod enc Try.prog w base spare held 23 v d p) :
    ∃ (R : List Nat), v = .agg (rwc R).toArray ∧ rok R := by
  obtain ⟨cs, rfl, hsz⟩ : ∃ cs, v = .agg cs ∧ cs.size = Try.prog.cellsOf 23 := by
    have h1 := hv
    simp only [Value.okWide, Try.underlying23] at h1
    obtain ⟨cs, h1, h2, _⟩ := h1
    exact ⟨cs, h1, h2⟩
  obtain ⟨l⟩ := cs
  have hC : Try.prog.cellsOf 23 = 8 := by kernel_rfl
  rw [hC] at hsz
  obtain ⟨fuel, hf⟩ := h
  simp only [Value.cells] at hf
  obtain ⟨R, rfl, hR⟩ := open_rubCells (by simpa using hsz) hf
  exact ⟨R, rfl, hR⟩
end
end Go.Proofs.Ytjmkbdghenjlaaa
