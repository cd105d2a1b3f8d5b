/- Bytes that came in. -/
import Derived.Test.YtngondeaeipcfaaDoorSrcN
import Derived.Test.YtngondeaeipcfaaDoorOpen
import Derived.ChangeSlices
namespace Go.Proofs.YtngondeaeipcfaaDoor
open Go.ChangeShapes Go.WideShapes Go.ChangeAt Go.RowKit Go.Deep

section
variable {H : Type} {enc : TypeId × Value → H} {w : World} {base : Nat} {spare : Nat → Bool} {held : Bool}
set_option maxRecDepth 100000 in
theorem open_u8s {r : Reach} {b0 : Nat} {v : Value} {d : DataW H} {p : List MemPlace} (hv : Value.okWide Tryd.prog w r b0 22 v) (h : DataW.Trod enc Tryd.prog w base spare held 22 v d p) :
    ∃ (A : Option Addr) (xs : List Int) (c : Nat), v = .slice A xs.length c ∧ xs.length ≤ maxLen ∧ u8s xs ∧ U8At w w.heap.size A xs := by
  obtain ⟨a0, len0, cap0, rfl⟩ := okWide_slice Tryd.underlying22 hv
  obtain ⟨fuel, hf⟩ := h
  have hc1 : Tryd.prog.cellsOf 5 = 1 := by kernel_rfl
  change DataW.trod enc Tryd.prog w base spare held fuel 22 [.slice a0 len0 cap0] = _ at hf
  rcases open_ints Tryd.underlying22 Tryd.underlying5 hc1 hf with ⟨h1, _⟩ | ⟨a, len, cap, ss, h1, hb, hle, hcap, hss, _, hcells, hsz⟩
  · injection h1 with h1
    exact ⟨none, [], 0, by rw [h1]; rfl, by simp, fun x hx => by simp at hx, CellsAt.nil _ _ _⟩
  · injection h1 with h1
    have hl : (ss.take len).length = len := by rw [List.length_take, hss]; split <;> omega
    refine ⟨some a, ss.take len, cap, by rw [h1, hl], by rw [hl]; omega, fun x hx => ?_, fun hne => ?_⟩
    · have := hsz x (List.mem_of_mem_take hx)
      have e1 : IntKind.u8.min = 0 := rfl
      have e2 : IntKind.u8.max = 255 := rfl
      simp [Lit.wf] at this
      omega
    have h0 : 0 < len := by
      rcases Nat.eq_zero_or_pos len with e | e
      · subst e; exact (hne (by simp)).elim
      · exact e
    have hlen : len ≤ ss.length := by rw [hss]; split <;> omega
    obtain ⟨b, o, spot⟩ := a
    have hc0 := hcells 0 (by omega)
    have hspot : spot = none := World.cell?_spot (a := (⟨b, o, spot⟩ : Addr).add 0) hc0
    subst hspot
    refine ⟨b, o, rfl, ?_, fun k v hx => ?_⟩
    · rw [add_plain] at hc0; exact World.block_lt_of_cell? w _ hc0
    · rw [List.getElem?_map] at hx
      obtain ⟨x, hx1, rfl⟩ := Option.map_eq_some_iff.1 hx
      clear hx
      have hx := hx1
      have hk : k < len := by have := (List.getElem?_eq_some_iff.1 hx).1; omega
      have := hcells k (by omega)
      rw [add_plain] at this
      rw [this]
      rw [List.getElem?_take, if_pos hk, List.getElem?_eq_getElem (by omega)] at hx
      injection hx with hx
      rw [List.getD_eq_getElem?_getD, List.getElem?_eq_getElem (by omega), Option.getD_some, hx]
end
end Go.Proofs.YtngondeaeipcfaaDoor
