/- A list of shorts that came in. -/
import Derived.Test.YtikmmeohmkjbeaaShorts
import Derived.Test.YtikmmeohmkjbeaaOpen
import Derived.Deep.SlicePairs
namespace Go.Proofs.Ytikmmeohmkjbeaa
open Go.ChangeShapes Go.WideShapes Go.ChangeAt Go.RowKit Go.Deep

section
variable {H : Type} {enc : TypeId × Value → H} {w : World} {base : Nat} {spare : Nat → Bool} {held : Bool}
set_option maxRecDepth 100000 in
theorem open_shorts {r : Reach} {b0 : Nat} {v : Value} {d : DataW H} {p : List MemPlace} (hv : Value.okWide Try.prog w r b0 55 v) (h : DataW.Trod enc Try.prog w base spare held 55 v d p) :
    ∃ (A : Option Addr) (xs : List Sh) (c : Nat), v = .slice A xs.length c ∧ xs.length ≤ maxLen ∧ (∀ x ∈ xs, x.1.size ≤ maxLen ∧ x.2.size ≤ maxLen) ∧ ShsAt w w.heap.size A xs := by
  obtain ⟨a0, len0, cap0, rfl⟩ := okWide_slice Try.underlying55 hv
  obtain ⟨fuel, hf⟩ := h
  have hc1 : Try.prog.cellsOf 131 = 2 := by kernel_rfl
  have hs1 : Try.prog.cellsOf 9 = 1 := by kernel_rfl
  change DataW.trod enc Try.prog w base spare held fuel 55 [.slice a0 len0 cap0] = _ at hf
  rcases open_slice_pairs Try.underlying55 Try.underlying131 hc1 rfl rfl hs1 hs1 hf with ⟨h1, _⟩ | ⟨a, len, cap, m, n, V0, V1, D0, D1, P0, P1, h1, hb, hle, hcap, hm, _, hx⟩
  · injection h1 with h1
    exact ⟨none, [], 0, by rw [h1]; rfl, by simp, by simp, ShsAt.nil _ _ _⟩
  · injection h1 with h1
    have hlm : len ≤ m := by rw [hm]; split <;> omega
    have hstr : ∀ i, i < m → ∃ s1 s2 : ByteArray, V0 i = .string s1 ∧ V1 i = .string s2 ∧ s1.size ≤ maxLen ∧ s2.size ≤ maxLen := by
      intro i hi
      obtain ⟨_, _, g0, g1⟩ := hx i hi
      obtain ⟨s1, e1, _, z1⟩ := DataW.trod_string Try.underlying9 g0
      obtain ⟨s2, e2, _, z2⟩ := DataW.trod_string Try.underlying9 g1
      injection e1 with e1; injection e2 with e2
      exact ⟨s1, s2, e1, e2, z1, z2⟩
    let f : Nat → Sh := fun i => (match V0 i with | .string s => s | _ => ⟨#[]⟩, match V1 i with | .string s => s | _ => ⟨#[]⟩)
    have hf1 : ∀ i, i < m → V0 i = .string (f i).1 ∧ V1 i = .string (f i).2 ∧ (f i).1.size ≤ maxLen ∧ (f i).2.size ≤ maxLen := by
      intro i hi
      obtain ⟨s1, s2, e1, e2, z1, z2⟩ := hstr i hi
      simp only [f, e1, e2]
      exact ⟨trivial, trivial, z1, z2⟩
    have hl : ((List.range len).map f).length = len := by simp
    refine ⟨some a, (List.range len).map f, cap, by rw [h1, hl], by rw [hl]; omega, fun x hx' => ?_, fun hne => ?_⟩
    · obtain ⟨i, hi, rfl⟩ := List.mem_map.1 hx'
      have := hf1 i (by have := List.mem_range.1 hi; omega)
      exact this.2.2
    have h0 : 0 < len := by
      rcases Nat.eq_zero_or_pos len with e | e
      · subst e; exact (hne (by simp)).elim
      · exact e
    obtain ⟨b, o, spot⟩ := a
    have hc0 := (hx 0 (by omega)).1
    have hspot : spot = none := World.cell?_spot (a := (⟨b, o, spot⟩ : Addr).add (0 * 2)) hc0
    subst hspot
    refine ⟨b, o, rfl, ?_, fun k x hx' => ?_⟩
    · rw [add_plain] at hc0; exact World.block_lt_of_cell? w _ hc0
    · have hk : k < len := by have := (List.getElem?_eq_some_iff.1 hx').1; simpa using this
      have hxk : x = f k := by rw [List.getElem?_map, List.getElem?_range hk] at hx'; exact (Option.some.inj hx').symm
      subst hxk
      obtain ⟨g0, g1, _, _⟩ := hx k (by omega)
      obtain ⟨e0, e1, _, _⟩ := hf1 k (by omega)
      rw [add_plain] at g0 g1
      rw [e0] at g0
      rw [e1] at g1
      intro j v hv'
      match j with
      | 0 => obtain rfl : Value.string (f k).1 = v := by simpa [sc] using hv'
             exact g0
      | 1 => obtain rfl : Value.string (f k).2 = v := by simpa [sc] using hv'
             simpa [Nat.add_assoc] using g1
      | j + 2 => simp [sc] at hv'
end
end Go.Proofs.Ytikmmeohmkjbeaa
