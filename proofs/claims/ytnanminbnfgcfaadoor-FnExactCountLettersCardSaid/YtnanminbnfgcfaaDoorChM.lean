/- The model's strokes; sums, of both; StrokesOf. -/
import Derived.Test.YtnanminbnfgcfaaDoorChL
import Derived.Deep.RegionLaw
import Derived.Deep.AppendLies
namespace Go.Proofs.YtnanminbnfgcfaaDoor
open Go Go.RowKit

theorem stkB {S : List Int} (hSx : ∀ x ∈ S, i8ok x) (L : List UInt8) : ∀ x ∈ stkL S L, -128 ≤ x ∧ x ≤ 127 := by
  intro x hx
  obtain ⟨b, _, rfl⟩ := List.mem_map.1 hx
  exact wc_at hSx _

noncomputable def soB (S : List Int) (L : List UInt8) : Bool := vstr S && vtext L
noncomputable def soC (S : List Int) (L : List UInt8) : Int := if soB S L = true then 0 else 1
noncomputable def soV (S : List Int) (L : List UInt8) : Int := if soB S L = true then sumT (stkL S L) (stkL S L).length else 0
theorem so_no {S : List Int} {L : List UInt8} (h : soB S L = false) : soC S L = 1 ∧ soV S L = 0 := by unfold soC soV; rw [h]; exact ⟨rfl, rfl⟩
theorem so_ok {S : List Int} {L : List UInt8} (h : soB S L = true) : soC S L = 0 ∧ soV S L = sumT (stkL S L) (stkL S L).length := by unfold soC soV; rw [h]; exact ⟨rfl, rfl⟩
theorem stk_b30 {S : List Int} {L : List UInt8} (hS : S.length = 26) (h1 : vstr S = true) (h2 : vtext L = true) : ∀ x ∈ stkL S L, 0 ≤ x ∧ x ≤ 30 := fun x hx => by
  have := stk_bd hS h1 h2 x hx; omega

end Go.Proofs.YtnanminbnfgcfaaDoor
