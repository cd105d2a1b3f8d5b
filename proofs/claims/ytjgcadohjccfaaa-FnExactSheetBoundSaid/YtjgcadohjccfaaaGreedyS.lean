/- GreedyBreaks and FewestLines of the model. -/
import Derived.Test.YtjgcadohjccfaaaGreedyI
namespace Go.Proofs.Ytjgcadohjccfaaa
open Go Go.RowKit

theorem fit_no {F : Fc} {ws : List (List UInt8)} {x : Int} {k : Nat} (hk : k < ws.length) (h : x < wideL F (ws.getD k [])) : fitB F ws x = false := fitB_false.2 (fun hf => by have := hf k hk; omega)

theorem strsAt_seg {w : World} {B b o : Nat} {ws : List (List UInt8)} (h : ∀ k x, (bas ws)[k]? = some x → w.cell? ⟨b, o + k, none⟩ = some (.string x)) (hb : b < B) (f k : Nat) : StrsAt w B (some ⟨b, o + f, none⟩) (bas (seg ws f k)) := fun _ => by
  refine ⟨b, o + f, rfl, hb, fun j x hx => ?_⟩
  have : (bas ws)[f + j]? = some x := by
    unfold bas seg at hx
    rw [List.getElem?_map, List.getElem?_drop, List.getElem?_take] at hx
    split at hx
    · rw [List.getElem?_map]; exact hx
    · cases hx
  have := h _ _ this
  rwa [← Nat.add_assoc] at this

set_option maxRecDepth 100000 in
set_option maxHeartbeats 2000000 in
/-- The words, and that there is room for them. -/
theorem l01WordsC_any (s : ByteArray) (w : World) (hs : s.size ≤ 1048576) :
    Calls Try.prog 88 #[.string s] w fun e w' => ∃ A c, e = .returned (.slice A (bas (wordsL s.data.toList)).length c) ∧ (wordsL s.data.toList).length ≤ c ∧ StrsIn w' w.heap.size A (bas (wordsL s.data.toList)) ∧ Below w.heap.size w w' := by
  have hsp := l01Split_any s w hs
  by_cases h0 : s.size = 0
  · have hte := toList_nil h0
    have he : s.data.toList = [] := List.length_eq_zero_iff.1 (by simpa using h0)
    have hw : wordsL s.data.toList = [] := by rw [he]; rfl
    rw [hw]
    clear he hw hsp h0
    go_enter Try.func88, Try.ntmps88
    go_wp2
    go_ret
    exact ⟨_, _, rfl, Nat.zero_le _, StrsIn.empty _ _ _, (Below.refl _ _).alloc (Nat.le_refl _) _⟩
  · have hte := toList_cons h0
    have hne : s.data.toList ≠ [] := fun e => h0 (by have := congrArg List.length e; simpa using this)
    have hw : wordsL s.data.toList = splitL s.data.toList := by unfold wordsL; rw [if_neg hne]
    rw [hw]
    have HSP := hide hsp
    clear hne hw hsp h0
    go_enter Try.func88, Try.ntmps88
    go_wp2_with (go_at_call 102; refine HSP.out.mono ?_; rintro e w1 ⟨A, c, rfl, hc, hP, hb⟩)
    go_ret
    exact ⟨A, c, by rw [List.length_map]; rfl, hc, hP, hb⟩

end Go.Proofs.Ytjgcadohjccfaaa
