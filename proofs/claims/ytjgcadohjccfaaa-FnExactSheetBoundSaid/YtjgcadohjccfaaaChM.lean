/- The model's strokes; sums, of both; StrokesOf. -/
import Derived.Test.YtjgcadohjccfaaaChL
import Derived.Deep.RegionLaw
import Derived.Deep.AppendLies
namespace Go.Proofs.Ytjgcadohjccfaaa
open Go Go.RowKit

theorem stkB {S : List Int} (hSx : ∀ x ∈ S, i8ok x) (L : List UInt8) : ∀ x ∈ stkL S L, -128 ≤ x ∧ x ≤ 127 := by
  intro x hx
  obtain ⟨b, _, rfl⟩ := List.mem_map.1 hx
  exact wc_at hSx _

set_option maxHeartbeats 2000000 in
theorem sumOf_any (A : Option Addr) (xs : List Int) (c : Nat) (w : World) (hn : xs.length ≤ 60) (hx : ∀ x ∈ xs, 0 ≤ x ∧ x ≤ 30) (hA : IntsAt w w.heap.size A xs) :
    Calls Try.prog 92 #[.slice A xs.length c] w fun e w' => e = .returned (.int .i64 (sumT xs xs.length)) ∧ w = w' := by
  have HB := hide (sumT_bd hx)
  have HX := hide hx
  have HA := hide hA
  obtain ⟨n, hN⟩ : ∃ n, xs.length = n := ⟨_, rfl⟩
  have HN := hide hN
  rw [hN] at hn HB ⊢
  clear hN hx hA
  go_enter Try.func92, Try.ntmps92
  go_wp2
  go_loop [3, 8] (fun v i => ∃ k : Nat, k ≤ n ∧ i = .int .i64 k ∧ v = .int .i64 (sumT xs k)) (fun _ i => n - (intOf i).toNat)
  case atStart => exact ⟨0, Nat.zero_le _, rfl, rfl⟩
  case round =>
    obtain ⟨k, hk, rfl, rfl⟩ := hrel
    by_cases hlt : k < n
    · obtain ⟨b, o, rfl, hb, hxs⟩ := HA.out (by intro e; rw [e] at HN; have := HN.out; simp at this; omega)
      obtain ⟨x, hxk⟩ : ∃ x, xs[k]? = some x := ⟨xs[k]'(by rw [HN.out]; exact hlt), List.getElem?_eq_getElem _⟩
      have hc := hxs k x hxk
      obtain ⟨x1, x2⟩ := HX.out x (List.mem_of_getElem? hxk)
      have HS := hide (sumT_succ hxk)
      obtain ⟨b1, b2⟩ := HB.out k hk
      have hi : (k : Int) < n := by omega
      have h0 : (0 : Int) ≤ k := by omega
      clear hxs hxk
      generalize sumT xs k = q at *
      go_wp2
      exact ⟨⟨k + 1, by omega, by go_num, by rw [HS.out]⟩, by simp [intOf]; omega⟩
    · obtain rfl : k = n := by omega
      go_wp2
      go_ret
      exact ⟨rfl, rfl⟩

/-! StrokesOf -/
noncomputable def soB (S : List Int) (L : List UInt8) : Bool := vstr S && vtext L
noncomputable def soC (S : List Int) (L : List UInt8) : Int := if soB S L = true then 0 else 1
noncomputable def soV (S : List Int) (L : List UInt8) : Int := if soB S L = true then sumT (stkL S L) (stkL S L).length else 0
theorem so_no {S : List Int} {L : List UInt8} (h : soB S L = false) : soC S L = 1 ∧ soV S L = 0 := by unfold soC soV; rw [h]; exact ⟨rfl, rfl⟩
theorem so_ok {S : List Int} {L : List UInt8} (h : soB S L = true) : soC S L = 0 ∧ soV S L = sumT (stkL S L) (stkL S L).length := by unfold soC soV; rw [h]; exact ⟨rfl, rfl⟩
theorem stk_b30 {S : List Int} {L : List UInt8} (hS : S.length = 26) (h1 : vstr S = true) (h2 : vtext L = true) : ∀ x ∈ stkL S L, 0 ≤ x ∧ x ≤ 30 := fun x hx => by
  have := stk_bd hS h1 h2 x hx; omega

end Go.Proofs.Ytjgcadohjccfaaa
