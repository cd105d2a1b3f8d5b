/- Sums of numbers, of both. -/
import Derived.Test.YtngondeaeipcfaaGreatDoorChP
import Derived.Test.YtngondeaeipcfaaGreatDoorG2
import Derived.LoopTactic
namespace Go.Proofs.YtngondeaeipcfaaGreatDoor
open Go Go.RowKit

set_option maxHeartbeats 2000000 in
theorem sumOfG_any (A : Option Addr) (xs : List Int) (c : Nat) (w : World) (hn : xs.length ≤ 60) (hx : ∀ x ∈ xs, 0 ≤ x ∧ x ≤ 10000000) (hA : IntsAt w w.heap.size A xs) :
    Calls Tryz.prog 193 #[.slice A xs.length c] w fun e w' => e = .returned (.int .i64 (sumT xs xs.length)) ∧ w = w' := by
  have HB := hide (sumT_bd hx)
  have HX := hide hx
  have HA := hide hA
  obtain ⟨n, hN⟩ : ∃ n, xs.length = n := ⟨_, rfl⟩
  have HN := hide hN
  rw [hN] at hn HB ⊢
  clear hN hx hA
  go_enter Tryz.func193, Tryz.ntmps193
  go_wp2
  go_loop [3, 8] (fun v i => ∃ k : Nat, k ≤ n ∧ i = .int .i64 k ∧ v = .int .i64 (sumT xs k)) (fun _ i => n - (intOf i).toNat)
  case atStart => exact ⟨0, Nat.zero_le _, rfl, rfl⟩
  case round =>
    obtain ⟨k, hk, rfl, rfl⟩ := hrel
    by_cases hlt : k < n
    · obtain ⟨b, o, rfl, hb, hxs⟩ := HA.out (by intro e; rw [e] at HN; have := HN.out; simp at this; omega)
      obtain ⟨x, hxk⟩ : ∃ x, xs[k]? = some x := ⟨xs[k]'(by rw [HN.out]; exact hlt), List.getElem?_eq_getElem _⟩
      have hc := hxs k x hxk
      obtain ⟨x1, x2⟩ := HX.out x (List.mem_of_getElem? hxk)
      have HS := hide (sumT_succ hxk)
      obtain ⟨b1, b2⟩ := HB.out k hk
      have hi : (k : Int) < n := by omega
      have h0 : (0 : Int) ≤ k := by omega
      clear hxs hxk
      generalize sumT xs k = q at *
      go_wp2
      exact ⟨⟨k + 1, by omega, by go_num, by rw [HS.out]⟩, by simp [intOf]; omega⟩
    · obtain rfl : k = n := by omega
      go_wp2
      go_ret
      exact ⟨rfl, rfl⟩
end Go.Proofs.YtngondeaeipcfaaGreatDoor
