/- Whether a number is in a list, of both. -/
import Derived.Test.YtngondeaeipcfaaGreatDoorG2
import Derived.LoopTactic
namespace Go.Proofs.YtngondeaeipcfaaGreatDoor
open Go.RowKit

set_option maxRecDepth 100000 in
set_option maxHeartbeats 2000000 in
theorem l00Has_any (A : Option Addr) (xs : List Int) (c : Nat) (v : Int) (w : World) (hn : xs.length ≤ maxLen) (hA : IntsAt w w.heap.size A xs) :
    Calls Tryz.prog 155 #[.slice A xs.length c, .int .i64 v] w fun e w' => e = .returned (.bool (decide (v ∈ xs))) ∧ Below w.heap.size w w' := by
  unfold maxLen at hn
  have HH := hide (fun k (h : xs[k]? = some v) => show decide (v ∈ xs) = true from by simpa using List.mem_of_getElem? h)
  have HN := hide (fun (h : ∀ (j : Nat) u, j < xs.length → xs[j]? = some u → u ≠ v) => show decide (v ∈ xs) = false from by
    simp only [decide_eq_false_iff_not]
    intro hm
    obtain ⟨j, hj⟩ := List.getElem?_of_mem hm
    exact h j v (List.getElem?_eq_some_iff.1 hj).1 hj rfl)
  generalize decide (v ∈ xs) = D at *
  obtain ⟨n, hL⟩ : ∃ n, xs.length = n := ⟨_, rfl⟩
  have HL := hide hL
  rw [hL] at hn HN ⊢
  clear hL
  go_enter Tryz.func155, Tryz.ntmps155
  go_wp2
  go_loopw [5] (fun i wr => ∃ k : Nat, k ≤ n ∧ i = .int .i64 k ∧ Hid (∀ (j : Nat) u, j < k → xs[j]? = some u → u ≠ v) ∧ Below w.heap.size w wr)
    (fun i _ => n - (intOf i).toNat)
  case atStart => exact ⟨0, by omega, rfl, hide (fun j u h => absurd h (by omega)), Below.refl _ _⟩
  case round =>
    obtain ⟨k, hk, rfl, hg, hB⟩ := hrel
    by_cases hlt : k < n
    · obtain ⟨b, o, rfl, hb, hps⟩ := hA (by intro e; rw [e] at HL; have := HL.out; simp at this; omega)
      obtain ⟨p, hp⟩ : ∃ p, xs[k]? = some p := ⟨xs[k]'(by rw [HL.out]; exact hlt), List.getElem?_eq_getElem _⟩
      have c0 := (hB.cell (p := ⟨b, o + k, none⟩) hb).trans (hps k _ hp)
      have hi : (k : Int) < n := by omega
      have h0 : (0 : Int) ≤ k := by omega
      have HP := hide hp
      clear hps hp
      by_cases he : p = v
      · subst he
        have HR := hide (HH.out k HP.out)
        have hd : (p == p) = true := by simp
        go_wp2
        go_ret
        exact ⟨ret_bool HR.out.symm, hB⟩
      · have hgo : Hid (∀ (j : Nat) u, j < k + 1 → xs[j]? = some u → u ≠ v) := hide (fun j u hj hu => by
          by_cases e : j = k
          · subst e; rw [HP.out] at hu; injection hu with hu; subst hu; exact he
          · exact hg.out j u (by omega) hu)
        have hd : (p == v) = false := by simpa using he
        go_wp2
        exact ⟨⟨k + 1, by omega, by go_num, hgo, hB⟩, by simp [intOf]; omega⟩
    · obtain rfl : k = n := by omega
      have HR := hide (HN.out hg.out)
      go_wp2
      go_ret
      exact ⟨ret_bool HR.out.symm, hB⟩
end Go.Proofs.YtngondeaeipcfaaGreatDoor
