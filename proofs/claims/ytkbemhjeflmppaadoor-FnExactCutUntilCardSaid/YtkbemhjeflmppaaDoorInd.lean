/- All indices of a list of numbers. -/
import Derived.Test.YtkbemhjeflmppaaDoorIvTh
namespace Go.Proofs.YtkbemhjeflmppaaDoor
open Go Go.RowKit

set_option maxRecDepth 100000 in
set_option maxHeartbeats 4000000 in
theorem indicesI_any (A : Option Addr) (n c : Nat) (w : World) (hn : n ≤ 1048576) :
    Calls Tryd.prog 52 #[.slice A n c] w (IntsB (idxL n) w) := by
  obtain ⟨i0, hi0, hz0, hz1, hz2⟩ := info_parts Tryd.infoI64
  have hmk := fun W => run_make_rowN (P := Tryd.prog) 32 2 i0 _ Tryd.underlying32 hi0 hz0 .i64 .i64 n n (Nat.le_refl _) (by rw [hz2]; omega) (by omega) W
  go_enter Tryd.func52, Tryd.ntmps52
  go_wp2
  go_loopw [10] (fun i wr => ∃ k : Nat, k ≤ n ∧ i = .int .i64 k ∧ Below w.heap.size w wr ∧ w.heap.size < wr.heap.size ∧ wr.there w.heap.size 0 n ∧ (∀ j, j < k → wr.cell? ⟨w.heap.size, j, none⟩ = some (.int .i64 (j : Int))))
    (fun i _ => n - (intOf i).toNat)
  case atStart =>
    exact ⟨0, by omega, rfl, (Below.refl _ _).alloc (Nat.le_refl _) _, by simp, there_newg rfl (by simp [madeCells, hz1]), fun j hj => by omega⟩
  case round =>
    obtain ⟨k, hk, rfl, hB, hsz, ht, hr⟩ := hrel
    by_cases hlt : k < n
    · obtain ⟨v0, hv0, hf0⟩ := there_some ht (j := k) hlt
      simp only [Nat.zero_add] at hv0 hf0
      have hi : (k : Int) < n := by omega
      have h0 : (0 : Int) ≤ k := by omega
      have HR := hide hr
      clear hr hmk
      go_wp2
      refine ⟨⟨k + 1, by omega, by go_num, hB.setCell (p := ⟨w.heap.size, k, none⟩) (Nat.le_refl _) _, by rw [size_setCell]; exact hsz, there_set ht _ _, fun j hj => ?_⟩, by simp [intOf]; omega⟩
      by_cases e : j = k
      · subst e; exact World.cell?_setCell_same' _ _ _ (by rw [hv0]; rfl)
      · rw [World.cell?_setCell_other _ _ _ _ (by intro he; injection he with _ he; exact e he.symm)]
        exact HR.out j (by omega)
    · obtain rfl : k = n := by omega
      have hI : IntsIn wr w.heap.size (some ⟨w.heap.size, 0, none⟩) (idxL k) := fun _ => ⟨w.heap.size, 0, rfl, Nat.le_refl _, hsz, fun j x hx => by
        have hj := (List.getElem?_eq_some_iff.1 hx).1
        rw [idxL_len] at hj
        rw [idxL_get hj] at hx
        injection hx with hx
        rw [Nat.zero_add, ← hx]
        exact hr j hj, by rw [idxL_len]; exact ht⟩
      have HI := hide hI
      have HIL := hide (idxL_len k)
      clear hr ht hI
      go_wp2
      go_ret
      exact ⟨_, k, by rw [HIL.out]; rfl, by rw [HIL.out]; omega, HI.out, hB⟩
end Go.Proofs.YtkbemhjeflmppaaDoor
