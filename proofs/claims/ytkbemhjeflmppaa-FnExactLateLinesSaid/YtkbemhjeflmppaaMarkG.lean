/- Marks of texts, from any number on. -/
import Derived.Test.YtkbemhjeflmppaaG6
import Derived.LoopTactic
namespace Go.Proofs.Ytkbemhjeflmppaa
open Go.RowKit

set_option maxRecDepth 100000 in
set_option maxHeartbeats 4000000 in
theorem markStringS_gen (A : Option Addr) (xs : List ByteArray) (c : Nat) (k : Nat) (L : Nat) (w : World) (h1 : k + xs.length ≤ 4194304) (hP : StrsIn w L A xs) :
    Calls Try.prog 40 #[.slice A xs.length c, .int .i64 k] w fun e w' => e = .returned (.int .i64 ((k + xs.length : Nat) : Int)) ∧ w.grownBy w' (blkS A xs) ∧ StrsIn w' L A (marksS k xs.length) := by
  generalize hL : xs.length = n at *
  have HL := hide hL
  clear hL
  by_cases hne : xs = []
  · have hn0 : n = 0 := by rw [← HL.out, hne]; rfl
    subst hn0
    go_enter Try.func40, Try.ntmps40
    go_wp2
    go_loop [1, 5] (fun r i => r = .int .i64 k ∧ i = .int .i64 0) (fun _ _ => 0)
    case atStart => exact ⟨rfl, rfl⟩
    case round =>
      obtain ⟨rfl, rfl⟩ := hrel
      go_wp2
      go_ret
      exact ⟨ret_int (by simp), grown_refl _ _, fun h => (h rfl).elim⟩
  · obtain ⟨b, o, rfl, hLb, hlt, _, ht⟩ := hP hne
    rw [HL.out] at ht
    rw [blkS_some hne]
    go_enter Try.func40, Try.ntmps40
    go_wp2
    go_loopw [1, 5] (fun r i wr => ∃ j : Nat, j ≤ n ∧ i = .int .i64 j ∧ r = .int .i64 ((k + j : Nat) : Int) ∧ w.grownBy wr (some b) ∧ wr.there b o n ∧ (∀ i', i' < j → wr.cell? ⟨b, o + i', none⟩ = some (.string (mtext (k + i')))))
      (fun _ i _ => n - (intOf i).toNat)
    case atStart => exact ⟨0, by omega, rfl, by simp, grown_refl _ _, ht, fun i hi => by omega⟩
    case round =>
      obtain ⟨j, hj, rfl, rfl, hg, ht', hr⟩ := hrel
      have hbw : b < wr.heap.size := Nat.lt_of_lt_of_le hlt hg.size
      by_cases hjn : j < n
      · have hi : (j : Int) < n := by omega
        have hi0 : (0 : Int) ≤ j := by omega
        have HR := hide hr
        clear hr
        go_wp2_with (go_at_call 93; refine (markText_any (k + j) _ (by omega)).mono ?_; rintro e w2 ⟨rfl, hb2⟩; have ht2 := grown_there (r := none) (grown_below hb2) ht' hbw (by simp); obtain ⟨v0, hv0, hf0⟩ := there_some ht2 hjn)
        refine ⟨⟨j + 1, by omega, by go_num, by go_num, grown_set (grown_trans hg (grown_below hb2)) _ _, there_set ht2 _ _, ?_⟩, by simp [intOf]; omega⟩
        intro i' hi'
        by_cases e : i' = j
        · subst e
          exact World.cell?_setCell_same' _ _ _ (by rw [hv0]; rfl)
        · rw [World.cell?_setCell_other _ _ _ _ (by intro h; injection h with _ h; omega)]
          rw [hb2.cell (p := ⟨b, o + i', none⟩) hbw]
          exact HR.out i' (by omega)
      · obtain rfl : j = n := by omega
        go_wp2
        go_ret
        refine ⟨rfl, hg, fun _ => ⟨b, o, rfl, hLb, hbw, fun i x hx => ?_, by rw [marksS_len]; exact ht'⟩⟩
        have hi := (List.getElem?_eq_some_iff.1 hx).1
        rw [marksS_len] at hi
        rw [marksS_get hi] at hx
        injection hx with hx
        subst hx
        exact hr i hi

end Go.Proofs.Ytkbemhjeflmppaa
