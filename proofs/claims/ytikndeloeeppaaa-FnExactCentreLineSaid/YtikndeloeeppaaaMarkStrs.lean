/- Lists of texts are marked, and the marks are held. -/
import Derived.Test.YtikndeloeeppaaaMarkText
import Derived.Test.YtikndeloeeppaaaMarks
import Derived.Test.YtikndeloeeppaaaOver
namespace Go.Proofs.Ytikndeloeeppaaa
open Go.RowKit

def marksS (k n : Nat) : List ByteArray := (List.range n).map fun j => mtext (k + j)
theorem marksS_len (k n : Nat) : (marksS k n).length = n := by simp [marksS]
theorem marksS_get {k n j : Nat} (h : j < n) : (marksS k n)[j]? = some (mtext (k + j)) := by simp [marksS, List.getElem?_range h]
/-- The block that the texts lie in. -/
def blkS (A : Option Addr) (xs : List ByteArray) : Option Nat := match xs with
  | [] => none
  | _ :: _ => A.map (·.block)
theorem blkS_some {b o : Nat} {xs : List ByteArray} (h : xs ≠ []) : blkS (some ⟨b, o, none⟩) xs = some b := by
  cases xs with
  | nil => exact (h rfl).elim
  | cons a t => rfl
theorem blkS_bd {w : World} {L : Nat} {A : Option Addr} {xs : List ByteArray} (h : StrsIn w L A xs) : ∀ k, blkS A xs = some k → L ≤ k ∧ k < w.heap.size := by
  intro k hk
  cases xs with
  | nil => cases hk
  | cons a t =>
    obtain ⟨b, o, rfl, h1, h2, _⟩ := h (by simp)
    cases hk
    exact ⟨h1, h2⟩
theorem grown_strsAt {w w' : World} {r : Option Nat} {B : Nat} (h : w.grownBy w' r) {A : Option Addr} {xs : List ByteArray} (hP : StrsAt w B A xs) (hB : B ≤ w.heap.size) (hne : ∀ k, r = some k → B ≤ k) : StrsAt w' B A xs :=
  hP.below (grown_toBelow h hB hne)

set_option maxRecDepth 100000 in
set_option maxHeartbeats 4000000 in
theorem markStringS_any (A : Option Addr) (xs : List ByteArray) (c : Nat) (k : Nat) (L : Nat) (w : World) (h1 : k ≤ 8) (hn : xs.length ≤ 2097152) (hP : StrsIn w L A xs) :
    Calls Try.prog 56 #[.slice A xs.length c, .int .i64 k] w fun e w' => e = .returned (.int .i64 ((k + xs.length : Nat) : Int)) ∧ w.grownBy w' (blkS A xs) ∧ StrsIn w' L A (marksS k xs.length) := by
  generalize hL : xs.length = n at *
  have HL := hide hL
  clear hL
  by_cases hne : xs = []
  · have hn0 : n = 0 := by rw [← HL.out, hne]; rfl
    subst hn0
    go_enter Try.func56, Try.ntmps56
    go_wp2
    go_loop [1, 5] (fun r i => r = .int .i64 k ∧ i = .int .i64 0) (fun _ _ => 0)
    case atStart => exact ⟨rfl, rfl⟩
    case round =>
      obtain ⟨rfl, rfl⟩ := hrel
      go_wp2
      go_ret
      exact ⟨ret_int (by simp), grown_refl _ _, fun h => (h rfl).elim⟩
  · obtain ⟨b, o, rfl, hLb, hlt, _, ht⟩ := hP hne
    rw [HL.out] at ht
    rw [blkS_some hne]
    go_enter Try.func56, Try.ntmps56
    go_wp2
    go_loopw [1, 5] (fun r i wr => ∃ j : Nat, j ≤ n ∧ i = .int .i64 j ∧ r = .int .i64 ((k + j : Nat) : Int) ∧ w.grownBy wr (some b) ∧ wr.there b o n ∧ (∀ i', i' < j → wr.cell? ⟨b, o + i', none⟩ = some (.string (mtext (k + i')))))
      (fun _ i _ => n - (intOf i).toNat)
    case atStart => exact ⟨0, by omega, rfl, by simp, grown_refl _ _, ht, fun i hi => by omega⟩
    case round =>
      obtain ⟨j, hj, rfl, rfl, hg, ht', hr⟩ := hrel
      have hbw : b < wr.heap.size := Nat.lt_of_lt_of_le hlt hg.size
      by_cases hjn : j < n
      · have hi : (j : Int) < n := by omega
        have hi0 : (0 : Int) ≤ j := by omega
        have HR := hide hr
        clear hr
        go_wp2_with (go_at_call 127; refine (markText_any (k + j) _ (by omega)).mono ?_; rintro e w2 ⟨rfl, hb2⟩; have ht2 := grown_there (r := none) (grown_below hb2) ht' hbw (by simp); obtain ⟨v0, hv0, hf0⟩ := there_some ht2 hjn)
        refine ⟨⟨j + 1, by omega, by go_num, by go_num, grown_set (grown_trans hg (grown_below hb2)) _ _, there_set ht2 _ _, ?_⟩, by simp [intOf]; omega⟩
        intro i' hi'
        by_cases e : i' = j
        · subst e
          exact World.cell?_setCell_same' _ _ _ (by rw [hv0]; rfl)
        · rw [World.cell?_setCell_other _ _ _ _ (by intro h; injection h with _ h; omega)]
          rw [hb2.cell (p := ⟨b, o + i', none⟩) hbw]
          exact HR.out i' (by omega)
      · obtain rfl : j = n := by omega
        go_wp2
        go_ret
        refine ⟨rfl, hg, fun _ => ⟨b, o, rfl, hLb, hbw, fun i x hx => ?_, by rw [marksS_len]; exact ht'⟩⟩
        have hi := (List.getElem?_eq_some_iff.1 hx).1
        rw [marksS_len] at hi
        rw [marksS_get hi] at hx
        injection hx with hx
        subst hx
        exact hr i hi

set_option maxRecDepth 100000 in
set_option maxHeartbeats 4000000 in
theorem heldStringS_any (A : Option Addr) (n : Nat) (c : Nat) (k : Nat) (w : World) (h1 : k ≤ 8) (hn : n ≤ 2097152) (hP : StrsAt w w.heap.size A (marksS k n)) :
    Calls Try.prog 57 #[.slice A n c, .int .i64 k] w fun e w' => e = .returned (.int .i64 ((k + n : Nat) : Int)) ∧ Below w.heap.size w w' := by
  go_enter Try.func57, Try.ntmps57
  go_wp2
  go_loopw [1, 5] (fun r i wr => ∃ j : Nat, j ≤ n ∧ i = .int .i64 j ∧ r = .int .i64 ((k + j : Nat) : Int) ∧ Below w.heap.size w wr)
    (fun _ i _ => n - (intOf i).toNat)
  case atStart => exact ⟨0, by omega, rfl, by simp, Below.refl _ _⟩
  case round =>
    obtain ⟨j, hj, rfl, rfl, hB⟩ := hrel
    by_cases hjn : j < n
    · obtain ⟨b, o, rfl, hb, hps⟩ := hP (by intro e; have := congrArg List.length e; rw [marksS_len] at this; simp at this; omega)
      have c0 : wr.cell? ⟨b, o + j, none⟩ = some (.string (mtext (k + j))) := (hB.cell (p := ⟨b, o + j, none⟩) hb).trans (hps j _ (marksS_get hjn))
      have hi : (j : Int) < n := by omega
      have hi0 : (0 : Int) ≤ j := by omega
      have HM := fun w => markText_any (k + j) w (by omega)
      have hc := Over.get c0
      have HMM := hide HM
      clear hps hP c0 HM
      go_wp2
      refine wp_region_over (by kernel_rfl) (by kernel_rfl) ?_
      repeat (go_big_quiet_step ((go_at_call 127; exact over_call (HMM.out _))))
      refine wpQuiet_nil ?_
      intro w1 hb1
      have hB1 := hB.trans (hb1.mono hB.size)
      clear hb1
      go_wp2
      exact ⟨⟨j + 1, by omega, by go_num, by go_num, hB1⟩, by simp [intOf]; omega⟩
    · obtain rfl : j = n := by omega
      go_wp2
      go_ret
      exact ⟨rfl, hB⟩
end Go.Proofs.Ytikndeloeeppaaa
