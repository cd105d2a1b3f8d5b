/- What is left of a width beside some words, and whether they fit: the program's. -/
import Derived.Test.YtgklhdacnklhdaaSpansW
namespace Go.Proofs.Ytgklhdacnklhdaa
open Go Go.RowKit

/-- The first span's left side is y, the last one's right side z. -/
def EndsAt (w : World) (A : Option Addr) (n : Nat) (y z : Int) : Prop :=
  n ≠ 0 → ∃ b o, A = some ⟨b, o, none⟩ ∧ w.cell? ⟨b, o, none⟩ = some (.int .i64 y) ∧ w.cell? ⟨b, o + (n - 1) * 2 + 1, none⟩ = some (.int .i64 z)
def room (x y z : Int) (n : Nat) : Int := if n = 0 then x else x - (z - y)

set_option maxRecDepth 100000 in
set_option maxHeartbeats 2000000 in
theorem roomBeside_any (A : Option Addr) (n c : Nat) (x y z : Int) (w : World) (hn : n ≤ 61) (hx : 0 ≤ x ∧ x ≤ 4000) (hy : 0 ≤ y ∧ y ≤ 222040) (hz : 0 ≤ z ∧ z ≤ 229640) (h : EndsAt w A n y z) :
    Calls Try.prog 181 #[.slice A n c, .int .i64 x] w fun e w' => e = .returned (.int .i64 (room x y z n)) ∧ Below w.heap.size w w' := by
  obtain ⟨x0, x1⟩ := hx
  obtain ⟨y0, y1⟩ := hy
  obtain ⟨z0, z1⟩ := hz
  by_cases h0 : n = 0
  · subst h0
    clear h
    go_enter Try.func181, Try.ntmps181
    go_wp2
    go_ret
    exact ⟨ret_int (by unfold room; rfl), Below.refl _ _⟩
  · obtain ⟨b, o, rfl, c1, c2⟩ := h h0
    have HR := hide (show room x y z n = x - (z - y) by unfold room; rw [if_neg h0])
    have hd : decide ((n : Int) = 0) = false := by simp; omega
    have hd' : ((n : Int) == 0) = false := by simp; omega
    have j0 : (0 : Int) < n := by omega
    have j00 : (1 : Int) ≤ n := by omega
    have j1 : (0 : Int) ≤ (n : Int) - 1 := by omega
    have j2 : (n : Int) - 1 < n := by omega
    have j3 : ((n : Int) - 1).toNat = n - 1 := by omega
    have e1 := IntWalk.i64_in ((n : Int) - 1) ⟨by omega, by omega⟩
    have e2 := IntWalk.i64_in (z - y) ⟨by omega, by omega⟩
    have e3 := IntWalk.i64_in (x - (z - y)) ⟨by omega, by omega⟩
    go_enter Try.func181, Try.ntmps181
    go_wp2
    go_quiet (fail)
    go_wp2
    go_ret
    exact ⟨ret_int HR.out.symm, below_drewN (Below.refl _ _) _⟩
def fitsB (x y z : Int) (n : Nat) : Bool := decide (0 ≤ room x y z n)

set_option maxRecDepth 100000 in
set_option maxHeartbeats 2000000 in
theorem fits_any (A : Option Addr) (n c : Nat) (x y z : Int) (w : World) (hn : n ≤ 61) (hx : 0 ≤ x ∧ x ≤ 4000) (hy : 0 ≤ y ∧ y ≤ 222040) (hz : 0 ≤ z ∧ z ≤ 229640) (h : EndsAt w A n y z) :
    Calls Try.prog 136 #[.slice A n c, .int .i64 x] w fun e w' => e = .returned (.bool (fitsB x y z n)) ∧ Below w.heap.size w w' := by
  have HC := hide (roomBeside_any A n c x y z w hn hx hy hz h)
  have HF := hide (show fitsB x y z n = decide (0 ≤ room x y z n) from rfl)
  generalize room x y z n = R at HC HF
  generalize fitsB x y z n = B at HF
  clear h
  go_enter Try.func136, Try.ntmps136
  go_wp2_with (go_at_call 181; refine HC.out.mono ?_; rintro e w1 ⟨rfl, hb1⟩)
  go_ret
  exact ⟨ret_bool HF.out.symm, hb1⟩

/-- The ends of the words from a to b. -/
theorem ends_seg {w : World} {B : Nat} {F : Fc} {ws : List (List UInt8)} {b o : Nat} (h : CellsAt w B (some ⟨b, o, none⟩) (spanFrom F 0 ws)) {a k : Nat} (ha : a < k) (hk : k ≤ ws.length) :
    EndsAt w (some ⟨b, o + a * 2, none⟩) (k - a) (preL F ws a) (preL F ws (k - 1) + wideL F (ws.getD (k - 1) [])) := fun _ => by
  obtain ⟨b', o', e, _, hc⟩ := h (by intro e; have := congrArg List.length e; rw [spanFrom_len] at this; simp at this; omega)
  injection e with e; injection e with e1 e2; subst e1 e2
  obtain ⟨g1, _⟩ := spanFrom_get F ws 0 a (by omega)
  obtain ⟨_, g2⟩ := spanFrom_get F ws 0 (k - 1) (by omega)
  rw [Int.zero_add] at g1 g2
  refine ⟨b, o + a * 2, rfl, ?_, ?_⟩
  · have := hc _ _ g1; rwa [Nat.mul_comm] at this
  · have := hc _ _ g2
    rwa [show o + a * 2 + (k - a - 1) * 2 + 1 = o + (2 * (k - 1) + 1) by omega]
theorem room_seg (F : Fc) (ws : List (List UInt8)) (x : Int) {a k : Nat} (ha : a < k) (hk : k ≤ ws.length) : room x (preL F ws a) (preL F ws (k - 1) + wideL F (ws.getD (k - 1) [])) (k - a) = roomL F ws x a k := by
  unfold room roomL
  rw [if_neg (by omega), lineL_seg F ws ha hk]
  obtain ⟨j, rfl⟩ : ∃ j, k = j + 1 := ⟨k - 1, by omega⟩
  simp only [preL, Nat.add_sub_cancel]
  omega
end Go.Proofs.Ytgklhdacnklhdaa
