/- What is left of a width beside some words, and whether they fit: the program's. -/
import Derived.Test.YtjgcadohjccfaaaSpansW
namespace Go.Proofs.Ytjgcadohjccfaaa
open Go Go.RowKit

/-- The first span's left side is y, the last one's right side z. -/
def EndsAt (w : World) (A : Option Addr) (n : Nat) (y z : Int) : Prop :=
  n ≠ 0 → ∃ b o, A = some ⟨b, o, none⟩ ∧ w.cell? ⟨b, o, none⟩ = some (.int .i64 y) ∧ w.cell? ⟨b, o + (n - 1) * 2 + 1, none⟩ = some (.int .i64 z)
def room (x y z : Int) (n : Nat) : Int := if n = 0 then x else x - (z - y)

def fitsB (x y z : Int) (n : Nat) : Bool := decide (0 ≤ room x y z n)

/-- The ends of the words from a to b. -/
theorem ends_seg {w : World} {B : Nat} {F : Fc} {ws : List (List UInt8)} {b o : Nat} (h : CellsAt w B (some ⟨b, o, none⟩) (spanFrom F 0 ws)) {a k : Nat} (ha : a < k) (hk : k ≤ ws.length) :
    EndsAt w (some ⟨b, o + a * 2, none⟩) (k - a) (preL F ws a) (preL F ws (k - 1) + wideL F (ws.getD (k - 1) [])) := fun _ => by
  obtain ⟨b', o', e, _, hc⟩ := h (by intro e; have := congrArg List.length e; rw [spanFrom_len] at this; simp at this; omega)
  injection e with e; injection e with e1 e2; subst e1 e2
  obtain ⟨g1, _⟩ := spanFrom_get F ws 0 a (by omega)
  obtain ⟨_, g2⟩ := spanFrom_get F ws 0 (k - 1) (by omega)
  rw [Int.zero_add] at g1 g2
  refine ⟨b, o + a * 2, rfl, ?_, ?_⟩
  · have := hc _ _ g1; rwa [Nat.mul_comm] at this
  · have := hc _ _ g2
    rwa [show o + a * 2 + (k - a - 1) * 2 + 1 = o + (2 * (k - 1) + 1) by omega]
theorem room_seg (F : Fc) (ws : List (List UInt8)) (x : Int) {a k : Nat} (ha : a < k) (hk : k ≤ ws.length) : room x (preL F ws a) (preL F ws (k - 1) + wideL F (ws.getD (k - 1) [])) (k - a) = roomL F ws x a k := by
  unfold room roomL
  rw [if_neg (by omega), lineL_seg F ws ha hk]
  obtain ⟨j, rfl⟩ : ∃ j, k = j + 1 := ⟨k - 1, by omega⟩
  simp only [preL, Nat.add_sub_cancel]
  omega
end Go.Proofs.Ytjgcadohjccfaaa
