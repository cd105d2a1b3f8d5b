/- Rows of any kind that lie in memory, one behind the other. -/
import Derived.Test.YtngondeaeipcfaaDoorG2
namespace Go.Proofs.YtngondeaeipcfaaDoor
open Go.RowKit

section
variable {α : Type} {z : Nat} {c : α → List Value}
/-- What is in xs lies at A, each one in z cells, in a block below B. -/
def RowsAt (z : Nat) (c : α → List Value) (w : World) (B : Nat) (A : Option Addr) (xs : List α) : Prop :=
  xs ≠ [] → ∃ b o, A = some ⟨b, o, none⟩ ∧ b < B ∧ ∀ k x, xs[k]? = some x → w.rangeAt b (o + k * z) (c x)
/-- It lies there in a block from L on, and may be written there. -/
def RowsIn (z : Nat) (c : α → List Value) (w : World) (L : Nat) (A : Option Addr) (xs : List α) : Prop :=
  xs ≠ [] → ∃ b o, A = some ⟨b, o, none⟩ ∧ L ≤ b ∧ b < w.heap.size ∧ (∀ k x, xs[k]? = some x → w.rangeAt b (o + k * z) (c x)) ∧ w.there b o (xs.length * z)
theorem RowsAt.below {w w' : World} {B : Nat} {A : Option Addr} {xs : List α} (h : RowsAt z c w B A xs) (hb : Below B w w') : RowsAt z c w' B A xs := fun hn => by
  obtain ⟨b, o, e, hlt, hc⟩ := h hn
  exact ⟨b, o, e, hlt, fun k x hx => rangeAt_below (hc k x hx) hb hlt⟩
theorem RowsAt.mono {w : World} {B B' : Nat} {A : Option Addr} {xs : List α} (h : RowsAt z c w B A xs) (hB : B ≤ B') : RowsAt z c w B' A xs := fun hn => by
  obtain ⟨b, o, e, hlt, hc⟩ := h hn
  exact ⟨b, o, e, by omega, hc⟩
theorem RowsAt.nil (w : World) (B : Nat) (A : Option Addr) : RowsAt z c w B A [] := fun h => (h rfl).elim
theorem RowsAt.go {w w' : World} {A : Option Addr} {xs : List α} (h : RowsAt z c w w.heap.size A xs) (hb : Below w.heap.size w w') : RowsAt z c w' w'.heap.size A xs := (h.below hb).mono hb.size
theorem RowsIn.at_ {w : World} {L : Nat} {A : Option Addr} {xs : List α} (h : RowsIn z c w L A xs) : RowsAt z c w w.heap.size A xs := fun hn => by
  obtain ⟨b, o, e, _, h2, h3, _⟩ := h hn; exact ⟨b, o, e, h2, h3⟩
theorem RowsIn.empty (w : World) (L : Nat) (A : Option Addr) : RowsIn z c w L A [] := fun h => (h rfl).elim
theorem RowsIn.wider {w : World} {L L' : Nat} {A : Option Addr} {xs : List α} (h : RowsIn z c w L A xs) (hL : L' ≤ L) : RowsIn z c w L' A xs := fun hn => by
  obtain ⟨b, o, e, h1, h2⟩ := h hn; exact ⟨b, o, e, by omega, h2⟩
theorem RowsIn.go {w w' : World} {L : Nat} {A : Option Addr} {xs : List α} (h : RowsIn z c w L A xs) (hb : Below w.heap.size w w') : RowsIn z c w' L A xs := fun hn => by
  obtain ⟨b, o, e, h1, h2, h3, h4⟩ := h hn
  exact ⟨b, o, e, h1, Nat.lt_of_lt_of_le h2 hb.size, fun k x hx => rangeAt_below (h3 k x hx) hb h2, grown_there (r := none) (grown_below hb) h4 h2 (by simp)⟩
def blkR (A : Option Addr) (xs : List α) : Option Nat := match xs with
  | [] => none
  | _ :: _ => A.map (·.block)
theorem blkR_some {b o : Nat} {xs : List α} (h : xs ≠ []) : blkR (some ⟨b, o, none⟩) xs = some b := by
  cases xs with
  | nil => exact (h rfl).elim
  | cons a l => rfl
theorem blkR_nil (A : Option Addr) : blkR A ([] : List α) = none := rfl
theorem RowsIn.blk {w : World} {L : Nat} {A : Option Addr} {xs : List α} (h : RowsIn z c w L A xs) : ∀ k, blkR A xs = some k → L ≤ k ∧ k < w.heap.size := by
  intro k hk
  cases xs with
  | nil => exact absurd hk (by simp [blkR])
  | cons a l =>
    obtain ⟨b, o, rfl, h1, h2, _⟩ := h (by simp)
    simp [blkR] at hk; omega
theorem grown_rowsAt {w w' : World} {r : Option Nat} {B : Nat} (h : w.grownBy w' r) {A : Option Addr} {xs : List α} (hP : RowsAt z c w B A xs) (hB : B ≤ w.heap.size) (hne : ∀ k, r = some k → B ≤ k) : RowsAt z c w' B A xs :=
  hP.below (grown_toBelow h hB hne)
theorem grown_rowsIn {w w' : World} {r : Option Nat} {L : Nat} (h : w.grownBy w' r) {A : Option Addr} {xs : List α} (hP : RowsIn z c w L A xs) (hne : ∀ b, blkR A xs = some b → some b ≠ r) : RowsIn z c w' L A xs := fun hn => by
  obtain ⟨b, o, rfl, h1, h2, h3, h4⟩ := hP hn
  have hb := hne b (blkR_some hn)
  exact ⟨b, o, rfl, h1, Nat.lt_of_lt_of_le h2 h.size, fun k x hx => grown_row h (h3 k x hx) h2 hb, grown_there h h4 h2 hb⟩
end

theorem two_stored {w : World} {g i : Nat} {v0 v1 : Value} (h0 : w.cell? ⟨g, i, none⟩ = some v0) (h1 : w.cell? ⟨g, i + 1, none⟩ = some v1) (x y : Value) :
    ((w.setCell ⟨g, i, none⟩ x).setCell ⟨g, i + 1, none⟩ y).rangeAt g i [x, y] := by
  have a1 : (⟨g, i, none⟩ : Addr) ≠ ⟨g, i + 1, none⟩ := by intro h; injection h with _ h; omega
  intro j u hu
  match j with
  | 0 =>
    obtain rfl : x = u := by simpa using hu
    simp only [Nat.add_zero]
    rw [World.cell?_setCell_other _ _ _ _ a1.symm, World.cell?_setCell_same' _ _ _ (by rw [h0]; rfl)]
  | 1 =>
    obtain rfl : y = u := by simpa using hu
    rw [World.cell?_setCell_same' _ _ _ (by rw [World.cell?_setCell_other _ _ _ _ a1, h1]; rfl)]
  | j + 2 => simp at hu
theorem qleft {P : Program} {f : FuncId} {args : Array Value} {w : World} {n : Nat} {v : Value}
    (h : Calls P f args (w.drewN n) fun e w' => e = .returned v ∧ w.drewN n = w') : Calls P f args (w.drewN n) fun e w'' => e = .returned v ∧ ∃ m, w'' = w.drewN m :=
  h.mono fun _ _ ⟨he, hm⟩ => ⟨he, n, hm.symm⟩
theorem qadd {P : Program} {f : FuncId} {args : Array Value} {w : World} {a n : Nat} {v : Value}
    (h : Calls P f args (w.drewN (a + n)) fun e w' => e = .returned v ∧ w.drewN (a + n) = w') :
    Calls P f args (w.drewN (a + n)) fun e w'' => e = .returned v ∧ ∃ m, w'' = w.drewN (a + m) :=
  h.mono fun _ _ ⟨he, hm⟩ => ⟨he, n, hm.symm⟩
end Go.Proofs.YtngondeaeipcfaaDoor
