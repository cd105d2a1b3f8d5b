/- Rows of any kind that lie in memory, one behind the other. · Rows of any kind as one list of cells; lists of them that have been appended to. -/
import Derived.Test.YtngondeaeipcfaaGreatDoorG2
import Derived.OwnWalk
import Derived.Laws.OwnMore
import Derived.Lib.SliceRun

namespace Go.Proofs.YtngondeaeipcfaaGreatDoor
open Go.RowKit

section
variable {α : Type} {z : Nat} {c : α → List Value}
/-- What is in xs lies at A, each one in z cells, in a block below B. -/
def RowsAt (z : Nat) (c : α → List Value) (w : World) (B : Nat) (A : Option Addr) (xs : List α) : Prop :=
  xs ≠ [] → ∃ b o, A = some ⟨b, o, none⟩ ∧ b < B ∧ ∀ k x, xs[k]? = some x → w.rangeAt b (o + k * z) (c x)
/-- It lies there in a block from L on, and may be written there. -/
def RowsIn (z : Nat) (c : α → List Value) (w : World) (L : Nat) (A : Option Addr) (xs : List α) : Prop :=
  xs ≠ [] → ∃ b o, A = some ⟨b, o, none⟩ ∧ L ≤ b ∧ b < w.heap.size ∧ (∀ k x, xs[k]? = some x → w.rangeAt b (o + k * z) (c x)) ∧ w.there b o (xs.length * z)
theorem RowsAt.below {w w' : World} {B : Nat} {A : Option Addr} {xs : List α} (h : RowsAt z c w B A xs) (hb : Below B w w') : RowsAt z c w' B A xs := fun hn => by
  obtain ⟨b, o, e, hlt, hc⟩ := h hn
  exact ⟨b, o, e, hlt, fun k x hx => rangeAt_below (hc k x hx) hb hlt⟩
theorem RowsAt.mono {w : World} {B B' : Nat} {A : Option Addr} {xs : List α} (h : RowsAt z c w B A xs) (hB : B ≤ B') : RowsAt z c w B' A xs := fun hn => by
  obtain ⟨b, o, e, hlt, hc⟩ := h hn
  exact ⟨b, o, e, by omega, hc⟩
theorem RowsAt.nil (w : World) (B : Nat) (A : Option Addr) : RowsAt z c w B A [] := fun h => (h rfl).elim
theorem RowsAt.go {w w' : World} {A : Option Addr} {xs : List α} (h : RowsAt z c w w.heap.size A xs) (hb : Below w.heap.size w w') : RowsAt z c w' w'.heap.size A xs := (h.below hb).mono hb.size
theorem RowsIn.at_ {w : World} {L : Nat} {A : Option Addr} {xs : List α} (h : RowsIn z c w L A xs) : RowsAt z c w w.heap.size A xs := fun hn => by
  obtain ⟨b, o, e, _, h2, h3, _⟩ := h hn; exact ⟨b, o, e, h2, h3⟩
theorem RowsIn.empty (w : World) (L : Nat) (A : Option Addr) : RowsIn z c w L A [] := fun h => (h rfl).elim
theorem RowsIn.wider {w : World} {L L' : Nat} {A : Option Addr} {xs : List α} (h : RowsIn z c w L A xs) (hL : L' ≤ L) : RowsIn z c w L' A xs := fun hn => by
  obtain ⟨b, o, e, h1, h2⟩ := h hn; exact ⟨b, o, e, by omega, h2⟩
theorem RowsIn.go {w w' : World} {L : Nat} {A : Option Addr} {xs : List α} (h : RowsIn z c w L A xs) (hb : Below w.heap.size w w') : RowsIn z c w' L A xs := fun hn => by
  obtain ⟨b, o, e, h1, h2, h3, h4⟩ := h hn
  exact ⟨b, o, e, h1, Nat.lt_of_lt_of_le h2 hb.size, fun k x hx => rangeAt_below (h3 k x hx) hb h2, grown_there (r := none) (grown_below hb) h4 h2 (by simp)⟩
def blkR (A : Option Addr) (xs : List α) : Option Nat := match xs with
  | [] => none
  | _ :: _ => A.map (·.block)
theorem blkR_some {b o : Nat} {xs : List α} (h : xs ≠ []) : blkR (some ⟨b, o, none⟩) xs = some b := by
  cases xs with
  | nil => exact (h rfl).elim
  | cons a l => rfl
theorem blkR_nil (A : Option Addr) : blkR A ([] : List α) = none := rfl
theorem RowsIn.blk {w : World} {L : Nat} {A : Option Addr} {xs : List α} (h : RowsIn z c w L A xs) : ∀ k, blkR A xs = some k → L ≤ k ∧ k < w.heap.size := by
  intro k hk
  cases xs with
  | nil => exact absurd hk (by simp [blkR])
  | cons a l =>
    obtain ⟨b, o, rfl, h1, h2, _⟩ := h (by simp)
    simp [blkR] at hk; omega
theorem grown_rowsAt {w w' : World} {r : Option Nat} {B : Nat} (h : w.grownBy w' r) {A : Option Addr} {xs : List α} (hP : RowsAt z c w B A xs) (hB : B ≤ w.heap.size) (hne : ∀ k, r = some k → B ≤ k) : RowsAt z c w' B A xs :=
  hP.below (grown_toBelow h hB hne)
theorem grown_rowsIn {w w' : World} {r : Option Nat} {L : Nat} (h : w.grownBy w' r) {A : Option Addr} {xs : List α} (hP : RowsIn z c w L A xs) (hne : ∀ b, blkR A xs = some b → some b ≠ r) : RowsIn z c w' L A xs := fun hn => by
  obtain ⟨b, o, rfl, h1, h2, h3, h4⟩ := hP hn
  have hb := hne b (blkR_some hn)
  exact ⟨b, o, rfl, h1, Nat.lt_of_lt_of_le h2 h.size, fun k x hx => grown_row h (h3 k x hx) h2 hb, grown_there h h4 h2 hb⟩
end

theorem two_stored {w : World} {g i : Nat} {v0 v1 : Value} (h0 : w.cell? ⟨g, i, none⟩ = some v0) (h1 : w.cell? ⟨g, i + 1, none⟩ = some v1) (x y : Value) :
    ((w.setCell ⟨g, i, none⟩ x).setCell ⟨g, i + 1, none⟩ y).rangeAt g i [x, y] := by
  have a1 : (⟨g, i, none⟩ : Addr) ≠ ⟨g, i + 1, none⟩ := by intro h; injection h with _ h; omega
  intro j u hu
  match j with
  | 0 =>
    obtain rfl : x = u := by simpa using hu
    simp only [Nat.add_zero]
    rw [World.cell?_setCell_other _ _ _ _ a1.symm, World.cell?_setCell_same' _ _ _ (by rw [h0]; rfl)]
  | 1 =>
    obtain rfl : y = u := by simpa using hu
    rw [World.cell?_setCell_same' _ _ _ (by rw [World.cell?_setCell_other _ _ _ _ a1, h1]; rfl)]
  | j + 2 => simp at hu
theorem qleft {P : Program} {f : FuncId} {args : Array Value} {w : World} {n : Nat} {v : Value}
    (h : Calls P f args (w.drewN n) fun e w' => e = .returned v ∧ w.drewN n = w') : Calls P f args (w.drewN n) fun e w'' => e = .returned v ∧ ∃ m, w'' = w.drewN m :=
  h.mono fun _ _ ⟨he, hm⟩ => ⟨he, n, hm.symm⟩
theorem qadd {P : Program} {f : FuncId} {args : Array Value} {w : World} {a n : Nat} {v : Value}
    (h : Calls P f args (w.drewN (a + n)) fun e w' => e = .returned v ∧ w.drewN (a + n) = w') :
    Calls P f args (w.drewN (a + n)) fun e w'' => e = .returned v ∧ ∃ m, w'' = w.drewN (a + m) :=
  h.mono fun _ _ ⟨he, hm⟩ => ⟨he, n, hm.symm⟩
end Go.Proofs.YtngondeaeipcfaaGreatDoor

namespace Go.Proofs.YtngondeaeipcfaaGreatDoor
open Go.RowKit

section
variable {α : Type} {z : Nat} {c : α → List Value}
theorem flatG_len (hl : ∀ a, (c a).length = z) : ∀ xs : List α, (xs.flatMap c).length = xs.length * z
  | [] => by simp
  | a :: r => by rw [List.flatMap_cons, List.length_append, hl, flatG_len hl r, List.length_cons, Nat.add_mul]; omega
theorem flatG_get (hl : ∀ a, (c a).length = z) {xs : List α} {k j : Nat} {p : α} {v : Value} (hp : xs[k]? = some p) (hv : (c p)[j]? = some v) : (xs.flatMap c)[k * z + j]? = some v := by
  induction xs generalizing k with
  | nil => simp at hp
  | cons q r ih =>
    have hj : j < z := by have := (List.getElem?_eq_some_iff.1 hv).1; rw [hl] at this; exact this
    rw [List.flatMap_cons]
    cases k with
    | zero =>
      simp at hp; subst hp
      rw [Nat.zero_mul, Nat.zero_add, List.getElem?_append_left (by rw [hl]; exact hj)]; exact hv
    | succ k =>
      have e : (k + 1) * z + j - (c q).length = k * z + j := by rw [hl, Nat.add_mul]; omega
      rw [List.getElem?_append_right (by rw [hl, Nat.add_mul]; omega), e]
      exact ih (by simpa using hp)
theorem flatG_inv (hl : ∀ a, (c a).length = z) (hz : 0 < z) {xs : List α} {i : Nat} {v : Value} (h : (xs.flatMap c)[i]? = some v) : ∃ p, xs[i / z]? = some p ∧ (c p)[i % z]? = some v := by
  have hi := (List.getElem?_eq_some_iff.1 h).1
  rw [flatG_len hl] at hi
  have hk : i / z < xs.length := (Nat.div_lt_iff_lt_mul hz).2 hi
  have hp : xs[i / z]? = some (xs[i / z]'hk) := List.getElem?_eq_getElem _
  have hr : i % z < (c (xs[i / z]'hk)).length := by rw [hl]; exact Nat.mod_lt _ hz
  have hv : (c (xs[i / z]'hk))[i % z]? = some ((c (xs[i / z]'hk))[i % z]'hr) := List.getElem?_eq_getElem _
  have hf := flatG_get hl hp hv
  have e : i / z * z + i % z = i := by rw [Nat.mul_comm]; exact Nat.div_add_mod i z
  rw [e, h] at hf
  exact ⟨_, hp, by rw [hv, ← Option.some.inj hf]⟩
theorem flatG_one (h1 : ∀ a, ∀ u ∈ c a, u.oneCell' = true) (xs : List α) : ∀ u ∈ xs.flatMap c, u.oneCell' = true := by
  intro u hu
  obtain ⟨a, _, h⟩ := List.mem_flatMap.1 hu
  exact h1 a u h
theorem rowsIn_of_own (hl : ∀ a, (c a).length = z) (hz : 0 < z) {w : World} {base e n : Nat} {v : Value} {xs : List α} (h : w.ownsRow base e z v n (xs.flatMap c)) (hn : n = xs.length) :
    ∃ A' c', v = .slice A' n c' ∧ n ≤ c' ∧ RowsIn z c w base A' xs := by
  rcases h.2 with ⟨rfl, h0⟩ | ⟨g, cap, cur, rfl, hbg, hg, hnc, _, hsz, htk⟩
  · exact ⟨none, 0, by rw [h0], by omega, fun hne => (hne (List.length_eq_zero_iff.1 (by omega))).elim⟩
  · refine ⟨_, cap, rfl, hnc, fun _ => ⟨g, 0, rfl, hbg, (Array.getElem?_eq_some_iff.1 hg).1, fun k p hp j u hu => ?_, fun j hj => ?_⟩⟩
    · rw [cell_of_row _ _ _ _ _ _ hg]
      have := flatG_get hl hp hu
      rw [← htk, List.getElem?_take] at this
      rw [Nat.zero_add]
      split at this
      · simpa using this
      · cases this
    · refine ⟨?_, frozen_of_row _ _ _ _ _ hg⟩
      rw [cell_of_row _ _ _ _ _ _ hg]
      have h1 : xs.length * z ≤ cap * z := Nat.mul_le_mul_right _ (by omega)
      have : 0 + j < cur.size := by rw [hsz]; omega
      simp [this]
      omega
theorem addAt (b o i : Nat) : (⟨b, o, none⟩ : Addr).add i = ⟨b, o + i, none⟩ := by unfold Addr.add; split <;> simp_all
theorem rowsNews (hl : ∀ a, (c a).length = z) (hz : 0 < z) {w : World} {b o : Nat} {xs : List α} (hP : ∀ k p, xs[k]? = some p → w.rangeAt b (o + k * z) (c p)) : ∀ j u, (xs.flatMap c)[j]? = some u → w.cell? ((⟨b, o, none⟩ : Addr).add j) = some u := by
  intro j u hu
  obtain ⟨p, hp, hv⟩ := flatG_inv hl hz hu
  have := hP _ p hp _ u hv
  rw [addAt]
  have e : o + j / z * z + j % z = o + j := by rw [Nat.add_assoc, Nat.mul_comm, Nat.div_add_mod]
  rw [e] at this; exact this
end
end Go.Proofs.YtngondeaeipcfaaGreatDoor
