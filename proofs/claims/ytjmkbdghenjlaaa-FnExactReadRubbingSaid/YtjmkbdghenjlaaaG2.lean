/- How big a face is, and its copy in the program's own type. · A face is copied: toFace. · Two faces are held against each other: eqFace. · Marks are laid into a face's pairs, and are found there. · Cells at an address, whatever they are. · Lists of numbers in memory: their copies, whether two are equal, their marks. -/
import Derived.Test.YtjmkbdghenjlaaaG1
import Derived.LoopTactic
import Derived.Deep.QuietTactic
import Derived.BigQuiet
import Derived.Outline
import Derived.Deep.RegionHeld3
import Derived.Laws.AppendOwn
import Derived.OwnWalk
import Derived.Laws.OwnMore
import Derived.Below
import Derived.Sort.EncStr
import Derived.WalkKit

namespace Go.Proofs.Ytjmkbdghenjlaaa
open Go.RowKit

/-- What a size leaves. -/
def szL (l : Int) (n : Nat) : Int := if l - n < 0 then -1 else l - n
/-- k numbers have been copied, the rest is 0. -/
def part (W : List Int) (k : Nat) : List Int := W.take k ++ List.replicate (26 - k) 0
theorem part_len {W : List Int} (h : W.length = 26) {k : Nat} (hk : k ≤ 26) : (part W k).length = 26 := by simp [part, h]; omega
theorem part_all {W : List Int} (h : W.length = 26) : part W 26 = W := by simp [part, ← h]
theorem part_succ {W : List Int} (h : W.length = 26) {k : Nat} (hk : k < 26) : (part W k).set k (W.getD k 0) = part W (k + 1) := by
  apply List.ext_getElem
  · rw [List.length_set, part_len h (by omega), part_len h (by omega)]
  · intro i h1 h2
    simp only [part, List.getElem_set, List.getElem_append, List.length_take, List.getElem_take, List.getElem_replicate, h]
    by_cases e : k = i
    · subst e
      have : k < min (k + 1) 26 := by omega
      simp [this, List.getD, h, hk]
    · rw [if_neg e]
      by_cases h3 : i < min k 26
      · have : i < min (k + 1) 26 := by omega
        simp [h3, this]
      · have : ¬ i < min (k + 1) 26 := by omega
        simp [h3, this]
theorem wc_set (W : List Int) (k : Nat) (v : Int) : (wc W).set k (.int .i8 v) = wc (W.set k v) := by simp [wc]

end Go.Proofs.Ytjmkbdghenjlaaa

namespace Go.Proofs.Ytjmkbdghenjlaaa
open Go.RowKit

/-- The cells of a face that has just been made. -/
abbrev zf : Array Value := (fc ⟨List.replicate 26 0, 0, 0, []⟩ (.slice none 0 0)).toArray

end Go.Proofs.Ytjmkbdghenjlaaa

namespace Go.Proofs.Ytjmkbdghenjlaaa
open Go.RowKit

theorem below_drewN {B : Nat} {a w : World} (h : Below B a w) (n : Nat) : Below B a (w.drewN n) := ⟨h.os, h.tape, h.output, h.size, h.block⟩

end Go.Proofs.Ytjmkbdghenjlaaa

namespace Go.Proofs.Ytjmkbdghenjlaaa
open Go.RowKit

/-- The mark of the pair at place j, from number k on. -/
def mkP (k : Int) (j : Nat) : Int × Int × Int := ((k + 3 * j) % 256, (k + 3 * j + 1) % 256, IntKind.i8.wrap (k + 3 * j + 1 + 1))
def marks (k : Int) (n : Nat) : List (Int × Int × Int) := (List.range n).map (mkP k)
theorem marks_len (k : Int) (n : Nat) : (marks k n).length = n := by simp [marks]
theorem marks_get {k : Int} {n j : Nat} (h : j < n) : (marks k n)[j]? = some (mkP k j) := by simp [marks, List.getElem?_range h]
/-- Nothing has changed but one block, and what is new. -/
def blkP (A : Option Addr) (ps : List (Int × Int × Int)) : Option Nat := match ps with
  | [] => none
  | _ :: _ => A.map (·.block)
theorem blkP_bd {w : World} {L : Nat} {A : Option Addr} {ps : List (Int × Int × Int)} (h : PairsIn w L A ps) : ∀ k, blkP A ps = some k → L ≤ k ∧ k < w.heap.size := by
  intro k hk
  cases ps with
  | nil => cases hk
  | cons p r =>
    obtain ⟨b, o, e, h1, h2, _⟩ := h (by simp)
    subst e
    have : b = k := by simpa [blkP] using hk
    omega
theorem blkP_some {b o : Nat} {ps : List (Int × Int × Int)} (h : ps ≠ []) : blkP (some ⟨b, o, none⟩) ps = some b := by
  cases ps with
  | nil => exact (h rfl).elim
  | cons p r => rfl
theorem grown_refl (w : World) (r : Option Nat) : w.grownBy w r := ⟨rfl, rfl, rfl, Nat.le_refl _, fun _ _ _ => rfl⟩
theorem grown_trans {a b c : World} {r : Option Nat} (h : a.grownBy b r) (k : b.grownBy c r) : a.grownBy c r :=
  ⟨k.os.trans h.os, k.tape.trans h.tape, k.output.trans h.output, Nat.le_trans h.size k.size, fun i hi hr => (k.block i (Nat.lt_of_lt_of_le hi h.size) hr).trans (h.block i hi hr)⟩
theorem grown_below {a b : World} {r : Option Nat} (h : Below a.heap.size a b) : a.grownBy b r := ⟨h.os, h.tape, h.output, h.size, fun i hi _ => h.block i hi⟩
theorem grown_set {a b : World} {r : Nat} (h : a.grownBy b (some r)) (o : Nat) (v : Value) : a.grownBy (b.setCell ⟨r, o, none⟩ v) (some r) :=
  ⟨h.os, h.tape, h.output, by rw [size_setCell]; exact h.size, fun i hi hr => (Below.heap_setCell _ _ _ _ (by show i ≠ r; intro e; subst e; exact hr rfl)).trans (h.block i hi hr)⟩
theorem grown_row {w w' : World} {r : Option Nat} (h : w.grownBy w' r) {b o : Nat} {cs : List Value} (hr : w.rangeAt b o cs) (hb : b < w.heap.size) (hne : some b ≠ r) : w'.rangeAt b o cs :=
  fun j v hv => by rw [World.cell?_of_block (a := ⟨b, o + j, none⟩) (h.block b hb hne)]; exact hr j v hv
theorem grown_there {w w' : World} {r : Option Nat} (h : w.grownBy w' r) {b o n : Nat} (hr : w.there b o n) (hb : b < w.heap.size) (hne : some b ≠ r) : w'.there b o n :=
  fun j hj => by
    rw [World.cell?_of_block (a := ⟨b, o + j, none⟩) (h.block b hb hne), World.frozen?_of_block (a := ⟨b, o + j, none⟩) (h.block b hb hne)]; exact hr j hj
theorem grown_pairsAt {w w' : World} {r : Option Nat} {B : Nat} (h : w.grownBy w' r) {A : Option Addr} {ps : List (Int × Int × Int)} (hP : PairsAt w B A ps) (hB : B ≤ w.heap.size) (hne : ∀ k, r = some k → B ≤ k) : PairsAt w' B A ps :=
  fun hn => by
    obtain ⟨b, o, e, hlt, hc⟩ := hP hn
    exact ⟨b, o, e, hlt, fun k p hp => grown_row h (hc k p hp) (by omega) (fun e => by have := hne b e.symm; omega)⟩
theorem grown_pairsIn {w w' : World} {r : Option Nat} {L : Nat} (h : w.grownBy w' r) {A : Option Addr} {ps : List (Int × Int × Int)} (hP : PairsIn w L A ps) (hne : ∀ b, blkP A ps = some b → some b ≠ r) : PairsIn w' L A ps :=
  fun hn => by
    obtain ⟨b, o, e, hl, hlt, hc, ht⟩ := hP hn
    have hb : some b ≠ r := hne b (by rw [e]; exact blkP_some hn)
    exact ⟨b, o, e, hl, Nat.lt_of_lt_of_le hlt h.size, fun k p hp => grown_row h (hc k p hp) hlt hb, grown_there h ht hlt hb⟩
theorem grown_toBelow {w w' : World} {r : Option Nat} {B : Nat} (h : w.grownBy w' r) (hB : B ≤ w.heap.size) (hr : ∀ k, r = some k → B ≤ k) : Below B w w' :=
  ⟨h.os, h.tape, h.output, h.size, fun i hi => h.block i (by omega) (fun e => by have := hr i e.symm; omega)⟩

end Go.Proofs.Ytjmkbdghenjlaaa

namespace Go.Proofs.Ytjmkbdghenjlaaa
open Go Go.RowKit

/-- The cells lie at A, in a block below B. -/
def CellsAt (w : World) (B : Nat) (A : Option Addr) (cs : List Value) : Prop :=
  cs ≠ [] → ∃ b o, A = some ⟨b, o, none⟩ ∧ b < B ∧ w.rangeAt b o cs
/-- The cells lie at A, in a block from L on, and may be written there. -/
def CellsIn (w : World) (L : Nat) (A : Option Addr) (cs : List Value) : Prop :=
  cs ≠ [] → ∃ b o, A = some ⟨b, o, none⟩ ∧ L ≤ b ∧ b < w.heap.size ∧ w.rangeAt b o cs ∧ w.there b o cs.length
theorem CellsAt.below {w w' : World} {B : Nat} {A : Option Addr} {cs : List Value} (h : CellsAt w B A cs) (hb : Below B w w') : CellsAt w' B A cs :=
  fun hn => by obtain ⟨b, o, e, hlt, hc⟩ := h hn; exact ⟨b, o, e, hlt, rangeAt_below hc hb hlt⟩
theorem CellsAt.mono {w : World} {B B' : Nat} {A : Option Addr} {cs : List Value} (h : CellsAt w B A cs) (hB : B ≤ B') : CellsAt w B' A cs :=
  fun hn => by obtain ⟨b, o, e, hlt, hc⟩ := h hn; exact ⟨b, o, e, by omega, hc⟩
theorem CellsAt.go {w w' : World} {A : Option Addr} {cs : List Value} (h : CellsAt w w.heap.size A cs) (hb : Below w.heap.size w w') : CellsAt w' w'.heap.size A cs := (h.below hb).mono hb.size
theorem CellsAt.nil (w : World) (B : Nat) (A : Option Addr) : CellsAt w B A [] := fun h => (h rfl).elim
theorem CellsIn.empty (w : World) (L : Nat) (A : Option Addr) : CellsIn w L A [] := fun h => (h rfl).elim
theorem CellsIn.at_ {w : World} {L : Nat} {A : Option Addr} {cs : List Value} (h : CellsIn w L A cs) : CellsAt w w.heap.size A cs :=
  fun hn => by obtain ⟨b, o, e, _, h2, h3, _⟩ := h hn; exact ⟨b, o, e, h2, h3⟩
theorem CellsIn.wider {w : World} {L L' : Nat} {A : Option Addr} {cs : List Value} (h : CellsIn w L A cs) (hL : L' ≤ L) : CellsIn w L' A cs :=
  fun hn => by obtain ⟨b, o, e, h1, h2⟩ := h hn; exact ⟨b, o, e, by omega, h2⟩
theorem CellsIn.go {w w' : World} {L : Nat} {A : Option Addr} {cs : List Value} (h : CellsIn w L A cs) (hb : Below w.heap.size w w') : CellsIn w' L A cs := fun hn => by
  obtain ⟨b, o, e, h1, h2, h3, h4⟩ := h hn
  exact ⟨b, o, e, h1, Nat.lt_of_lt_of_le h2 hb.size, rangeAt_below h3 hb h2, grown_there (r := none) (grown_below hb) h4 h2 (by simp)⟩
/-- A part of the cells. -/
theorem CellsAt.part {w : World} {B : Nat} {b o : Nat} {cs : List Value} (h : CellsAt w B (some ⟨b, o, none⟩) cs) (k m : Nat) : CellsAt w B (some ⟨b, o + k, none⟩) ((cs.drop k).take m) := fun hn => by
  have hne : cs ≠ [] := by intro e; rw [e] at hn; simp at hn
  obtain ⟨b', o', e, hlt, hc⟩ := h hne
  injection e with e
  injection e with e1 e2
  subst e1 e2
  refine ⟨b, o + k, rfl, hlt, fun j v hv => ?_⟩
  rw [List.getElem?_take] at hv
  split at hv
  · rw [List.getElem?_drop] at hv
    have := hc (k + j) v hv
    rwa [← Nat.add_assoc] at this
  · cases hv
/-- What a row owns, as cells. -/
theorem cellsIn_of_own {w : World} {base e n sz : Nat} {v : Value} {cs : List Value} (h : w.ownsRow base e sz v n cs) (hz : 0 < sz) : ∃ A c, v = .slice A n c ∧ n ≤ c ∧ CellsIn w base A cs := by
  have hl := h.1
  rcases h.2 with ⟨rfl, h0⟩ | ⟨g, cap, cur, rfl, hbg, hg, hnc, _, hsz, htk⟩
  · refine ⟨none, 0, by rw [h0], by omega, fun hne => (hne ?_).elim⟩
    rw [h0] at hl
    exact List.length_eq_zero_iff.1 (by omega)
  · refine ⟨_, cap, rfl, hnc, fun _ => ⟨g, 0, rfl, hbg, (Array.getElem?_eq_some_iff.1 hg).1, fun k x hx => ?_, fun j hj => ?_⟩⟩
    · rw [cell_of_row _ _ _ _ _ _ hg]
      have h1 := hx
      rw [← htk, List.getElem?_take] at h1
      rw [Nat.zero_add]
      split at h1
      · simpa using h1
      · cases h1
    · refine ⟨?_, frozen_of_row _ _ _ _ _ hg⟩
      rw [cell_of_row _ _ _ _ _ _ hg]
      have h2 : n * sz ≤ cap * sz := Nat.mul_le_mul_right _ hnc
      have : 0 + j < cur.size := by rw [hsz]; omega
      simp [this]
      omega
end Go.Proofs.Ytjmkbdghenjlaaa

namespace Go.Proofs.Ytjmkbdghenjlaaa
open Go.RowKit

/-- The numbers xs lie at A, in a block below B. -/
def IntsAt (w : World) (B : Nat) (A : Option Addr) (xs : List Int) : Prop :=
  xs ≠ [] → ∃ b o, A = some ⟨b, o, none⟩ ∧ b < B ∧ ∀ k x, xs[k]? = some x → w.cell? ⟨b, o + k, none⟩ = some (.int .i64 x)
theorem IntsAt.below {w w' : World} {B : Nat} {A : Option Addr} {xs : List Int} (h : IntsAt w B A xs) (hb : Below B w w') : IntsAt w' B A xs :=
  fun hn => by obtain ⟨b, o, e, hlt, hc⟩ := h hn; exact ⟨b, o, e, hlt, fun k x hx => (hb.cell (p := ⟨b, o + k, none⟩) hlt).trans (hc k x hx)⟩
theorem IntsAt.mono {w : World} {B B' : Nat} {A : Option Addr} {xs : List Int} (h : IntsAt w B A xs) (hB : B ≤ B') : IntsAt w B' A xs :=
  fun hn => by obtain ⟨b, o, e, hlt, hc⟩ := h hn; exact ⟨b, o, e, by omega, hc⟩
theorem IntsAt.nil (w : World) (B : Nat) (A : Option Addr) : IntsAt w B A [] := fun h => (h rfl).elim
theorem IntsAt.go {W w' : World} {A : Option Addr} {xs : List Int} (h : IntsAt W W.heap.size A xs) (hb : Below W.heap.size W w') : IntsAt w' w'.heap.size A xs := (h.below hb).mono hb.size
/-- The numbers xs lie at A, in a block from L on, and may be written there. -/
def IntsIn (w : World) (L : Nat) (A : Option Addr) (xs : List Int) : Prop :=
  xs ≠ [] → ∃ b o, A = some ⟨b, o, none⟩ ∧ L ≤ b ∧ b < w.heap.size ∧ (∀ k x, xs[k]? = some x → w.cell? ⟨b, o + k, none⟩ = some (.int .i64 x)) ∧ w.there b o xs.length
theorem IntsIn.at_ {w : World} {L : Nat} {A : Option Addr} {xs : List Int} (h : IntsIn w L A xs) : IntsAt w w.heap.size A xs :=
  fun hn => by obtain ⟨b, o, e, _, h2, h3, _⟩ := h hn; exact ⟨b, o, e, h2, h3⟩
theorem IntsIn.empty (w : World) (L : Nat) (A : Option Addr) : IntsIn w L A [] := fun h => (h rfl).elim
theorem IntsIn.wider {w : World} {L L' : Nat} {A : Option Addr} {xs : List Int} (h : IntsIn w L A xs) (hL : L' ≤ L) : IntsIn w L' A xs :=
  fun hn => by obtain ⟨b, o, e, h1, h2⟩ := h hn; exact ⟨b, o, e, by omega, h2⟩
theorem IntsIn.go {w w' : World} {L : Nat} {A : Option Addr} {xs : List Int} (h : IntsIn w L A xs) (hb : Below w.heap.size w w') : IntsIn w' L A xs := fun hn => by
  obtain ⟨b, o, e, h1, h2, h3, h4⟩ := h hn
  exact ⟨b, o, e, h1, Nat.lt_of_lt_of_le h2 hb.size, fun k x hx => (hb.cell (p := ⟨b, o + k, none⟩) h2).trans (h3 k x hx), grown_there (r := none) (grown_below hb) h4 h2 (by simp)⟩
/-- The block that the numbers lie in. -/
def blkI (A : Option Addr) (xs : List Int) : Option Nat := match xs with
  | [] => none
  | _ :: _ => A.map (·.block)
theorem blkI_some {b o : Nat} {xs : List Int} (h : xs ≠ []) : blkI (some ⟨b, o, none⟩) xs = some b := by
  cases xs with
  | nil => exact (h rfl).elim
  | cons a t => rfl
theorem blkI_bd {w : World} {L : Nat} {A : Option Addr} {xs : List Int} (h : IntsIn w L A xs) : ∀ k, blkI A xs = some k → L ≤ k ∧ k < w.heap.size := by
  intro k hk
  cases xs with
  | nil => cases hk
  | cons a t =>
    obtain ⟨b, o, rfl, h1, h2, _⟩ := h (by simp)
    cases hk
    exact ⟨h1, h2⟩
theorem grown_intsAt {w w' : World} {r : Option Nat} {B : Nat} (h : w.grownBy w' r) {A : Option Addr} {xs : List Int} (hP : IntsAt w B A xs) (hB : B ≤ w.heap.size) (hne : ∀ k, r = some k → B ≤ k) : IntsAt w' B A xs :=
  hP.below (grown_toBelow h hB hne)
theorem IntsIn.of_cells {w : World} {L : Nat} {A : Option Addr} {xs : List Int} (h : CellsIn w L A (xs.map (.int .i64))) : IntsIn w L A xs := fun hn => by
  obtain ⟨b, o, e, h1, h2, h3, h4⟩ := h (by intro e; exact hn (List.map_eq_nil_iff.1 e))
  refine ⟨b, o, e, h1, h2, fun k x hx => h3 k _ (by rw [List.getElem?_map, hx]; rfl), by rwa [List.length_map] at h4⟩
theorem intsIn_of_own {w : World} {base e n : Nat} {v : Value} {xs : List Int} (h : w.ownsRow base e 1 v n (xs.map (.int .i64))) : ∃ A c, v = .slice A n c ∧ n ≤ c ∧ IntsIn w base A xs := by
  obtain ⟨A, c, e1, h1, h2⟩ := cellsIn_of_own h (by omega)
  exact ⟨A, c, e1, h1, .of_cells h2⟩
theorem IntsAt.cells {w : World} {B : Nat} {A : Option Addr} {xs : List Int} (h : IntsAt w B A xs) : CellsAt w B A (xs.map (.int .i64)) := fun hn => by
  obtain ⟨b, o, e, h1, h2⟩ := h (by intro e; rw [e] at hn; exact hn rfl)
  refine ⟨b, o, e, h1, fun j v hv => ?_⟩
  rw [List.getElem?_map] at hv
  obtain ⟨x, hx, rfl⟩ := Option.map_eq_some_iff.1 hv
  exact h2 j x hx
theorem grown_intsIn {w w' : World} {r : Option Nat} {L : Nat} (h : w.grownBy w' r) {A : Option Addr} {xs : List Int} (hP : IntsIn w L A xs) (hne : ∀ b, blkI A xs = some b → some b ≠ r) : IntsIn w' L A xs := fun hn => by
  obtain ⟨b, o, rfl, h1, h2, h3, h4⟩ := hP hn
  have hb := hne b (blkI_some hn)
  exact ⟨b, o, rfl, h1, Nat.lt_of_lt_of_le h2 h.size, fun k x hx => h.cell (h3 k x hx) hb, grown_there h h4 h2 hb⟩
/-- Numbers and a code come back, the numbers in memory of the call's own. -/
def IntsBack (xs : List Int) (code : Int) (w : World) : Ending → World → Prop := fun e w' =>
  ∃ A c, e = .returned (.tuple #[.slice A xs.length c, .int .i64 code]) ∧ IntsIn w' w.heap.size A xs ∧ Below w.heap.size w w'

theorem Try.infoI64 : (Try.prog.info? 2).map (fun i => (i.zero, i.size, i.bytes)) = some (some (.int .i64 0), 1, 8) := by kernel_rfl

def marksI (k n : Nat) : List Int := (List.range n).map fun j => ((k + j : Nat) : Int)
theorem marksI_len (k n : Nat) : (marksI k n).length = n := by simp [marksI]
theorem marksI_get {k n j : Nat} (h : j < n) : (marksI k n)[j]? = some ((k + j : Nat) : Int) := by simp [marksI, List.getElem?_range h]

end Go.Proofs.Ytjmkbdghenjlaaa
