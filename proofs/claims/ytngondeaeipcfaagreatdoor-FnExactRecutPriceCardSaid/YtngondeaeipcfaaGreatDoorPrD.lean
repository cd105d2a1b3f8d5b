/- Pairs of numbers as plain data. -/
import Derived.Test.YtngondeaeipcfaaGreatDoorG2
import Derived.Test.YtngondeaeipcfaaGreatDoorG6
import Derived.LoopTactic
import Derived.Maps.AppendAt
namespace Go.Proofs.YtngondeaeipcfaaGreatDoor
open Go.RowKit

abbrev Pr := Int × Int
/-- All numbers of the pairs, one behind the other. -/
def fl (ps : List Pr) : List Int := ps.flatMap fun p => [p.1, p.2]
theorem fl_len (ps : List Pr) : (fl ps).length = 2 * ps.length := by
  induction ps with
  | nil => rfl
  | cons p r ih => simp only [fl, List.flatMap_cons, List.length_append, List.length_cons] at *; rw [ih]; simp; omega
theorem fl_app (ps qs : List Pr) : fl (ps ++ qs) = fl ps ++ fl qs := by simp [fl]
theorem fl_one (x y : Int) : fl [(x, y)] = [x, y] := rfl
theorem fl_get : ∀ {ps : List Pr} {k : Nat} {x y : Int}, ps[k]? = some (x, y) → (fl ps)[2 * k]? = some x ∧ (fl ps)[2 * k + 1]? = some y
  | [], k, x, y, h => by simp at h
  | p :: r, 0, x, y, h => by
    simp at h; subst h; exact ⟨rfl, rfl⟩
  | p :: r, k + 1, x, y, h => by
    have := fl_get (ps := r) (k := k) (x := x) (y := y) (by simpa using h)
    have e : fl (p :: r) = p.1 :: p.2 :: fl r := rfl
    rw [e, show 2 * (k + 1) = 2 * k + 1 + 1 by omega]
    simpa using this
def P2At (w : World) (B : Nat) (A : Option Addr) (ps : List Pr) : Prop := IntsAt w B A (fl ps)
def P2In (w : World) (L : Nat) (A : Option Addr) (ps : List Pr) : Prop := IntsIn w L A (fl ps)
theorem P2In.at_ {w : World} {L : Nat} {A : Option Addr} {ps : List Pr} (h : P2In w L A ps) : P2At w w.heap.size A ps := IntsIn.at_ h
theorem P2In.go {w w' : World} {L : Nat} {A : Option Addr} {ps : List Pr} (h : P2In w L A ps) (hb : Below w.heap.size w w') : P2In w' L A ps := IntsIn.go h hb
theorem P2In.wider {w : World} {L L' : Nat} {A : Option Addr} {ps : List Pr} (h : P2In w L A ps) (hL : L' ≤ L) : P2In w L' A ps := IntsIn.wider h hL
theorem P2In.empty (w : World) (L : Nat) (A : Option Addr) : P2In w L A [] := fun h => (h rfl).elim
theorem P2At.below {w w' : World} {B : Nat} {A : Option Addr} {ps : List Pr} (h : P2At w B A ps) (hb : Below B w w') : P2At w' B A ps := IntsAt.below h hb
theorem P2At.mono {w : World} {B B' : Nat} {A : Option Addr} {ps : List Pr} (h : P2At w B A ps) (hB : B ≤ B') : P2At w B' A ps := IntsAt.mono h hB
theorem P2At.go {W w' : World} {A : Option Addr} {ps : List Pr} (h : P2At W W.heap.size A ps) (hb : Below W.heap.size W w') : P2At w' w'.heap.size A ps := IntsAt.go h hb
def blk2 (A : Option Addr) (ps : List Pr) : Option Nat := blkI A (fl ps)
theorem blk2_bd {w : World} {L : Nat} {A : Option Addr} {ps : List Pr} (h : P2In w L A ps) : ∀ k, blk2 A ps = some k → L ≤ k ∧ k < w.heap.size := blkI_bd h
theorem grown_p2In {w w' : World} {r : Option Nat} {L : Nat} (h : w.grownBy w' r) {A : Option Addr} {ps : List Pr} (hP : P2In w L A ps) (hne : ∀ b, blk2 A ps = some b → some b ≠ r) : P2In w' L A ps := grown_intsIn h hP hne
theorem grown_p2At {w w' : World} {r : Option Nat} {B : Nat} (h : w.grownBy w' r) {A : Option Addr} {ps : List Pr} (hP : P2At w B A ps) (hB : B ≤ w.heap.size) (hne : ∀ k, r = some k → B ≤ k) : P2At w' B A ps := grown_intsAt h hP hB hne
/-- A pair lies there. -/
theorem P2At.row {w : World} {B : Nat} {A : Option Addr} {ps : List Pr} (h : P2At w B A ps) {k : Nat} {x y : Int} (hk : ps[k]? = some (x, y)) :
    ∃ b o, A = some ⟨b, o, none⟩ ∧ b < B ∧ w.cell? ⟨b, o + k * 2, none⟩ = some (.int .i64 x) ∧ w.cell? ⟨b, o + k * 2 + 1, none⟩ = some (.int .i64 y) := by
  obtain ⟨h1, h2⟩ := fl_get hk
  obtain ⟨b, o, e, hb, hc⟩ := h (by intro e; rw [e] at h1; simp at h1)
  refine ⟨b, o, e, hb, ?_, ?_⟩
  · rw [show o + k * 2 = o + 2 * k by omega]; exact hc _ _ h1
  · rw [show o + k * 2 + 1 = o + (2 * k + 1) by omega]; exact hc _ _ h2
/-- A list of pairs and a code come back. -/
def P2Back (R : List Pr) (code : Int) (w : World) : Ending → World → Prop := fun e w' =>
  ∃ A c, e = .returned (.tuple #[.slice A R.length c, .int .i64 code]) ∧ P2In w' w.heap.size A R ∧ Below w.heap.size w w'
theorem p2In_of_own {w : World} {base e n : Nat} {v : Value} {ps : List Pr} (h : w.ownsRow base e 2 v n ((fl ps).map (.int .i64))) : ∃ A c, v = .slice A n c ∧ n ≤ c ∧ P2In w base A ps := by
  obtain ⟨A, c, h1, h2, h3⟩ := cellsIn_of_own h (by omega)
  exact ⟨A, c, h1, h2, IntsIn.of_cells h3⟩

theorem two_cell {w : World} {t : TypeId} (u v : Value) : ∀ (j : Nat) (x : Value), [u, v][j]? = some x → (w.alloc (.cells #[u, v] t)).cell? ((⟨w.heap.size, 0, none⟩ : Addr).add j) = some x := by
  intro j x hx
  rw [addr_add, Nat.zero_add, cell_of_row _ _ _ _ _ _ (heap_alloc_new w _)]
  simpa using hx
theorem two_one {u v : Value} (h : u.oneCell' = true) (h' : v.oneCell' = true) : ∀ x ∈ [u, v], x.oneCell' = true := by
  intro x hx; simp at hx; rcases hx with rfl | rfl <;> assumption
end Go.Proofs.YtngondeaeipcfaaGreatDoor
