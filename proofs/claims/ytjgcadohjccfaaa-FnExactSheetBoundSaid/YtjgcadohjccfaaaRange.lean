/- A loop over the words of a text. -/
import Derived.Test.YtjgcadohjccfaaaG7
import Derived.Test.YtjgcadohjccfaaaG6
import Derived.Test.YtjgcadohjccfaaaG1
import Derived.Test.YtjgcadohjccfaaaG2
namespace Go.Proofs.Ytjgcadohjccfaaa
open Go Go.RowKit Go.Shelf Go.Sort

/-- A word, as the iterator hands it on. -/
abbrev Wd := { x : List UInt8 // x.length ≤ 60 ∧ allCap x }
def sumW (F : Fc) (ws : List Wd) : Int := (ws.map fun x => wideL F x.1).sum

theorem words_sub {L : List UInt8} (h : vtext L = true) : ∃ ws : List Wd, ws.map (·.1) = itW L := by
  have hall : ∀ x ∈ itW L, x.length ≤ 60 ∧ allCap x := fun x hx => words_mem h (by rw [← itW_words h]; exact hx)
  exact ⟨(itW L).attach.map (fun x => ⟨x.1, hall _ x.2⟩), by simp [List.map_map, Function.comp_def]⟩
theorem sumW_snoc (F : Fc) (pre : List Wd) (x : Wd) : sumW F (pre ++ [x]) = sumW F pre + wideL F x.1 := by simp [sumW]
theorem sumW_bd {F : Fc} (hF : F.ok) (h : vface F = true) : ∀ ws : List Wd, 0 ≤ sumW F ws ∧ sumW F ws ≤ 3600 * ws.length
  | [] => by simp [sumW]
  | x :: r => by
    have ih := sumW_bd hF h r
    have hx := wideL_bd hF h x.2.2 x.2.1
    have e : sumW F (x :: r) = wideL F x.1 + sumW F r := by simp [sumW]
    rw [e]; simp only [List.length_cons]; omega

theorem frozen_below {a b : World} {B : Nat} (h : Below a.heap.size a b) (hB : B < a.heap.size) (hf : a.frozen? ⟨B, 0, none⟩ = false) : b.frozen? ⟨B, 0, none⟩ = false := by
  unfold World.frozen? at *; rw [h.block B hB]; exact hf


theorem keeps_normal {I : List Wd → World → Prop} {Ix : Code → List Wd → World → Prop} {xs : List Wd} {W W' : World} {a : Act} (hk : KeepsOthers W W') (hi : I xs W') : ownPostK KeepsWalks I Ix xs W .normal a W' := ⟨hk, hk.walks, hi⟩
theorem keeps_below {W W' : World} (hb : Below W.heap.size W W') : KeepsOthers W W' := KeepsOthers.of_grownBy (row := none) (grown_below hb) (fun j o h => by cases h)
theorem ownB_below {β : Type} {n₀ B : Nat} {w₀ : World} (hn : n₀ ≤ w₀.heap.size) (hB : n₀ ≤ B) : OwnFrom B (fun (_ : β) W => Below n₀ w₀ W) := ownFrom_below hn hB
theorem own_row {β : Type} {B b o : Nat} {cs : List Value} : OwnFrom B (fun (_ : β) W => W.rangeAt b o cs) := (Own.from (fun _ _ _ _ hs hg hr => fun j v hv => cell_kept (hs j v hv) hg hr) _)
theorem own_cell {β : Type} {B b : Nat} {f : β → Value} : OwnFrom B (fun (x : β) W => W.cell? ⟨b, 0, none⟩ = some (f x) ∧ W.frozen? ⟨b, 0, none⟩ = false) :=
  (Own.from (fun _ _ _ _ hs hg hr => ⟨cell_kept hs.1 hg hr, (frozen_kept hs.1 hg hr).trans hs.2⟩) _)
/-- A variable that holds a row of the call's own. -/
theorem own_owns {β : Type} {B b base e sz : Nat} {n : β → Nat} {cs : β → List Value} : OwnFrom B (fun (x : β) W => ∃ v, (W.cell? ⟨b, 0, none⟩ = some v ∧ W.frozen? ⟨b, 0, none⟩ = false) ∧ W.ownsRow base e sz v (n x) (cs x)) :=
  Own.from (fun s A B row ⟨v, ⟨h1, h2⟩, h3⟩ hg hr => ⟨v, ⟨cell_kept h1 hg hr, (frozen_kept h1 hg hr).trans h2⟩, h3.kept hg (by
    cases hv : v.ownBlock with
    | none => exact .inl rfl
    | some g =>
      refine .inr fun e => ?_
      obtain ⟨o, ho, hc⟩ := hr g e.symm
      rcases h3.2 with ⟨rfl, _⟩ | ⟨g', cap, cur, rfl, _, hg', _⟩
      · cases hv
      · cases hv
        rw [hg'] at ho
        injection ho with ho
        subst ho
        cases hc)⟩) _
theorem own_ne {w : World} {base e sz n : Nat} {v : Value} {cs : List Value} (h : w.ownsRow base e sz v n cs) {b : Nat} (hb : b < base) : some b ≠ v.ownBlock := fun e => by
  have := (h.lt b e.symm).1; omega
theorem own_set {w : World} {base e sz n : Nat} {v : Value} {cs : List Value} (h : w.ownsRow base e sz v n cs) {b : Nat} (hb : b < base) (o : Nat) (u : Value) : (w.setCell ⟨b, o, none⟩ u).ownsRow base e sz v n cs :=
  h.kept (grown_set (grown_refl w _) o u) (by
    cases hv : v.ownBlock with
    | none => exact .inl rfl
    | some g => exact .inr fun e => own_ne h hb (by rw [hv]; exact e.symm))
theorem own_cells {w : World} {base e sz n : Nat} {v : Value} {cs : List Value} (h : w.ownsRow base e sz v n cs) : ∀ (j : Nat) (o : Obj), v.ownBlock = some j → w.heap[j]? = some o → o.isCells = true := by
  intro j o hj ho
  rcases h.2 with ⟨rfl, _⟩ | ⟨g', cap, cur, rfl, _, hg', _⟩
  · cases hj
  · cases hj
    rw [hg'] at ho
    injection ho with ho
    subst ho
    rfl
theorem own_go {w w' : World} {base e sz n : Nat} {v : Value} {cs : List Value} (h : w.ownsRow base e sz v n cs) (hb : Below w.heap.size w w') : w'.ownsRow base e sz v n cs :=
  h.kept (row := none) (grown_below hb) (by cases v.ownBlock with | none => exact .inl rfl | some g => exact .inr (fun e => by cases e))
theorem own_putObj {w : World} {base e sz n : Nat} {v : Value} {cs : List Value} (h : w.ownsRow base e sz v n cs) {D : Nat} {o : Obj} (hD : w.heap[D]? = some o) (ho : o.isCells = false) (o' : Obj) : (w.putObj D o').ownsRow base e sz v n cs :=
  h.kept (grownBy_putObj' w D o') (by
    cases hv : v.ownBlock with
    | none => exact .inl rfl
    | some g => exact .inr fun e => by cases e; rw [own_cells h D o hv hD] at ho; cases ho)
/-- What comes back lies in cells, also when the loop's list of deferred calls has been taken. -/
theorem cellsIn_putObj {w : World} {base e sz n : Nat} {v : Value} {cs : List Value} (h : w.ownsRow base e sz v n cs) (hz : 0 < sz) {D : Nat} {o : Obj} (hD : w.heap[D]? = some o) (ho : o.isCells = false) :
    ∃ A c, v = .slice A n c ∧ n ≤ c ∧ ∀ o', CellsIn (w.putObj D o') base A cs := by
  obtain ⟨A, c, rfl, hc, _⟩ := cellsIn_of_own h hz
  refine ⟨A, c, rfl, hc, fun o' => ?_⟩
  obtain ⟨A2, c2, e, _, h2⟩ := cellsIn_of_own (own_putObj h hD ho o') hz
  injection e with e1 e2 e3
  subst e1
  exact h2
theorem grown_frozen {w w' : World} {r : Option Nat} (h : w.grownBy w' r) {b : Nat} (hb : b < w.heap.size) (hne : some b ≠ r) (hf : w.frozen? ⟨b, 0, none⟩ = false) : w'.frozen? ⟨b, 0, none⟩ = false := by
  rw [World.frozen?_of_block (a := ⟨b, 0, none⟩) (h.block b hb hne)]; exact hf
end Go.Proofs.Ytjgcadohjccfaaa
