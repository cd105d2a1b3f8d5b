/- A loop over the words of a text. -/
import Derived.Test.YtikndeloeeppaaaSpecLine
import Derived.Test.YtikndeloeeppaaaImplWord
import Derived.Test.YtikndeloeeppaaaTail
import Derived.Test.YtikndeloeeppaaaRound
namespace Go.Proofs.Ytikndeloeeppaaa
open Go Go.RowKit Go.Shelf Go.Sort

/-- A word, as the iterator hands it on. -/
abbrev Wd := { x : List UInt8 // x.length ≤ 60 ∧ allCap x }
def sumW (F : Fc) (ws : List Wd) : Int := (ws.map fun x => wideL F x.1).sum

theorem words_sub {L : List UInt8} (h : vtext L = true) : ∃ ws : List Wd, ws.map (·.1) = itW L := by
  have hall : ∀ x ∈ itW L, x.length ≤ 60 ∧ allCap x := fun x hx => words_mem h (by rw [← itW_words h]; exact hx)
  exact ⟨(itW L).attach.map (fun x => ⟨x.1, hall _ x.2⟩), by simp [List.map_map, Function.comp_def]⟩
theorem sumW_snoc (F : Fc) (pre : List Wd) (x : Wd) : sumW F (pre ++ [x]) = sumW F pre + wideL F x.1 := by simp [sumW]
theorem sumW_bd {F : Fc} (hF : F.ok) (h : vface F = true) : ∀ ws : List Wd, 0 ≤ sumW F ws ∧ sumW F ws ≤ 3600 * ws.length
  | [] => by simp [sumW]
  | x :: r => by
    have ih := sumW_bd hF h r
    have hx := wideL_bd hF h x.2.2 x.2.1
    have e : sumW F (x :: r) = wideL F x.1 + sumW F r := by simp [sumW]
    rw [e]; simp only [List.length_cons]; omega

theorem frozen_below {a b : World} {B : Nat} (h : Below a.heap.size a b) (hB : B < a.heap.size) (hf : a.frozen? ⟨B, 0, none⟩ = false) : b.frozen? ⟨B, 0, none⟩ = false := by
  unfold World.frozen? at *; rw [h.block B hB]; exact hf


/-- The loop goes through the words of the text, or is left. -/
theorem words_range {ps : Array Tmp} {assign body : Code} {Q : Exit → Act → World → Prop} {a : Act} {w : World} {g : Operand} (s : ByteArray) (ws : List Wd) (hws : ws.map (·.1) = itW s.data.toList) (hs : s.size ≤ 1048576) (Bm : Nat)
    (hg : a.eval g = .func (.func 171) #[] #[.pointer (some ⟨Bm, 0, none⟩)]) (hBm : Bm < w.heap.size) (hm : w.cell? ⟨Bm, 0, none⟩ = some (.string s)) (hps : ps.size = 1)
    (I : List Wd → World → Prop) (Ix : Code → List Wd → World → Prop) (hI : OwnFrom w.heap.size I) (hIx : ∀ c, OwnFrom w.heap.size (Ix c)) (h0 : I [] w) (a₁ : Wd → Act)
    (hassign : ∀ (l : Nat) (x : Wd) (W : World) (K : Act → World → Prop), K (a₁ x) W →
      assign.wpIn (Fence.wide.inRound l) (4 - 1 - 1) Try.prog (Exit.then K (fun _ _ _ => False)) { tmps := (ps.zip #[encStr x.1]).foldl (fun t (p, v) => t.setIfInBounds p v) a.tmps, defers := [] } W)
    (hbody : ∀ (l : Nat) (pre : List Wd) (x : Wd) (W : World), I pre W → pre.length < ws.length → body.wpIn (Fence.wide.inRound l) (4 - 1 - 1) Try.prog (ownPostK KeepsWalks I Ix (pre ++ [x]) W) (a₁ x) W)
    (hdone : ∀ (D : Nat) (W : World), w.heap.size ≤ D → I ws W → W.heap[D]? = some (.deferred (some [])) → Q .normal { a with defers := { target := .collected D, args := #[] } :: a.defers } W)
    (hstop : ∀ (D : Nat) (c : Code) (pre : List Wd) (W : World), w.heap.size ≤ D → pre <+: ws → Ix c pre W → W.heap[D]? = some (.deferred (some [])) → c.wpIn Fence.wide 4 Try.prog Q { a with defers := { target := .collected D, args := #[] } :: a.defers } W) :
    (Code.rangeFunc g ps assign body).wpIn Fence.wide 4 Try.prog Q a w :=
  wpIn_rangeFunc_ownF (F := Fence.wide) (n := 4) rfl (by omega) (gf := 171) hg trivial (enters_of Try.func171 (by kernel_rfl) rfl)
    (encs := fun x : Wd => #[encStr x.1]) (Kp := KeepsWalks) (S := fun ys => ys = ws) (Sp := fun pre => pre <+: ws) (N := ws.length) (w0 := w)
    (fun l J Jx W hW hJ hJx hY h0 => (wordsIter_in (fun x : Wd => x.1) s ws hws hs (4 - 1) (by omega) l Bm J Jx hY W hJ ((hW.cell (p := ⟨Bm, 0, none⟩) hBm).trans hm) h0))
    walksK_t walksK_b (Below.refl _ _) (fun _ => by rw [hps]; rfl) I Ix hI hIx h0 a₁ hassign hbody
    (fun D xs W hD hx hi hd => by subst hx; exact hdone D W hD hi hd) hstop

theorem keeps_normal {I : List Wd → World → Prop} {Ix : Code → List Wd → World → Prop} {xs : List Wd} {W W' : World} {a : Act} (hk : KeepsOthers W W') (hi : I xs W') : ownPostK KeepsWalks I Ix xs W .normal a W' := ⟨hk, hk.walks, hi⟩
theorem keeps_below {W W' : World} (hb : Below W.heap.size W W') : KeepsOthers W W' := KeepsOthers.of_grownBy (row := none) (grown_below hb) (fun j o h => by cases h)
theorem ownB_below {β : Type} {n₀ B : Nat} {w₀ : World} (hn : n₀ ≤ w₀.heap.size) (hB : n₀ ≤ B) : OwnFrom B (fun (_ : β) W => Below n₀ w₀ W) := ownFrom_below hn hB
theorem own_row {β : Type} {B b o : Nat} {cs : List Value} : OwnFrom B (fun (_ : β) W => W.rangeAt b o cs) := (Own.from (fun _ _ _ _ hs hg hr => fun j v hv => cell_kept (hs j v hv) hg hr) _)
theorem own_cell {β : Type} {B b : Nat} {f : β → Value} : OwnFrom B (fun (x : β) W => W.cell? ⟨b, 0, none⟩ = some (f x) ∧ W.frozen? ⟨b, 0, none⟩ = false) :=
  (Own.from (fun _ _ _ _ hs hg hr => ⟨cell_kept hs.1 hg hr, (frozen_kept hs.1 hg hr).trans hs.2⟩) _)
end Go.Proofs.Ytikndeloeeppaaa
