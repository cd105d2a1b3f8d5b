/- One walk of a region serves every order, where its calls make memory but hand back one value: the class of the worlds that lie over a world. -/
import Derived.Test.YtkgoceiingddoaaBase
import Derived.Deep.QuietTactic
import Derived.BigQuiet
namespace Go.Proofs.Ytkgoceiingddoaa
open Go.RowKit

/-- A world that lies over W: what W has is kept. -/
structure Over (W : World) where
  w : World
  h : Below W.heap.size W w
instance Over.inhabited (W : World) : Nonempty (Over W) := ⟨⟨W, Below.refl _ _⟩⟩
theorem Over.size {W : World} (s : Over W) : W.heap.size ≤ s.w.heap.size := s.h.size
theorem Over.cell {W : World} (s : Over W) {p : Addr} (h : p.block < W.heap.size) : s.w.cell? p = W.cell? p := s.h.cell h
theorem Over.get {W : World} {b o : Nat} {v : Value} (h : W.cell? ⟨b, o, none⟩ = some v) (s : Over W) : s.w.cell? ⟨b, o, none⟩ = some v := by
  rw [s.h.cell (p := ⟨b, o, none⟩) (World.block_lt_of_cell? W _ h)]; exact h
theorem wp_region_over {P : Program} {id : Nat} {Q : Exit → Act → World → Prop} {a : Act} {W : World} {l : List Oper} (hm : P.follows .mixedOrders = true) (hB : Region.lexB .any l.toArray = true)
    (h : wpQuiet P l.toArray (fun w' => ∃ s : Over W, w' = s.w) (fun a' => ∀ w', Below W.heap.size W w' → Q .normal a' w') l a) : (Code.region id l.toArray true).wp P Q a W := by
  have e : (fun a' => ∀ w', (∃ s : Over W, w' = s.w) → Q .normal a' w') = (fun a' => ∀ w', Below W.heap.size W w' → Q .normal a' w') := by
    funext a'
    refine propext ⟨fun h w' hb => h w' ⟨⟨w', hb⟩, rfl⟩, fun h w' ⟨s, hs⟩ => h w' (by rw [hs]; exact s.h)⟩
  exact wp_region_quiet (C := fun w' => ∃ s : Over W, w' = s.w) hm hB ⟨⟨W.drew, (Below.refl _ _).drew⟩, rfl⟩ (by rw [e]; exact h)
theorem over_call {P : Program} {f : FuncId} {args : Array Value} {W : World} {s : Over W} {v : Value}
    (h : Calls P f args s.w fun e w' => e = .returned v ∧ Below s.w.heap.size s.w w') : Calls P f args s.w fun e w'' => e = .returned v ∧ ∃ s' : Over W, w'' = s'.w :=
  h.mono fun _ w'' ⟨he, hb⟩ => ⟨he, ⟨w'', s.h.trans (hb.mono s.size)⟩, rfl⟩
theorem over_same {P : Program} {f : FuncId} {args : Array Value} {W : World} {s : Over W} {v : Value}
    (h : Calls P f args s.w fun e w' => e = .returned v ∧ s.w = w') : Calls P f args s.w fun e w'' => e = .returned v ∧ ∃ s' : Over W, w'' = s'.w :=
  h.mono fun _ w'' ⟨he, hb⟩ => ⟨he, s, hb.symm⟩
end Go.Proofs.Ytkgoceiingddoaa
