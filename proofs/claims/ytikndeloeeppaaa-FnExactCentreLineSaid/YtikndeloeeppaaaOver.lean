/- One walk of a region serves every order, where its calls make memory but hand back one value: the class of the worlds that lie over a world. -/
import Derived.Test.YtikndeloeeppaaaBase
import Derived.Deep.QuietTactic
import Derived.BigQuiet
import Derived.Deep.MidRow
namespace Go.Proofs.Ytikndeloeeppaaa
open Go.RowKit

/-- A world that lies over W: what W has is kept. -/
structure Over (W : World) where
  w : World
  h : Below W.heap.size W w
instance Over.inhabited (W : World) : Nonempty (Over W) := ⟨⟨W, Below.refl _ _⟩⟩
theorem Over.size {W : World} (s : Over W) : W.heap.size ≤ s.w.heap.size := s.h.size
theorem Over.cell {W : World} (s : Over W) {p : Addr} (h : p.block < W.heap.size) : s.w.cell? p = W.cell? p := s.h.cell h
theorem Over.get {W : World} {b o : Nat} {v : Value} (h : W.cell? ⟨b, o, none⟩ = some v) (s : Over W) : s.w.cell? ⟨b, o, none⟩ = some v := by
  rw [s.h.cell (p := ⟨b, o, none⟩) (World.block_lt_of_cell? W _ h)]; exact h
theorem wp_region_over {P : Program} {id : Nat} {Q : Exit → Act → World → Prop} {a : Act} {W : World} {l : List Oper} (hm : P.follows .mixedOrders = true) (hB : Region.lexB .any l.toArray = true)
    (h : wpQuiet P l.toArray (fun w' => ∃ s : Over W, w' = s.w) (fun a' => ∀ w', Below W.heap.size W w' → Q .normal a' w') l a) : (Code.region id l.toArray true).wp P Q a W := by
  have e : (fun a' => ∀ w', (∃ s : Over W, w' = s.w) → Q .normal a' w') = (fun a' => ∀ w', Below W.heap.size W w' → Q .normal a' w') := by
    funext a'
    refine propext ⟨fun h w' hb => h w' ⟨⟨w', hb⟩, rfl⟩, fun h w' ⟨s, hs⟩ => h w' (by rw [hs]; exact s.h)⟩
  exact wp_region_quiet (C := fun w' => ∃ s : Over W, w' = s.w) hm hB ⟨⟨W.drew, (Below.refl _ _).drew⟩, rfl⟩ (by rw [e]; exact h)
theorem over_call {P : Program} {f : FuncId} {args : Array Value} {W : World} {s : Over W} {v : Value}
    (h : Calls P f args s.w fun e w' => e = .returned v ∧ Below s.w.heap.size s.w w') : Calls P f args s.w fun e w'' => e = .returned v ∧ ∃ s' : Over W, w'' = s'.w :=
  h.mono fun _ w'' ⟨he, hb⟩ => ⟨he, ⟨w'', s.h.trans (hb.mono s.size)⟩, rfl⟩
theorem over_same {P : Program} {f : FuncId} {args : Array Value} {W : World} {s : Over W} {v : Value}
    (h : Calls P f args s.w fun e w' => e = .returned v ∧ s.w = w') : Calls P f args s.w fun e w'' => e = .returned v ∧ ∃ s' : Over W, w'' = s'.w :=
  h.mono fun _ w'' ⟨he, hb⟩ => ⟨he, s, hb.symm⟩
/-- A row is loaded in a region whose order is open. -/
theorem quiet_load_row {P : Program} {C : World → Prop} {K : Act → Prop} {o : Oper} {a : Act} (ty : TypeId) (x : Operand) (ho : o.op = .load ty x) (b i : Nat) (hx : a.eval x = .pointer (some ⟨b, i, none⟩)) (cs : List Value) (d : TypeDesc)
    (hc : ∀ w, C w → w.rangeAt b i cs) (hu : P.underlying ty = some d) (hd : d.isRow = true) (hi : (P.info? ty).map (·.size) = some cs.length) (hk : K (a.put o.dst (.agg cs.toArray))) : o.quiet P a C K :=
  ⟨_, fun w hw => by
    unfold Oper.quietAt execOp
    simp only [ho, hx, Instr.loadAt, Instr.sureAddr, Sem.run_bind, Sem.run_pure, Result.andThen_ok, run_loadVar_mid w b i ty cs d (hc w hw) hu hd hi]
    exact ⟨rfl, rfl⟩, hk⟩
theorem wpQuiet_load_row {P : Program} {ops : Array Oper} {C : World → Prop} {Q : Act → Prop} {rest : List Oper} {o : Oper} {a : Act} (hw : Region.wanted o (yielded ops a.tmps) = true) (ty : TypeId) (x : Operand) (ho : o.op = .load ty x)
    (b i : Nat) (hx : a.eval x = .pointer (some ⟨b, i, none⟩)) (cs : List Value) (d : TypeDesc)
    (hc : ∀ w, C w → w.rangeAt b i cs) (hu : P.underlying ty = some d) (hd : d.isRow = true) (hi : (P.info? ty).map (·.size) = some cs.length) (h : wpQuiet P ops C Q rest (a.put o.dst (.agg cs.toArray))) : wpQuiet P ops C Q (o :: rest) a :=
  wpQuiet_step fun K hK => by rw [if_pos hw]; exact quiet_load_row ty x ho b i hx cs d hc hu hd hi (hK _ h)
theorem over_row {W : World} {b : Nat} {cs : List Value} (hc : W.rangeAt b 0 cs) (hlt : b < W.heap.size) : ∀ w', (∃ s : Over W, w' = s.w) → w'.rangeAt b 0 cs := fun w' ⟨s, hs⟩ j v hv => by
  rw [hs, s.h.cell (p := ⟨b, 0 + j, none⟩) hlt]; exact hc j v hv
end Go.Proofs.Ytikndeloeeppaaa
