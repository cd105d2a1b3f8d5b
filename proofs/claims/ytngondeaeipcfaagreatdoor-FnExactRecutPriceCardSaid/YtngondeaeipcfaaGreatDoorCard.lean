/- A row that lists variables: its reading, with what it lists and with the shape of the world beside it. -/
import Derived.Test.YtngondeaeipcfaaGreatDoorChecked
import Derived.Handed
import Derived.HandedShaped
namespace Go.Proofs.YtngondeaeipcfaaGreatDoor
open Go

theorem returns_listed {H : Type} {enc : TypeId × Value → H} {C : Checked} {os : Os} {f : FuncId} {fn : Func} {s : ChangeSpec} {conds : List PathCond} {a b c d : Bool} {X : World → Array Value → Prop}
    (hX : ∀ (w w' : World) (v : Array Value), w.heap = w'.heap → X w v → X w' v) (own : ownKnob C.prog.godebug = none) (st : os.Started) (hi : C.prog.inits.idxOf? f = none) (hf : C.prog.funcs[f]? = some fn)
    (hw : ∃ (w : World) (t : Tape) (i : Input), w.os = os ∧ (w.forCall t i).Shaped C.prog ∧ i.vars = [] ∧ Input.okWide C.prog (w.forCall t i) .any w.heap.size f i ∧
      ((s.pre enc C.prog fn conds a (w.forCall t i).memory i.args ∧ X (w.forCall t i).memory i.args) ∧ sizedMet enc C.prog fn (OpenSpec.ofChange s) a (w.forCall t i).memory i.args) ∧ ({} : Assume).holds C.prog (lone (Frame.enter C.prog f i.args .normal) [] (w.forCall t i)))
    (h : ∀ (W : World) (base : Nat) (v : Array Value) (ds gs : List (DataW H)) (before : List MemPlace), (∀ (j : Nat) t x, fn.params[j]? = some t → v[j]? = some x → Value.okWide C.prog W .any base t x) →
      DataW.Whole enc C.prog fn.params.toList s.vars a W v.toList ds gs before → conds.all (PathCond.test C.prog ⟨fn.params.toList, ds, s.plain.varTypes C.prog, gs⟩) = true → X W v → W.ShapedOpen C.prog →
      ({} : Assume).holds C.prog (lone (Frame.enter C.prog f v .normal) [] W) → Calls C.prog f v W fun e W' => ∃ r, e = .returned r ∧ s.post enc C.prog fn a b c d W v r W') :
    ReturnsInHanded {} C os f .any (fun w v => (s.pre enc C.prog fn conds a w v ∧ X w v) ∧ sizedMet enc C.prog fn (OpenSpec.ofChange s) a w v) (s.post enc C.prog fn a b c d) := by
  refine returnsInHanded_of_calls own st hi hw fun w t i _ hsh _ hok hp hh => ?_
  have hval : ∀ (j : Nat) t' x, fn.params[j]? = some t' → i.args[j]? = some x → Value.okWide C.prog (w.forCall t i) .any w.heap.size t' x := by
    obtain ⟨_, _, _, fn2, hf2, _, _, _, _, hv⟩ := hok
    cases Option.some.inj (hf.symm.trans hf2)
    exact hv
  obtain ⟨⟨⟨ds, gs, before, hwh, hc⟩, hx⟩, hz⟩ := hp
  have hwh' : DataW.Whole enc C.prog fn.params.toList s.vars a (w.forCall t i) i.args.toList ds gs before := hwh.of_heap (by rfl)
  refine (h _ _ _ ds gs before hval hwh' hc (hX _ _ _ (by rfl) hx) hsh hh).mono ?_
  rintro e W' ⟨r, rfl, hr⟩
  exact ChangeSpec.post_blind hr
end Go.Proofs.YtngondeaeipcfaaGreatDoor
