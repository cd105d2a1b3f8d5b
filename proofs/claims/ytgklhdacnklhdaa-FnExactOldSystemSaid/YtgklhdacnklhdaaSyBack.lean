/- A system that comes back, in memory of its own. -/
import Derived.Test.YtgklhdacnklhdaaSys
namespace Go.Proofs.Ytgklhdacnklhdaa
open Go.RowKit
/-- A result that lies in memory, and a number behind it. -/
theorem results_row2 {P : Program} {fn : Func} {p q : Tmp} {ty : TypeId} (h : fn.results = #[.cell p ty, .tmp q]) (tmps : Array Value) (w : World) (b o : Nat) (cs : List Value) (d : TypeDesc)
    (hp : tmps.getD p undef = .pointer (some ⟨b, o, none⟩)) (hc : w.rangeAt b o cs)
    (hu : P.underlying ty = some d) (hd : d.isRow = true) (hi : (P.info? ty).map (·.size) = some cs.length) :
    (results fn tmps).run P w = .ok (.tuple #[.agg cs.toArray, tmps.getD q undef]) w := by
  have hp' : tmps[p]?.getD undef = .pointer (some ⟨b, o, none⟩) := by simpa using hp
  simp [results, h, hp', asAddr, run_loadVar_mid w b o ty cs d hc hu hd hi]
def SysBack (R : Sy) (code : Int) (w : World) : Ending → World → Prop := fun e w' =>
  ∃ A D c d, e = .returned (.tuple #[sv R A D c d, .int .i64 code]) ∧ SyIn w' w.heap.size A D R ∧ Below w.heap.size w w'
def SysRet (R : Sy) (w : World) : Ending → World → Prop := fun e w' =>
  ∃ A D c d, e = .returned (sv R A D c d) ∧ SyIn w' w.heap.size A D R ∧ Below w.heap.size w w'
def Sy0 : Sy := ⟨[], []⟩
theorem Sy0_ok : Sy0.ok := ⟨fun _ h => (by cases h), fun _ h => (by cases h), by show 0 ≤ maxLen; omega, by show 0 ≤ maxLen; omega⟩
end Go.Proofs.Ytgklhdacnklhdaa
