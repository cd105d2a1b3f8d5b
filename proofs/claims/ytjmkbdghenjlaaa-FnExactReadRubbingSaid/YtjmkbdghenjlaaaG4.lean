/- The model's test of a face. · The model's ValidFace: the count of the pairs, and the shape. · The model's By of a pair. · The model's width of a word. · The model's test of a text. -/
import Derived.Test.YtjmkbdghenjlaaaG1
import Derived.Test.YtjmkbdghenjlaaaG2
import Derived.Test.YtjmkbdghenjlaaaG3
import Derived.LoopTactic

namespace Go.Proofs.Ytjmkbdghenjlaaa
open Go.RowKit

theorem q_same {P : Program} {f : FuncId} {args : Array Value} {w : World} {v : Value} (h : Calls P f args w fun e w' => e = .returned v ∧ w = w') : Calls P f args w fun e w' => e = .returned v ∧ w' = w :=
  h.mono fun _ _ ⟨a, b⟩ => ⟨a, b.symm⟩
theorem quiet_add_left {P : Program} {f : FuncId} {args : Array Value} {w : World} {a n : Nat} {v : Value}
    (h : Calls P f args (w.drewN (a + n)) fun e w' => e = .returned v ∧ w.drewN (a + n) = w') :
    Calls P f args (w.drewN (a + n)) fun e w'' => e = .returned v ∧ ∃ m, w'' = w.drewN (a + m) :=
  h.mono fun _ _ ⟨he, hm⟩ => ⟨he, n, hm.symm⟩
theorem quiet_left {P : Program} {f : FuncId} {args : Array Value} {w : World} {n : Nat} {v : Value}
    (h : Calls P f args (w.drewN n) fun e w' => e = .returned v ∧ w.drewN n = w') : Calls P f args (w.drewN n) fun e w'' => e = .returned v ∧ ∃ m, w'' = w.drewN m :=
  h.mono fun _ _ ⟨he, hm⟩ => ⟨he, n, hm.symm⟩

theorem rangeAt_drewN {w : World} {b o : Nat} {cs : List Value} (h : w.rangeAt b o cs) (n : Nat) : (w.drewN n).rangeAt b o cs := h
theorem size_drewN (w : World) (n : Nat) : (w.drewN n).heap.size = w.heap.size := rfl
end Go.Proofs.Ytjmkbdghenjlaaa

namespace Go.Proofs.Ytjmkbdghenjlaaa
open Go.RowKit

end Go.Proofs.Ytjmkbdghenjlaaa

namespace Go.Proofs.Ytjmkbdghenjlaaa
open Go.RowKit

end Go.Proofs.Ytjmkbdghenjlaaa

namespace Go.Proofs.Ytjmkbdghenjlaaa
open Go.RowKit

end Go.Proofs.Ytjmkbdghenjlaaa

namespace Go.Proofs.Ytjmkbdghenjlaaa
open Go.RowKit

end Go.Proofs.Ytjmkbdghenjlaaa
