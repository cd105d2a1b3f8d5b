/- strings.Cut at one byte. · The program's iterator over the words of a text: its contract, and slices.Collect of it. · slices.Collect of the words of a text, and WordsOf of the program. · WordsOf of the model and of the program. · LineWide of the model. -/
import Derived.Test.YtjmkbdghenjlaaaShelf
import Derived.Test.YtjmkbdghenjlaaaG3
import Derived.Lib.CutLaws
import Derived.Lib.IndexLaws
import Derived.Lib.IndexBytes
import Derived.RangeFuncNested
import Derived.RangeFuncBound
import Derived.RangeFuncCalls
import Derived.RangeFuncLeaves
import Derived.Shelf.Abstract
import Derived.Shelf.RegionOpen
import Derived.WalkKit
import Derived.OwnWalkIn
import Derived.TacticsInMore
import Derived.LoopNIn
import Derived.LoopIn
import Derived.Sort.EncStr
import Derived.Shelf.SlIter.Collect
import Derived.Test.YtjmkbdghenjlaaaG5
import Derived.Test.YtjmkbdghenjlaaaG6
import Derived.Test.YtjmkbdghenjlaaaG4

namespace Go.Proofs.Ytjmkbdghenjlaaa
open Go.RowKit

end Go.Proofs.Ytjmkbdghenjlaaa

namespace Go.Proofs.Ytjmkbdghenjlaaa
open Go Go.RowKit Go.Shelf Go.Sort
attribute [local go_sem] Oper.semAt_some

theorem grown_drewN (w : World) (k : Nat) : w.grownBy (w.drewN k) none := ⟨rfl, rfl, rfl, Nat.le_refl _, fun _ _ _ => rfl⟩

end Go.Proofs.Ytjmkbdghenjlaaa

namespace Go.Proofs
open Go Go.RowKit Go.Shelf Go.Sort
namespace Ytjmkbdghenjlaaa
end Ytjmkbdghenjlaaa
end Go.Proofs

namespace Go.Proofs.Ytjmkbdghenjlaaa
open Go Go.RowKit Go.Shelf Go.Sort

abbrev bas (ss : List (List UInt8)) : List ByteArray := ss.map fun x => ⟨x.toArray⟩
/-- Texts and a code come back, the texts in memory of the call's own. -/
def StrsBack (xs : List ByteArray) (code : Int) (w : World) : Ending → World → Prop := fun e w' =>
  ∃ A c, e = .returned (.tuple #[.slice A xs.length c, .int .i64 code]) ∧ StrsIn w' w.heap.size A xs ∧ Below w.heap.size w w'
noncomputable def woX (L : List UInt8) : List ByteArray := if vtext L = true then bas (wordsL L) else []
noncomputable def woC (L : List UInt8) : Int := if vtext L = true then 0 else 1
theorem wo_no {L : List UInt8} (h : vtext L = false) : woX L = [] ∧ woC L = 1 := by
  unfold woX woC; rw [h]; exact ⟨rfl, rfl⟩
theorem wo_ok {L : List UInt8} (h : vtext L = true) : woX L = bas (wordsL L) ∧ woC L = 0 := by
  unfold woX woC; rw [if_pos h, if_pos h]; exact ⟨rfl, rfl⟩
theorem StrsIn.wider {w : World} {L L' : Nat} {A : Option Addr} {xs : List ByteArray} (h : StrsIn w L A xs) (hL : L' ≤ L) : StrsIn w L' A xs :=
  fun hn => by obtain ⟨b, o, e, h1, h2⟩ := h hn; exact ⟨b, o, e, by omega, h2⟩
theorem StrsIn.go {w w' : World} {L : Nat} {A : Option Addr} {xs : List ByteArray} (h : StrsIn w L A xs) (hb : Below w.heap.size w w') : StrsIn w' L A xs := fun hn => by
  obtain ⟨b, o, e, h1, h2, h3, h4⟩ := h hn
  exact ⟨b, o, e, h1, Nat.lt_of_lt_of_le h2 hb.size, fun k x hx => (hb.cell (p := ⟨b, o + k, none⟩) h2).trans (h3 k x hx), grown_there (r := none) (grown_below hb) h4 h2 (by simp)⟩
theorem StrsIn.empty (w : World) (L : Nat) (A : Option Addr) : StrsIn w L A [] := fun h => (h rfl).elim

theorem wordsL_len (L : List UInt8) : (wordsL L).length ≤ L.length + 1 := by
  unfold wordsL; split
  · simp
  · exact splitL_len L
theorem woX_len (L : List UInt8) : (woX L).length ≤ L.length + 1 := by
  unfold woX; split
  · rw [List.length_map]; exact wordsL_len L
  · simp

end Go.Proofs.Ytjmkbdghenjlaaa

namespace Go.Proofs.Ytjmkbdghenjlaaa
open Go Go.RowKit

theorem bas_get {ws : List (List UInt8)} {k : Nat} (hk : k < ws.length) : (bas ws)[k]? = some ⟨(ws.getD k []).toArray⟩ := by
  rw [List.getElem?_map, List.getD_eq_getElem?_getD, List.getElem?_eq_getElem hk]; rfl

theorem lineTo_succ (F : Fc) (ws : List (List UInt8)) (k : Nat) : lineTo F ws (k + 1) = lineTo F ws k + wideL F (ws.getD k []) + (if k = 0 then 0 else F.sp) := rfl

noncomputable def askC (F : Fc) (L : List UInt8) (fine : Bool) : Int := if vface F = true ∧ vtext L = true then (if fine = true then 0 else 2) else 1
theorem ask_no {F : Fc} {L : List UInt8} {fine : Bool} (h : ¬ (vface F = true ∧ vtext L = true)) : askC F L fine = 1 := by unfold askC; rw [if_neg h]
theorem ask_ok {F : Fc} {L : List UInt8} {fine : Bool} (h1 : vface F = true) (h2 : vtext L = true) : askC F L fine = if fine = true then 0 else 2 := by unfold askC; rw [if_pos ⟨h1, h2⟩]

noncomputable def lnV (F : Fc) (L : List UInt8) : Int := if vface F = true ∧ vtext L = true then lineL F (wordsL L) else 0
noncomputable def lnC (F : Fc) (L : List UInt8) : Int := if vface F = true ∧ vtext L = true then 0 else 1
theorem ln_no {F : Fc} {L : List UInt8} (h : ¬ (vface F = true ∧ vtext L = true)) : lnV F L = 0 ∧ lnC F L = 1 ∧ askC F L true = 1 := by unfold lnV lnC askC; rw [if_neg h, if_neg h, if_neg h]; exact ⟨rfl, rfl, rfl⟩
theorem ln_ok {F : Fc} {L : List UInt8} (h1 : vface F = true) (h2 : vtext L = true) : lnV F L = lineL F (wordsL L) ∧ lnC F L = 0 ∧ askC F L true = 0 := by
  unfold lnV lnC askC; rw [if_pos ⟨h1, h2⟩, if_pos ⟨h1, h2⟩, if_pos ⟨h1, h2⟩]; exact ⟨rfl, rfl, rfl⟩

end Go.Proofs.Ytjmkbdghenjlaaa
