/- CanTurn and TurnText, of both. -/
import Derived.Test.YtngondeaeipcfaaDoorIvTn
import Derived.Test.YtngondeaeipcfaaDoorWr
import Derived.Lib.BufferRead
namespace Go.Proofs.YtngondeaeipcfaaDoor
open Go.RowKit

theorem vtext_cap {L : List UInt8} (h : vtext L = true) : ∀ j, j < L.length → cap (byteAt L j) = true ∨ byteAt L j = 32 := fun j hj => by
  rcases (vtext_true.1 h).2 j hj with h | h
  · exact .inr h.1
  · exact .inl h
theorem able_I {L : List UInt8} (h : vtext L = true) : allOn (fun b => turnI b != 0) L = allOn ableB L :=
  allOn_congr fun j hj => by
    show (turnI (byteAt L j) != 0) = (turnB (byteAt L j) != 0)
    rw [turnI_eq (vtext_cap h j hj)]
theorem canT_no {L : List UInt8} (h : vtext L = false) : canT L = false := by unfold canT; rw [h]; rfl
theorem tt_no {L : List UInt8} (h : vtext L = false) : ttV L = ⟨#[]⟩ ∧ ttC L = 1 := by unfold ttV ttC; rw [canT_no h, h]; exact ⟨rfl, rfl⟩
theorem tt_not {L : List UInt8} (h : vtext L = true) (h' : canT L = false) : ttV L = ⟨#[]⟩ ∧ ttC L = 4 := by unfold ttV ttC; rw [h', h]; exact ⟨rfl, rfl⟩
theorem tt_ok {L : List UInt8} (h : vtext L = true) (h' : canT L = true) : ttV L = ⟨(turnL L).toArray⟩ ∧ ttC L = 0 := by unfold ttV ttC; rw [h', h]; exact ⟨rfl, rfl⟩

theorem Tryd.infoU8 : (Tryd.prog.info? 5).map (fun i => (i.zero, i.size, i.bytes)) = some (some (.int .u8 0), 1, 1) := by kernel_rfl
/-- The text of bytes of one's own. -/
theorem str_of_own {w : World} {base n : Nat} {v : Value} {L : List UInt8} (h : w.ownsRow base 5 1 v n (Lib.byteCells L)) : (convert 22 9 v).run Tryd.prog w = .ok (.string ⟨L.toArray⟩) w := by
  have hl := h.1
  rw [Lib.byteCells_length] at hl
  rcases h.2 with ⟨rfl, h0⟩ | ⟨g, cap, cur, rfl, _, hg, _, _, _, htk⟩
  · have : L = [] := List.length_eq_zero_iff.1 (by omega)
    subst this
    exact Lib.run_convert_nil_bytes w _ _ 5 0 Tryd.underlying22 Tryd.underlying5 Tryd.underlying9
  · have := run_convert_bytes_back w 22 9 5 ⟨g, 0, none⟩ cap L Tryd.underlying22 Tryd.underlying5 Tryd.underlying9 (Lib.bytes_of_row hg (by rw [show L.length = n * 1 by omega]; exact htk))
    rwa [show L.length = n by omega] at this

/-- The last k letters, turned, backwards. -/
def trTo (L : List UInt8) (k : Nat) : List UInt8 := (L.reverse.take k).map turn8
theorem trTo_len {L : List UInt8} {k : Nat} (h : k ≤ L.length) : (trTo L k).length = k := by simp [trTo]; omega
theorem trTo_all (L : List UInt8) : trTo L L.length = turnL L := by
  unfold trTo turnL
  rw [List.take_of_length_le (by simp), List.map_reverse]
theorem trTo_succ {L : List UInt8} {k m : Nat} (h : L.length = m + 1 + k) : trTo L (k + 1) = trTo L k ++ [turn8 (L.getD m 0)] := by
  unfold trTo
  rw [List.take_add_one, List.map_append]
  congr 1
  rw [List.getElem?_reverse (by omega), show L.length - 1 - k = m by omega]
  simp [List.getD, show m < L.length by omega]
def tdS (L : List UInt8) : ByteArray := if allOn ableB L = true then ⟨(turnL L).toArray⟩ else ⟨#[]⟩
theorem tdS_no {L : List UInt8} (h : allOn ableB L = false) : tdS L = ⟨#[]⟩ := by unfold tdS; rw [h]; rfl
theorem tdS_ok {L : List UInt8} (h : allOn ableB L = true) : tdS L = ⟨(turnL L).toArray⟩ := by unfold tdS; rw [h]; rfl
theorem ret_sb' {s t : ByteArray} {a b : Bool} (h : s = t) (h' : a = b) : Ending.returned (.tuple #[.string s, .bool a]) = .returned (.tuple #[.string t, .bool b]) := by rw [h, h']

end Go.Proofs.YtngondeaeipcfaaDoor
