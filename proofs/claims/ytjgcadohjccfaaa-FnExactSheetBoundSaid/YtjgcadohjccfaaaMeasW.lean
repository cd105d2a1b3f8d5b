/- The words of a text that is asked with a width: the program's. -/
import Derived.Test.YtjgcadohjccfaaaRoomW
import Derived.Test.YtjgcadohjccfaaaCentreW
namespace Go.Proofs.Ytjgcadohjccfaaa
open Go Go.RowKit

theorem ask_cases (F : Fc) (L : List UInt8) (x : Int) : (vface F = true ∧ vtext L = true ∧ inB x 0 4000 = true ∧ askC F L (inB x 0 4000) = 0) ∨ (askC F L (inB x 0 4000) = 2 ∧ vface F = true ∧ vtext L = true ∧ inB x 0 4000 = false) ∨ (askC F L (inB x 0 4000) = 1 ∧ ¬ (vface F = true ∧ vtext L = true)) := by
  by_cases h : vface F = true ∧ vtext L = true
  · rw [ask_ok h.1 h.2]
    cases hi : inB x 0 4000
    · exact .inr (.inl ⟨rfl, h.1, h.2, rfl⟩)
    · exact .inl ⟨h.1, h.2, rfl, rfl⟩
  · exact .inr (.inr ⟨ask_no h, h⟩)
theorem ret_slc {A : Option Addr} {n c : Nat} {i j : Int} (h : i = j) : Ending.returned (.tuple #[.slice A n c, .int .i64 i]) = .returned (.tuple #[.slice A n c, .int .i64 j]) := by rw [h]

/-- The spans of the text's words. -/
def SpansBack (F : Fc) (ws : List (List UInt8)) (w : World) (A' : Option Addr) (c' : Nat) (w' : World) : Prop :=
  ws.length ≤ c' ∧ CellsIn w' w.heap.size A' (spanFrom F 0 ws)

theorem SpansBack.go {F : Fc} {ws : List (List UInt8)} {w W0 w1 wr : World} {A' : Option Addr} {c' : Nat} (h : SpansBack F ws W0 A' c' w1) (hle : w.heap.size ≤ W0.heap.size) (hB : Below w1.heap.size w1 wr) : SpansBack F ws w A' c' wr :=
  ⟨h.1, (h.2.wider hle).go hB⟩
theorem SpansBack.at_ {F : Fc} {ws : List (List UInt8)} {W0 w1 : World} {A' : Option Addr} {c' : Nat} (h : SpansBack F ws W0 A' c' w1) (hn : 0 < ws.length) : ∃ b o, A' = some ⟨b, o, none⟩ ∧ CellsAt w1 w1.heap.size (some ⟨b, o, none⟩) (spanFrom F 0 ws) := by
  obtain ⟨b, o, e, h1, h2, h3, h4⟩ := h.2 (by intro e; have := congrArg List.length e; rw [spanFrom_len] at this; simp at this; omega)
  subst e
  exact ⟨b, o, rfl, h.2.at_⟩
theorem SpansBack.ends {F : Fc} {ws : List (List UInt8)} {w1 wr : World} {b o : Nat} (h : CellsAt w1 w1.heap.size (some ⟨b, o, none⟩) (spanFrom F 0 ws)) (hB : Below w1.heap.size w1 wr) {a k : Nat} (ha : a < k) (hk : k ≤ ws.length) :
    EndsAt wr (some ⟨b, o + a * 2, none⟩) (k - a) (preL F ws a) (preL F ws (k - 1) + wideL F (ws.getD (k - 1) [])) := ends_seg (h.go hB) ha hk
/-- The code of a face, a text and a width in which each word has to fit. -/
noncomputable def fdC (F : Fc) (L : List UInt8) (x : Int) : Int := if askC F L (inB x 0 4000) = 0 then (if fitB F (wordsL L) x = true then 0 else 6) else askC F L (inB x 0 4000)

end Go.Proofs.Ytjgcadohjccfaaa
