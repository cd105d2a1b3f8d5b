/- A line in which something is missing: as plain data; the model's tests of it. -/
import Derived.Test.YtngondeaeipcfaaDoorIvSA
import Derived.Test.YtngondeaeipcfaaDoorCen
namespace Go.Proofs.YtngondeaeipcfaaDoor
open Go.RowKit

def lineC (b : Int) : Bool := cap b || b == 32
/-- A side of the gap. -/
def partB (L : List UInt8) : Bool := allOn lineC L && !(Lib.contains L [32, 32])
theorem occ2 {L : List UInt8} {i : Nat} : Lib.occAt L [32, 32] i = true ↔ i + 1 < L.length ∧ byteAt L i = 32 ∧ byteAt L (i + 1) = 32 := by
  unfold Lib.occAt
  constructor
  · intro h
    have hp := List.isPrefixOf_iff_prefix.1 h
    obtain ⟨t, ht⟩ := hp
    have h0 : L[i]? = some 32 := by have := congrArg (fun l => l[0]?) ht; simpa [List.getElem?_drop] using this.symm
    have h1 : L[i + 1]? = some 32 := by have := congrArg (fun l => l[1]?) ht; simpa [List.getElem?_drop] using this.symm
    have hl := (List.getElem?_eq_some_iff.1 h1).1
    exact ⟨hl, by simp [byteAt, List.getD, h0], by simp [byteAt, List.getD, h1]⟩
  · rintro ⟨h, h0, h1⟩
    have e0 := (byteAt_32 (L := L) (k := i)).2 ⟨by omega, h0⟩
    have e1 := (byteAt_32 (L := L) (k := i + 1)).2 ⟨h, h1⟩
    rw [List.isPrefixOf_iff_prefix]
    refine ⟨L.drop (i + 2), ?_⟩
    rw [List.drop_eq_getElem_cons (by omega : i < L.length), List.drop_eq_getElem_cons h]
    rw [List.getElem?_eq_getElem (by omega)] at e0
    rw [List.getElem?_eq_getElem h] at e1
    injection e0 with e0; injection e1 with e1
    rw [e0, e1]; rfl
theorem contains2 {L : List UInt8} : Lib.contains L [32, 32] = true ↔ ∃ i, i + 1 < L.length ∧ byteAt L i = 32 ∧ byteAt L (i + 1) = 32 := by
  unfold Lib.contains
  rw [decide_eq_true_eq]
  rcases Lib.index_spec L [32, 32] with ⟨h1, h2⟩ | ⟨i, h1, h2, h3, _⟩
  · constructor
    · intro h; omega
    · rintro ⟨i, hi⟩
      have := h2 i (by omega)
      rw [occ2.2 hi] at this; cases this
  · exact ⟨fun _ => ⟨i, occ2.1 h3⟩, fun _ => by omega⟩
/-- The byte at place i may stand so in a side. -/
def pgood (L : List UInt8) (i : Nat) : Bool := lineC (byteAt L i) && !(decide (0 < i) && (byteAt L i == 32) && (byteAt L (i - 1) == 32))
theorem partB_true {L : List UInt8} : partB L = true ↔ ∀ i, i < L.length → pgood L i = true := by
  unfold partB
  rw [Bool.and_eq_true, allOn_true, Bool.not_eq_true', ← Bool.not_eq_true, contains2]
  constructor
  · rintro ⟨h1, h2⟩ i hi
    unfold pgood
    rw [h1 i hi, Bool.true_and, Bool.not_eq_true']
    rw [← Bool.not_eq_true]
    simp only [Bool.and_eq_true, decide_eq_true_eq, beq_iff_eq]
    rintro ⟨⟨h3, h4⟩, h5⟩
    exact h2 ⟨i - 1, by omega, h5, by rw [show i - 1 + 1 = i by omega]; exact h4⟩
  · intro h
    refine ⟨fun i hi => ?_, ?_⟩
    · have := h i hi
      unfold pgood at this
      rw [Bool.and_eq_true] at this
      exact this.1
    · rintro ⟨i, hi, h1, h2⟩
      have := h (i + 1) hi
      unfold pgood at this
      simp [h1, h2] at this
theorem partB_false {L : List UInt8} {k : Nat} (hk : k < L.length) (h : pgood L k = false) : partB L = false := by
  rw [← Bool.not_eq_true, partB_true]
  intro h'
  rw [h' k hk] at h; cases h
/-- The code of a broken line. -/
noncomputable def flC (F : Fc) (l r : List UInt8) (xs : List ByteArray) (x y : Int) : Int :=
  if (vface F && vlist xs) = true then if (inB x 0 4000 && inB y 0 100) = true then if (partB l && partB r) = true then 0 else 5 else 2 else 1
/-- By how much the width differs. -/
noncomputable def offI (F : Fc) (L : List UInt8) (x : Int) : Int := max (lineL F (wordsL L) - x) (-(lineL F (wordsL L) - x))
noncomputable def filB (F : Fc) (L : List UInt8) (x y : Int) : Bool := vtext L && decide (offI F L x ≤ y)
noncomputable def offV (F : Fc) (L : List UInt8) (x : Int) : Int := if vtext L = true then offI F L x else 0
noncomputable def offS (F : Fc) (L : List UInt8) (x : Int) : Int := if vtext L = true then offI F L x else -1
theorem offI_bd {F : Fc} (hF : F.ok) (hv : vface F = true) {L : List UInt8} (ht : vtext L = true) {x : Int} (hx : inB x 0 4000 = true) :
    0 ≤ lineL F (wordsL L) ∧ lineL F (wordsL L) ≤ 222040 ∧ 0 ≤ x ∧ x ≤ 4000 ∧ 0 ≤ offI F L x := by
  obtain ⟨h1, h2⟩ := lineL_bd hF hv (fun y hy => words_mem ht hy) (words_len ht)
  obtain ⟨h3, h4⟩ := inB_true.1 hx
  exact ⟨h1, h2, h3, h4, by unfold offI; omega⟩
theorem fit_spec {F : Fc} (hF : F.ok) (hv : vface F = true) {L : List UInt8} {x : Int} (hx : inB x 0 4000 = true) (y : Int) : inB (offS F L x) 0 y = filB F L x y := by
  unfold filB offS
  cases ht : vtext L
  · simp [inB]
  · have := (offI_bd hF hv ht hx).2.2.2.2
    simp [inB, this]

set_option maxHeartbeats 1000000 in
theorem l00Max_any (a b : Int) (w : World) : Calls Tryd.prog 60 #[.int .i64 a, .int .i64 b] w fun e w' => e = .returned (.int .i64 (max a b)) ∧ w = w' := by
  by_cases h : b < a
  · have hm : max a b = a := by omega
    have HM := hide hm
    clear hm
    go_enter Tryd.func60, Tryd.ntmps60
    go_wp2
    go_ret
    exact ⟨ret_int HM.out.symm, rfl⟩
  · have hm : max a b = b := by omega
    have HM := hide hm
    clear hm
    go_enter Tryd.func60, Tryd.ntmps60
    go_wp2
    go_ret
    exact ⟨ret_int HM.out.symm, rfl⟩

theorem fl_face {F : Fc} {l r : List UInt8} {xs : List ByteArray} {x y : Int} (h : vface F = false) : flC F l r xs x y = 1 := by unfold flC; rw [h]; rfl
theorem fl_list {F : Fc} {l r : List UInt8} {xs : List ByteArray} {x y : Int} (h : vlist xs = false) : flC F l r xs x y = 1 := by unfold flC; rw [h, Bool.and_false]; rfl
theorem fl_wide {F : Fc} {l r : List UInt8} {xs : List ByteArray} {x y : Int} (h : vface F = true) (h1 : vlist xs = true) (h2 : inB x 0 4000 = false) : flC F l r xs x y = 2 := by unfold flC; rw [h, h1, h2]; rfl
theorem fl_slack {F : Fc} {l r : List UInt8} {xs : List ByteArray} {x y : Int} (h : vface F = true) (h1 : vlist xs = true) (h2 : inB y 0 100 = false) : flC F l r xs x y = 2 := by unfold flC; rw [h, h1, h2, Bool.and_false]; rfl
theorem fl_left {F : Fc} {l r : List UInt8} {xs : List ByteArray} {x y : Int} (h : vface F = true) (h1 : vlist xs = true) (h2 : inB x 0 4000 = true) (h3 : inB y 0 100 = true) (h4 : partB l = false) : flC F l r xs x y = 5 := by unfold flC; rw [h, h1, h2, h3, h4]; rfl
theorem fl_right {F : Fc} {l r : List UInt8} {xs : List ByteArray} {x y : Int} (h : vface F = true) (h1 : vlist xs = true) (h2 : inB x 0 4000 = true) (h3 : inB y 0 100 = true) (h4 : partB r = false) : flC F l r xs x y = 5 := by unfold flC; rw [h, h1, h2, h3, h4, Bool.and_false]; rfl
theorem fl_ok {F : Fc} {l r : List UInt8} {xs : List ByteArray} {x y : Int} (h : vface F = true) (h1 : vlist xs = true) (h2 : inB x 0 4000 = true) (h3 : inB y 0 100 = true) (h4 : partB l = true) (h5 : partB r = true) : flC F l r xs x y = 0 := by unfold flC; rw [h, h1, h2, h3, h4, h5]; rfl
theorem fl_zero {F : Fc} {l r : List UInt8} {xs : List ByteArray} {x y : Int} (h : flC F l r xs x y = 0) : vface F = true ∧ vlist xs = true ∧ inB x 0 4000 = true ∧ inB y 0 100 = true ∧ partB l = true ∧ partB r = true := by
  unfold flC at h
  split at h
  · split at h
    · split at h
      · simp only [Bool.and_eq_true] at *
        rename_i a b c
        exact ⟨a.1, a.2, b.1, b.2, c.1, c.2⟩
      · cases h
    · cases h
  · cases h

end Go.Proofs.YtngondeaeipcfaaDoor
