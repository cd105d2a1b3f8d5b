/- Chapter 1: how often each letter stands in a text, as plain data. -/
import Derived.Test.YtngondeaeipcfaaGreatDoorChP
namespace Go.Proofs.YtngondeaeipcfaaGreatDoor
open Go Go.RowKit

/-- Numbers as cells. -/
def icc (S : List Int) : List Value := S.map (.int .i64)
theorem icc_len (S : List Int) : (icc S).length = S.length := by simp [icc]
theorem icc_get {S : List Int} {k : Nat} (hk : k < S.length) : (icc S)[k]? = some (.int .i64 (S.getD k 0)) := by simp [icc, hk, List.getD]
theorem icc_set (S : List Int) (k : Nat) (v : Int) : (icc S).set k (.int .i64 v) = icc (S.set k v) := by simp [icc]
/-- One letter more. -/
def bmp (S : List Int) (b : UInt8) : List Int := S.set (b.toNat - 65) (S.getD (b.toNat - 65) 0 + 1)
theorem bmp_len (S : List Int) (b : UInt8) : (bmp S b).length = S.length := by simp [bmp]
def ct0 : List Int := List.replicate 26 0
theorem foldb_len : ∀ (M : List UInt8) (S : List Int), (M.foldl bmp S).length = S.length
  | [], _ => rfl
  | b :: M, S => by rw [List.foldl_cons, foldb_len M, bmp_len]
theorem bmp_bd {S : List Int} {q : Nat} (h : ∀ i, 0 ≤ S.getD i 0 ∧ S.getD i 0 ≤ q) (b : UInt8) (i : Nat) : 0 ≤ (bmp S b).getD i 0 ∧ (bmp S b).getD i 0 ≤ ((q + 1 : Nat) : Int) := by
  unfold bmp
  have hi := h i
  have hb := h (b.toNat - 65)
  generalize b.toNat - 65 = j at *
  simp only [List.getD_eq_getElem?_getD, List.getElem?_set] at hi hb ⊢
  by_cases e : j = i
  · subst e
    by_cases e2 : j < S.length
    · simp only [e2, ↓reduceIte, Option.getD_some]; omega
    · simp only [e2, ↓reduceIte, Option.getD_none]; omega
  · simp only [e, ↓reduceIte]; omega
theorem foldb_bd : ∀ (M : List UInt8) (S : List Int) (q : Nat), (∀ i, 0 ≤ S.getD i 0 ∧ S.getD i 0 ≤ q) → ∀ i, 0 ≤ (M.foldl bmp S).getD i 0 ∧ (M.foldl bmp S).getD i 0 ≤ ((q + M.length : Nat) : Int)
  | [], _, _, h => h
  | b :: M, S, q, h => fun i => by
    have := foldb_bd M (bmp S b) (q + 1) (bmp_bd h b) i
    rw [List.foldl_cons, List.length_cons]
    rw [show q + (M.length + 1) = q + 1 + M.length by omega]
    exact this
theorem ct0_bd (i : Nat) : 0 ≤ ct0.getD i 0 ∧ ct0.getD i 0 ≤ ((0 : Nat) : Int) := by
  have : ct0.getD i 0 = 0 := by
    unfold ct0
    rw [List.getD_eq_getElem?_getD]
    by_cases h : i < 26
    · rw [List.getElem?_eq_getElem (by simpa using h), Option.getD_some, List.getElem_replicate]
    · rw [List.getElem?_eq_none (by simp; omega)]; rfl
  omega
/-- Of the first k bytes. -/
def ctK (L : List UInt8) (k : Nat) : List Int := (L.take k).foldl bmp ct0
theorem ctK_len (L : List UInt8) (k : Nat) : (ctK L k).length = 26 := by unfold ctK; rw [foldb_len]; simp [ct0]
theorem ctK_bd (L : List UInt8) (k i : Nat) : 0 ≤ (ctK L k).getD i 0 ∧ (ctK L k).getD i 0 ≤ (k : Int) := by
  have := foldb_bd (L.take k) ct0 0 ct0_bd i
  have h2 : (L.take k).length ≤ k := by rw [List.length_take]; omega
  unfold ctK; omega
theorem ctK_succ {L : List UInt8} {k : Nat} {b : UInt8} (h : L[k]? = some b) : ctK L (k + 1) = bmp (ctK L k) b := by
  unfold ctK; rw [List.take_add_one, h]; simp
/-- Of the first k bytes, without the blanks. -/
def ctM (L : List UInt8) (k : Nat) : List Int := (lettL (L.take k)).foldl bmp ct0
theorem ctM_len (L : List UInt8) (k : Nat) : (ctM L k).length = 26 := by unfold ctM; rw [foldb_len]; simp [ct0]
theorem ctM_bd (L : List UInt8) (k i : Nat) : 0 ≤ (ctM L k).getD i 0 ∧ (ctM L k).getD i 0 ≤ (k : Int) := by
  have := foldb_bd (lettL (L.take k)) ct0 0 ct0_bd i
  have h2 : (L.take k).length ≤ k := by rw [List.length_take]; omega
  have h3 := lettL_len (L.take k)
  unfold ctM; omega
theorem ctM_blank {L : List UInt8} {k : Nat} {b : UInt8} (h : L[k]? = some b) (hb : b = 32) : ctM L (k + 1) = ctM L k := by
  unfold ctM lettL; rw [List.take_add_one, h]; subst hb; simp
theorem ctM_letter {L : List UInt8} {k : Nat} {b : UInt8} (h : L[k]? = some b) (hb : b ≠ 32) : ctM L (k + 1) = bmp (ctM L k) b := by
  unfold ctM lettL; rw [List.take_add_one, h]; simp [hb]
/-- Of a whole text. -/
def ctF (L : List UInt8) : List Int := (lettL L).foldl bmp ct0
theorem ctF_K (L : List UInt8) : ctK (lettL L) (lettL L).length = ctF L := by unfold ctK ctF; rw [List.take_length]
theorem ctF_M (L : List UInt8) (n : Nat) (h : L.length = n) : ctM L n = ctF L := by subst h; unfold ctM ctF; rw [List.take_length]
theorem ctF_len (L : List UInt8) : (ctF L).length = 26 := by unfold ctF; rw [foldb_len]; simp [ct0]
/-- Numbers that lie in a block of their own. -/
theorem ints_of_range {w : World} {L b : Nat} {S : List Int} (hb : L ≤ b) (hlt : b < w.heap.size) (hr : w.rangeAt b 0 (icc S)) (ht : w.there b 0 S.length) : IntsIn w L (some ⟨b, 0, none⟩) S :=
  fun _ => ⟨b, 0, rfl, hb, hlt, fun k x hx => hr k _ (by simp [icc, hx]), ht⟩
theorem made26 (W : World) : Sem.run Tryz.prog (Instr.makeSlice 33 (.int .i64 26) (.int .i64 26)) W = .ok (.slice (some ⟨W.heap.size, 0, none⟩) 26 26) (W.alloc (.cells (icc ct0).toArray 2)) := by
  obtain ⟨i0, hi0, hz0, hz1, hz2⟩ := info_parts Tryz.infoI64
  have h := run_make_rowN (P := Tryz.prog) 33 2 i0 _ Tryz.underlying33 hi0 hz0 .i64 .i64 26 26 (Nat.le_refl _) (by rw [hz2]; omega) (by omega) W
  rw [hz1] at h
  have e : madeCells (Value.int IntKind.i64 0).cells (26 * 1) = (icc ct0).toArray := by kernel_rfl
  rw [e] at h
  exact h
noncomputable def clR (L : List UInt8) : List Int := if vtext L = true then ctF L else []
noncomputable def clC (L : List UInt8) : Int := if vtext L = true then 0 else 1
theorem cl_no {L : List UInt8} (h : vtext L = false) : clR L = [] ∧ clC L = 1 := by unfold clR clC; rw [h]; exact ⟨rfl, rfl⟩
theorem cl_ok {L : List UInt8} (h : vtext L = true) : clR L = ctF L ∧ clC L = 0 := by unfold clR clC; rw [h]; exact ⟨rfl, rfl⟩
theorem clR_len (L : List UInt8) : (clR L).length ≤ 1048577 := by
  unfold clR; split
  · rw [ctF_len]; omega
  · simp
end Go.Proofs.YtngondeaeipcfaaGreatDoor
