/- Gold for lines and sheets: values behind an interface; PiecesFor of both. · Gold for sheets: what is valid, how wide letters are, by how much gold is wider; goldFor. · goldFor and PiecesFor of the program. -/
import Derived.Test.YtngondeaeipcfaaDoorGdA
import Derived.Test.YtngondeaeipcfaaDoorLaP
import Derived.Test.YtngondeaeipcfaaDoorFlW
import Derived.Test.YtngondeaeipcfaaDoorG5
import Derived.Test.YtngondeaeipcfaaDoorChLM

namespace Go.Proofs.YtngondeaeipcfaaDoor
open Go Go.RowKit

/-! A line with gold, and sheets for one, as cells -/
def gln (F : Fc) (sl : Value) (s : ByteArray) : List Value := fc F sl ++ [.string s]
def gsh (F : Fc) (sl : Value) (s : ByteArray) (wd ov : Int) : List Value := gln F sl s ++ [.int .i16 wd, .int .i8 ov]
theorem gln_len {F : Fc} (h : F.W.length = 26) (sl : Value) (s : ByteArray) : (gln F sl s).length = 30 := by simp [gln, fc_length h]
theorem gsh_len {F : Fc} (h : F.W.length = 26) (sl : Value) (s : ByteArray) (wd ov : Int) : (gsh F sl s wd ov).length = 32 := by simp [gsh, gln_len h]
theorem gln_s {F : Fc} (h : F.W.length = 26) (sl : Value) (s : ByteArray) : (gln F sl s)[29]? = some (.string s) := by
  unfold gln; rw [List.getElem?_append_right (by rw [fc_length h]; omega), fc_length h]; rfl
theorem gln_one (F : Fc) (A : Option Addr) (n c : Nat) (s : ByteArray) : (gln F (.slice A n c) s).toArray.all (·.oneCell') = true :=
  all_oneCell_toArray (by intro v hv; simp [gln, fc, wc] at hv; rcases hv with ⟨a, _, rfl⟩ | rfl | rfl | rfl | rfl <;> rfl)
theorem gsh_one (F : Fc) (A : Option Addr) (n c : Nat) (s : ByteArray) (wd ov : Int) : (gsh F (.slice A n c) s wd ov).toArray.all (·.oneCell') = true :=
  all_oneCell_toArray (by intro v hv; simp [gsh, gln, fc, wc] at hv; rcases hv with ⟨a, _, rfl⟩ | rfl | rfl | rfl | rfl | rfl | rfl <;> rfl)
end Go.Proofs.YtngondeaeipcfaaDoor

namespace Go.Proofs.YtngondeaeipcfaaDoor
open Go Go.RowKit

theorem IntsIn.put {w : World} {L : Nat} {A : Option Addr} {xs : List Int} (h : IntsIn w L A xs) {b o i : Nat} (hA : A = some ⟨b, o, none⟩) (hi : i < xs.length) (s : Int) : IntsIn (w.setCell ⟨b, o + i, none⟩ (.int .i64 s)) L A (xs.set i s) := by
  intro hne
  obtain ⟨b', o', e, h1, h2, h3, h4⟩ := h (by intro e; subst e; simp at hi)
  rw [hA] at e
  injection e with e; injection e with e1 e2; subst e1 e2
  refine ⟨b, o, hA, h1, by rw [size_setCell]; exact h2, fun k x hx => ?_, by rw [List.length_set]; exact there_set h4 _ _⟩
  by_cases e : i = k
  · subst e
    rw [List.getElem?_set_self hi] at hx
    injection hx with hx; subst hx
    exact World.cell?_setCell_same' _ _ _ (h4 i hi).1
  · rw [List.getElem?_set_ne e] at hx
    rw [World.cell?_setCell_other _ _ _ _ (by intro he; injection he with _ he; omega)]
    exact h3 k x hx

/-! What is valid -/
def lwT (F : Fc) (M : List UInt8) (k : Nat) : List Int := (M.take k).map (lwd F)
theorem lwT_succ {F : Fc} {M : List UInt8} {k : Nat} {b : UInt8} (h : M[k]? = some b) : lwT F M (k + 1) = lwT F M k ++ [lwd F b] := by
  unfold lwT; rw [List.take_add_one, h]; simp
theorem lwT_len {F : Fc} {M : List UInt8} {k : Nat} (h : k ≤ M.length) : (lwT F M k).length = k := by unfold lwT; rw [List.length_map, List.length_take]; omega
/-- How wide the letters of a text are. -/
def lwL (F : Fc) (L : List UInt8) : List Int := (lettL L).map (lwd F)
theorem lwT_all (F : Fc) (L : List UInt8) : lwT F (lettL L) (lettL L).length = lwL F L := by unfold lwT lwL; rw [List.take_length]
theorem lwL_len (F : Fc) (L : List UInt8) : (lwL F L).length = (lettL L).length := List.length_map _
theorem lwL_bd {F : Fc} (hF : F.ok) (h : vface F = true) {L : List UInt8} (ht : vtext L = true) : ∀ x ∈ lwL F L, 1 ≤ x ∧ x ≤ 40 := fun x hx => by
  obtain ⟨b, hb, rfl⟩ := List.mem_map.1 hx
  exact lw_bd hF h ht b hb
theorem lwL_n {F : Fc} {L : List UInt8} (ht : vtext L = true) : (lwL F L).length ≤ 60 := by
  rw [lwL_len]; exact Nat.le_trans (lettL_len L) (vtext_true.1 ht).1

def adT (o : Int) (R : List Int) (k : Nat) : List Int := (R.take k).map (fun x => x + o) ++ R.drop k
theorem adT_zero (o : Int) (R : List Int) : adT o R 0 = R := by simp [adT]
theorem adT_len (o : Int) (R : List Int) (k : Nat) : (adT o R k).length = R.length := by simp [adT]; omega
theorem adT_all (o : Int) (R : List Int) : adT o R R.length = R.map (fun x => x + o) := by simp [adT]
theorem adT_get {o : Int} {R : List Int} {k : Nat} {x : Int} (h : R[k]? = some x) : (adT o R k)[k]? = some x := by
  have hk := (List.getElem?_eq_some_iff.1 h).1
  unfold adT
  rw [List.getElem?_append_right (by simp; omega)]
  simp only [List.length_map, List.length_take, Nat.min_eq_left (Nat.le_of_lt hk), Nat.sub_self, List.getElem?_drop, Nat.add_zero]
  exact h
theorem adT_set {o : Int} {R : List Int} {k : Nat} {x : Int} (h : R[k]? = some x) : (adT o R k).set k (x + o) = adT o R (k + 1) := by
  obtain ⟨hk, e⟩ := List.getElem?_eq_some_iff.1 h
  unfold adT
  rw [List.set_append_right _ _ (by simp; omega)]
  simp only [List.length_map, List.length_take, Nat.min_eq_left (Nat.le_of_lt hk), Nat.sub_self]
  rw [List.drop_eq_getElem_cons hk, List.set_cons_zero, List.take_succ_eq_append_getElem hk, List.map_append, e]
  simp
end Go.Proofs.YtngondeaeipcfaaDoor

namespace Go.Proofs.YtngondeaeipcfaaDoor
open Go Go.RowKit

/-- Whether pieces can be told; their widths. -/
noncomputable def gpB (F : Fc) (L : List UInt8) (wd ov : Int) : Bool := vface F && vtext L && vsht wd ov
def pieL (F : Fc) (L : List UInt8) (ov : Int) : List Int := (lwL F L).map (fun x => x + 2 * ov)
noncomputable def gpC (F : Fc) (L : List UInt8) (wd ov : Int) : Int := if gpB F L wd ov = true then 0 else 1
noncomputable def gpR (F : Fc) (L : List UInt8) (wd ov : Int) : List Int := if gpB F L wd ov = true then pieL F L ov else []
theorem gp_no {F : Fc} {L : List UInt8} {wd ov : Int} (h : gpB F L wd ov = false) : gpC F L wd ov = 1 ∧ gpR F L wd ov = [] := by unfold gpC gpR; rw [h]; exact ⟨rfl, rfl⟩
theorem gp_ok {F : Fc} {L : List UInt8} {wd ov : Int} (h : gpB F L wd ov = true) : gpC F L wd ov = 0 ∧ gpR F L wd ov = pieL F L ov := by unfold gpC gpR; rw [h]; exact ⟨rfl, rfl⟩
theorem gp_parts {F : Fc} {L : List UInt8} {wd ov : Int} (h : gpB F L wd ov = true) : vface F = true ∧ vtext L = true ∧ (1 ≤ wd ∧ wd ≤ 400) ∧ 0 ≤ ov ∧ ov ≤ 5 := by
  unfold gpB at h
  simp only [Bool.and_eq_true] at h
  have := vsht_true.1 h.2
  exact ⟨h.1.1, h.1.2, this.1, this.2⟩
theorem pieL_len (F : Fc) (L : List UInt8) (ov : Int) : (pieL F L ov).length = (lwL F L).length := List.length_map _
theorem pieL_n {F : Fc} {L : List UInt8} {ov : Int} (ht : vtext L = true) : (pieL F L ov).length ≤ 60 := by rw [pieL_len]; exact lwL_n ht
theorem pieL_bd {F : Fc} (hF : F.ok) (h : vface F = true) {L : List UInt8} (ht : vtext L = true) {ov : Int} (ho : 0 ≤ ov ∧ ov ≤ 5) : ∀ x ∈ pieL F L ov, 1 ≤ x ∧ x ≤ 50 := fun x hx => by
  obtain ⟨y, hy, rfl⟩ := List.mem_map.1 hx
  have := lwL_bd hF h ht y hy
  omega
theorem gpR_len (F : Fc) (L : List UInt8) (wd ov : Int) : (gpR F L wd ov).length ≤ 1048577 := by
  cases h : gpB F L wd ov
  · rw [(gp_no h).2]; simp
  · rw [(gp_ok h).2]; have := pieL_n (F := F) (ov := ov) (gp_parts h).2.1; omega

end Go.Proofs.YtngondeaeipcfaaDoor
