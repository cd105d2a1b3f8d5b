/- WithPair of the model as plain data: its loop. -/
import Derived.Test.YtkbemhjeflmppaaPairsWith
namespace Go.Proofs.Ytkbemhjeflmppaa
open Go Go.RowKit

/-- One round. -/
def stN (p q : Tri) (st : List Tri × Bool) : List Tri × Bool := (st.1 ++ ((if (!st.2 && ahead p q) = true then [p] else []) ++ (if sameKey q p then [] else [q])), st.2 || ahead p q)
def stP (ps : List Tri) (p : Tri) (d : Bool) : Nat → List Tri × Bool
  | 0 => ([], d)
  | k + 1 => stN p (ps.getD k (0, 0, 0)) (stP ps p d k)
theorem stP_succ {ps : List Tri} {p q : Tri} {d : Bool} {k : Nat} (h : ps[k]? = some q) : stP ps p d (k + 1) = stN p q (stP ps p d k) := by
  show stN p (ps.getD k (0, 0, 0)) _ = _
  rw [List.getD_eq_getElem?_getD, h]; rfl
theorem stP_rest (ps : List Tri) (p : Tri) (d : Bool) : ∀ k, k ≤ ps.length → spS ps p d = (stP ps p d k).1 ++ spS (ps.drop k) p (stP ps p d k).2
  | 0, _ => by simp [stP]
  | k + 1, h => by
    have hk : k < ps.length := by omega
    rw [stP_rest ps p d k (by omega), stP_succ (List.getElem?_eq_getElem hk), List.drop_eq_getElem_cons hk]
    simp only [spS, stN, List.append_assoc]
theorem stP_all {ps : List Tri} {p : Tri} (h : sortedP ps) : putL ps p = (stP ps p (decide (p.2.2 = 0)) ps.length).1 ++ (if (stP ps p (decide (p.2.2 = 0)) ps.length).2 = true then [] else [p]) := by
  rw [← spS_putL ps p h, stP_rest ps p _ ps.length (Nat.le_refl _), List.drop_length]
  rfl
theorem stP_len (ps : List Tri) (p : Tri) (d : Bool) : ∀ k, (stP ps p d k).1.length ≤ 2 * k
  | 0 => by simp [stP]
  | k + 1 => by
    have := stP_len ps p d k
    show (stN p _ _).1.length ≤ _
    unfold stN
    simp only [List.length_append]
    split <;> split <;> simp <;> omega
theorem putF_ok {F : Fc} (hF : F.ok) (hv : vface F = true) {p : Tri} (hp : pok p) : (putF F p).ok := by
  refine ⟨hF.len, hF.W, hF.sp, hF.gp, fun q hq => ?_, ?_⟩
  · rcases putL_mem F.ps p q hq with h | h
    · rw [own1_eq h]; exact hp
    · exact hF.ps q h
  · have h1 := (vface_true.1 hv).1
    have h2 := putL_len F.ps p
    show (putL F.ps p).length ≤ _
    unfold maxLen; omega
theorem wp_caps {F : Fc} {p : Tri} (h : (cap p.1 && cap p.2.1) = false) : stB F p = false := by
  unfold stB; rw [h]; rfl
theorem wp_shape {F : Fc} {p : Tri} (h : (cap p.1 && cap p.2.1) = true) : stB F p = shapeB (putF F p) := by
  unfold stB; rw [h, Bool.true_and]
end Go.Proofs.Ytkbemhjeflmppaa
