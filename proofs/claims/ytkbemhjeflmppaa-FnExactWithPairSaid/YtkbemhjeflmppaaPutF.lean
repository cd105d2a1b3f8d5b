/- WithPair as plain data: the face that is handed back, and the code. -/
import Derived.Test.YtkbemhjeflmppaaPutP
import Derived.Test.YtkbemhjeflmppaaLoosenW
namespace Go.Proofs.Ytkbemhjeflmppaa
open Go.RowKit

def putF (F : Fc) (p : Tri) : Fc := { F with ps := putL F.ps p }
noncomputable def stB (F : Fc) (p : Tri) : Bool := cap p.1 && cap p.2.1 && shapeB (putF F p)
noncomputable def wpC (F : Fc) (p : Tri) : Int := if vface F = true then if stB F p = true then if (putL F.ps p).length ≤ 12 then 0 else 3 else 4 else 1
noncomputable def wpF (F : Fc) (p : Tri) : Fc := if wpC F p = 0 then putF F p else Fc0
theorem wp_inv {F : Fc} (h : vface F = false) (p : Tri) : wpF F p = Fc0 ∧ wpC F p = 1 := by
  have : wpC F p = 1 := by unfold wpC; rw [h]; rfl
  exact ⟨by unfold wpF; rw [this]; rfl, this⟩
theorem wp_state {F : Fc} (h : vface F = true) {p : Tri} (h' : stB F p = false) : wpF F p = Fc0 ∧ wpC F p = 4 := by
  have : wpC F p = 4 := by unfold wpC; rw [h, h']; rfl
  exact ⟨by unfold wpF; rw [this]; rfl, this⟩
theorem wp_limit {F : Fc} (h : vface F = true) {p : Tri} (h' : stB F p = true) (hn : ¬ (putL F.ps p).length ≤ 12) : wpF F p = Fc0 ∧ wpC F p = 3 := by
  have : wpC F p = 3 := by unfold wpC; rw [if_pos h, if_pos h', if_neg hn]
  exact ⟨by unfold wpF; rw [this]; rfl, this⟩
theorem wp_ok {F : Fc} (h : vface F = true) {p : Tri} (h' : stB F p = true) (hn : (putL F.ps p).length ≤ 12) : wpF F p = putF F p ∧ wpC F p = 0 := by
  have : wpC F p = 0 := by unfold wpC; rw [if_pos h, if_pos h', if_pos hn]
  exact ⟨by unfold wpF; rw [if_pos this], this⟩
/-- The model's check and the program's say the same of what is put. -/
theorem stB_iff {F : Fc} (h : vface F = true) (p : Tri) : stB F p = true ↔ (p.2.2 = 0 ∧ cap p.1 = true ∧ cap p.2.1 = true) ∨ pairOk F.gp p := by
  have hs := (vface_true.1 h).2
  unfold stB
  rw [Bool.and_eq_true, Bool.and_eq_true, shapeB_true]
  constructor
  · intro ⟨⟨h1, h2⟩, h3⟩
    rcases (putL_good hs.ps).1 h3.ps with h0 | h0
    · exact .inl ⟨h0, h1, h2⟩
    · exact .inr h0
  · intro h0
    have hc : cap p.1 = true ∧ cap p.2.1 = true := by rcases h0 with h0 | h0; exact h0.2; exact ⟨h0.a, h0.b⟩
    exact ⟨hc, ⟨hs.W, hs.sp, hs.gp, (putL_good hs.ps).2 (by rcases h0 with h0 | h0; exact .inl h0.1; exact .inr h0)⟩⟩
theorem put_ok {F : Fc} (hF : F.ok) (h : vface F = true) {p : Tri} (h' : stB F p = true) (hp : ∀ x ∈ putL F.ps p, x ∈ own1 p ∨ x ∈ F.ps) : (putL F.ps p).length ≤ 13 := by
  have := (vface_true.1 h).1
  have := putL_len F.ps p
  omega
end Go.Proofs.Ytkbemhjeflmppaa
