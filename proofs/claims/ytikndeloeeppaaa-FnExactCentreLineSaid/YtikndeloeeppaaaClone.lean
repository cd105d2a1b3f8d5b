/- Pairs are copied: slices.Clone, and append behind an empty slice. -/
import Derived.Test.YtikndeloeeppaaaMarks
import Derived.OwnWalk
import Derived.Lib.SliceRun
namespace Go.Proofs.Ytikndeloeeppaaa
open Go.RowKit

def flat (ps : List (Int × Int × Int)) : List Value := ps.flatMap pc
theorem flat_len (ps : List (Int × Int × Int)) : (flat ps).length = ps.length * 3 := by
  induction ps with
  | nil => rfl
  | cons p r ih => simp only [flat, List.flatMap_cons, List.length_append, List.length_cons] at *; rw [ih]; simp [pc]; omega
theorem flat_get {ps : List (Int × Int × Int)} {k j : Nat} {p : Int × Int × Int} {v : Value} (hp : ps[k]? = some p) (hv : (pc p)[j]? = some v) : (flat ps)[k * 3 + j]? = some v := by
  induction ps generalizing k with
  | nil => simp at hp
  | cons q r ih =>
    have hj : j < 3 := by have := (List.getElem?_eq_some_iff.1 hv).1; simpa [pc] using this
    have hq : (pc q).length = 3 := rfl
    simp only [flat, List.flatMap_cons]
    cases k with
    | zero =>
      simp at hp; subst hp
      rw [Nat.zero_mul, Nat.zero_add, List.getElem?_append_left (by rw [hq]; exact hj)]; exact hv
    | succ k =>
      have e : (k + 1) * 3 + j - (pc q).length = k * 3 + j := by rw [hq]; omega
      rw [List.getElem?_append_right (by rw [hq]; omega), e]
      exact ih (by simpa using hp)
theorem flat_inv {ps : List (Int × Int × Int)} {i : Nat} {v : Value} (h : (flat ps)[i]? = some v) : ∃ p, ps[i / 3]? = some p ∧ (pc p)[i % 3]? = some v := by
  have hi := (List.getElem?_eq_some_iff.1 h).1
  rw [flat_len] at hi
  have hk : i / 3 < ps.length := by omega
  have hp : ps[i / 3]? = some (ps[i / 3]'hk) := List.getElem?_eq_getElem _
  have hr : i % 3 < (pc (ps[i / 3]'hk)).length := by show i % 3 < 3; omega
  have hv : (pc (ps[i / 3]'hk))[i % 3]? = some ((pc (ps[i / 3]'hk))[i % 3]'hr) := List.getElem?_eq_getElem _
  have hf := flat_get hp hv
  have e : i / 3 * 3 + i % 3 = i := by omega
  rw [e, h] at hf
  exact ⟨_, hp, by rw [hv, ← Option.some.inj hf]⟩
theorem flat_one (ps : List (Int × Int × Int)) : ∀ u ∈ flat ps, u.oneCell' = true := by
  intro u hu
  obtain ⟨i, hi⟩ := List.getElem?_of_mem hu
  obtain ⟨p, _, hv⟩ := flat_inv hi
  have hm := List.mem_of_getElem? hv
  simp [pc] at hm
  rcases hm with rfl | rfl | rfl <;> rfl
theorem pairsIn_of_own {w : World} {base e n : Nat} {v : Value} {ps : List (Int × Int × Int)} (h : w.ownsRow base e 3 v n (flat ps)) (hn : n = ps.length) (hb : base ≤ w.heap.size) :
    ∃ A' c', v = .slice A' n c' ∧ n ≤ c' ∧ PairsIn w base A' ps := by
  rcases h.2 with ⟨rfl, h0⟩ | ⟨g, cap, cur, rfl, hbg, hg, hnc, _, hsz, htk⟩
  · exact ⟨none, 0, by rw [h0], by omega, fun hne => (hne (List.length_eq_zero_iff.1 (by omega))).elim⟩
  · refine ⟨_, cap, rfl, hnc, fun _ => ⟨g, 0, rfl, hbg, (Array.getElem?_eq_some_iff.1 hg).1, fun k p hp j u hu => ?_, fun j hj => ?_⟩⟩
    · have hk := (List.getElem?_eq_some_iff.1 hp).1
      have hj : j < 3 := by have := (List.getElem?_eq_some_iff.1 hu).1; simpa [pc] using this
      rw [cell_of_row _ _ _ _ _ _ hg]
      have := flat_get hp hu
      rw [← htk, List.getElem?_take] at this
      rw [Nat.zero_add]
      split at this
      · simpa using this
      · cases this
    · refine ⟨?_, frozen_of_row _ _ _ _ _ hg⟩
      rw [cell_of_row _ _ _ _ _ _ hg]
      have : 0 + j < cur.size := by rw [hsz]; have : ps.length * 3 ≤ cap * 3 := by omega
                                    omega
      simp [this]
      omega
theorem addr_add (b o i : Nat) : (⟨b, o, none⟩ : Addr).add i = ⟨b, o + i, none⟩ := by unfold Addr.add; split <;> simp_all
theorem news_of {w : World} {b o : Nat} {ps : List (Int × Int × Int)} (hP : ∀ k p, ps[k]? = some p → w.rangeAt b (o + k * 3) (pc p)) : ∀ j u, (flat ps)[j]? = some u → w.cell? ((⟨b, o, none⟩ : Addr).add j) = some u := by
  intro j u hu
  obtain ⟨p, hp, hv⟩ := flat_inv hu
  have := hP _ p hp _ u hv
  rw [addr_add]
  have e : o + j / 3 * 3 + j % 3 = o + j := by omega
  rw [e] at this; exact this

theorem Try.infoPair2 : (Try.prog.info? 36).map (fun i => (i.zero, i.size, i.bytes)) = some (some (.agg #[.int .u8 0, .int .u8 0, .int .i8 0]), 3, 3) := by kernel_rfl

end Go.Proofs.Ytikndeloeeppaaa
