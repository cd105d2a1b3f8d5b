/- What holds of letters that are kept with a shift: data for RecutPrice, FnRecut and FnFilled. · What it costs to cut a line again: data, and the program's. -/
import Derived.Test.YtngondeaeipcfaaGreatDoorKpK
import Derived.Test.YtngondeaeipcfaaGreatDoorLcP
import Derived.Test.YtngondeaeipcfaaGreatDoorBsK
import Derived.Test.YtngondeaeipcfaaGreatDoorPrC
import Derived.Test.YtngondeaeipcfaaGreatDoorSumG

namespace Go.Proofs.YtngondeaeipcfaaGreatDoor
open Go Go.RowKit

/-- Places grow. -/
def incr (xs : List Pr) : Prop := xs.Pairwise (fun a b => a.2 < b.2)
theorem incr_one {xs : List Pr} (h : incr xs) (y : Pr) (d : Int) : xs.countP (fun x => kpR x y d) = if (y.1, y.2 + d) ∈ xs then 1 else 0 := by
  induction xs with
  | nil => rfl
  | cons a l ih =>
    obtain ⟨h1, h2⟩ := List.pairwise_cons.1 h
    have ih := ih h2
    rw [List.countP_cons, ih]
    obtain ⟨a1, a2⟩ := a
    by_cases e : (y.1, y.2 + d) = (a1, a2)
    · injection e with e1 e2
      have hno : ¬ (y.1, y.2 + d) ∈ l := fun hm => by have := h1 _ hm; simp only at this; omega
      have hk : kpR (a1, a2) y d = true := by simp [kpR, ← e1, ← e2]; omega
      rw [if_neg hno, hk, if_pos rfl, if_pos (List.mem_cons.2 (.inl (by rw [e1, e2])))]
    · have hk : kpR (a1, a2) y d = false := by
        cases hk : kpR (a1, a2) y d
        · rfl
        · unfold kpR at hk
          simp only [Bool.and_eq_true, beq_iff_eq] at hk
          exact (e (by rw [hk.1, show y.2 + d = a2 by omega])).elim
      rw [hk]
      simp only [List.mem_cons, e, false_or, Nat.add_zero]
      simp
theorem countP_range {α : Type} {p : α → Bool} : ∀ (ys : List α) (q : Nat → Bool), (∀ k y, ys[k]? = some y → q k = p y) → (List.range ys.length).countP q = ys.countP p
  | [], _, _ => rfl
  | a :: l, q, h => by
    rw [List.length_cons, List.range_succ_eq_map, List.countP_cons, List.countP_cons, List.countP_map, countP_range l (q ∘ Nat.succ) (fun k y hk => h (k + 1) y (by simpa using hk)), h 0 a rfl]
theorem idx_len {α : Type} {p : α → Bool} {q : Int → Bool} {ys : List α} (h : ∀ k y, ys[k]? = some y → q ((k : Nat) : Int) = p y) : ((idxL ys.length).filter q).length = ys.countP p := by
  rw [← List.countP_eq_length_filter]
  unfold idxL
  rw [List.countP_map]
  exact countP_range ys _ (fun k y hk => h k y hk)
/-- How many are kept is what is counted. -/
theorem cnt_kept {xs : List Pr} (h : incr xs) (ys : List Pr) (d : Int) : cntS xs ys d = ((kpL xs ys d).length : Nat) := by
  rw [cntS_swap]
  unfold kpL
  rw [idx_len (p := fun y => decide ((y.1, y.2 + d) ∈ xs)) (fun k y hk => kpP_at hk)]
  congr 1
  unfold shT
  induction ys with
  | nil => rfl
  | cons y l ih =>
    rw [List.map_cons, List.sum_cons, ih, List.countP_cons, Nat.add_comm]
    congr 1
    show xs.countP (fun x => kpR x y d) = _
    rw [incr_one h]
    by_cases e : (y.1, y.2 + d) ∈ xs <;> simp [e]
theorem bsG_best (C : Int → Int) : ∀ n : Nat, ((-(n : Int) ≤ (bsG C n).1 ∧ (bsG C n).1 ≤ n) ∧ (bsG C n).2 = C (bsG C n).1) ∧
    ∀ d : Int, -(n : Int) ≤ d → d ≤ n → C d ≤ (bsG C n).2 ∧ (C d = (bsG C n).2 → max (bsG C n).1 (-(bsG C n).1) ≤ max d (-d) ∧ (0 < d → d ≠ -(bsG C n).1))
  | 0 => by
    refine ⟨by simp [bsG], fun d h1 h2 => ?_⟩
    obtain rfl : d = 0 := by omega
    simp [bsG]
  | n + 1 => by
    obtain ⟨⟨ih1, ih2⟩, ih3⟩ := bsG_best C n
    have e : bsG C (n + 1) = bsStep C (bsStep C (bsG C n) ((n : Int) + 1)) (-((n : Int) + 1)) := rfl
    rw [e]
    generalize bsG C n = s at *
    obtain ⟨b, v⟩ := s
    simp only at ih1 ih2 ih3
    subst ih2
    unfold bsStep
    by_cases g1 : C b < C ((n : Int) + 1)
    · simp only [g1, if_true]
      by_cases g2 : C ((n : Int) + 1) < C (-((n : Int) + 1))
      · simp only [g2, if_true]
        refine ⟨⟨by omega, trivial⟩, fun d h1 h2 => ?_⟩
        by_cases e1 : d = (n : Int) + 1
        · subst e1; omega
        by_cases e2 : d = -((n : Int) + 1)
        · subst e2; omega
        have := ih3 d (by omega) (by omega); omega
      · simp only [g2, if_false]
        refine ⟨⟨by omega, trivial⟩, fun d h1 h2 => ?_⟩
        by_cases e1 : d = (n : Int) + 1
        · subst e1; omega
        by_cases e2 : d = -((n : Int) + 1)
        · subst e2; omega
        have := ih3 d (by omega) (by omega); omega
    · simp only [g1, if_false]
      by_cases g2 : C b < C (-((n : Int) + 1))
      · simp only [g2, if_true]
        refine ⟨⟨by omega, trivial⟩, fun d h1 h2 => ?_⟩
        by_cases e1 : d = (n : Int) + 1
        · subst e1; omega
        by_cases e2 : d = -((n : Int) + 1)
        · subst e2; omega
        have := ih3 d (by omega) (by omega); omega
      · simp only [g2, if_false]
        refine ⟨⟨by omega, trivial⟩, fun d h1 h2 => ?_⟩
        by_cases e1 : d = (n : Int) + 1
        · subst e1; omega
        by_cases e2 : d = -((n : Int) + 1)
        · subst e2; omega
        have := ih3 d (by omega) (by omega); omega
/-- Letters that are kept are left in their order. -/
def keptN (xs ys : List Pr) (d : Int) (i j : Nat) : Nat := (ys.take j).countP (fun y => decide ((y.1, y.2 + d) ∈ xs.take i))
theorem kept_take {xs : List Pr} {i : Nat} {a : Pr} (ha : xs[i]? = some a) (y : Pr) (d : Int) : decide ((y.1, y.2 + d) ∈ xs.take (i + 1)) = (decide ((y.1, y.2 + d) ∈ xs.take i) || decide ((y.1, y.2 + d) = a)) := by
  rw [List.take_add_one, ha]
  simp only [Option.toList_some, List.mem_append, List.mem_singleton, Bool.decide_or]
theorem keptN_lc {X Y : List UInt8} {a b : List Int} (d : Int) (hx : incr (psT X a X.length)) (hy : incr (psT Y b Y.length)) :
    ∀ i j, i ≤ X.length → j ≤ Y.length → keptN (psT X a X.length) (psT Y b Y.length) d i j ≤ lc X Y i j
  | 0, j, _, _ => by unfold keptN; rw [lc_first]; simp
  | i + 1, 0, _, _ => by unfold keptN; rw [lc_zero]; simp
  | i + 1, j + 1, hi, hj => by
    have ih1 := keptN_lc d hx hy i (j + 1) (by omega) hj
    have ih2 := keptN_lc d hx hy (i + 1) j hi (by omega)
    have ih3 := keptN_lc d hx hy i j (by omega) (by omega)
    have gx := psT_get (X := X) (a := a) (n := X.length) (k := i) (by omega)
    have gy := psT_get (X := Y) (a := b) (n := Y.length) (k := j) (by omega)
    generalize psT X a X.length = xs at *
    generalize psT Y b Y.length = ys at *
    have hxi : ∀ p ∈ xs.take i, p.2 < a.getD i 0 := fun p hp => by
      obtain ⟨k, hk⟩ := List.getElem?_of_mem hp
      have hkl : k < i := by have := (List.getElem?_eq_some_iff.1 hk).1; rw [List.length_take] at this; omega
      rw [List.getElem?_take, if_pos hkl] at hk
      obtain ⟨h1, h2⟩ := List.getElem?_eq_some_iff.1 hk
      obtain ⟨h3, h4⟩ := List.getElem?_eq_some_iff.1 gx
      have := List.pairwise_iff_getElem.1 hx k i h1 h3 hkl
      rw [h2, h4] at this; exact this
    have hyj : ∀ p ∈ ys.take j, p.2 < b.getD j 0 := fun p hp => by
      obtain ⟨k, hk⟩ := List.getElem?_of_mem hp
      have hkl : k < j := by have := (List.getElem?_eq_some_iff.1 hk).1; rw [List.length_take] at this; omega
      rw [List.getElem?_take, if_pos hkl] at hk
      obtain ⟨h1, h2⟩ := List.getElem?_eq_some_iff.1 hk
      obtain ⟨h3, h4⟩ := List.getElem?_eq_some_iff.1 gy
      have := List.pairwise_iff_getElem.1 hy k j h1 h3 hkl
      rw [h2, h4] at this; exact this
    have e2 : ∀ i', keptN xs ys d i' (j + 1) = keptN xs ys d i' j + if (byteAt Y j, b.getD j 0 + d) ∈ xs.take i' then 1 else 0 := fun i' => by
      unfold keptN
      rw [List.take_add_one, gy, List.countP_append]
      by_cases h : (byteAt Y j, b.getD j 0 + d) ∈ xs.take i' <;> simp [h]
    by_cases hm : (byteAt Y j, b.getD j 0 + d) = (byteAt X i, a.getD i 0)
    · -- both last letters go together
      injection hm with m1 m2
      have hl : X.getD i 0 = Y.getD j 0 := by
        unfold byteAt at m1
        exact UInt8.toNat_inj.1 (by omega)
      rw [lc_same hl, e2]
      have h3 : keptN xs ys d (i + 1) j = keptN xs ys d i j := by
        unfold keptN
        refine List.countP_congr fun y hy => ?_
        rw [kept_take gx]
        have h4 := hyj y hy
        have h5 : decide ((y.1, y.2 + d) = (byteAt X i, a.getD i 0)) = false := by
          rw [decide_eq_false_iff_not]; intro e; injection e with _ e; omega
        rw [h5, Bool.or_false]
      rw [h3]
      split <;> omega
    · have hle : max (lc X Y i (j + 1)) (lc X Y (i + 1) j) ≤ lc X Y (i + 1) (j + 1) := by rw [lc_next]; split <;> omega
      by_cases h1 : (byteAt Y j, b.getD j 0 + d) ∈ xs.take i
      · -- the last letter of wanted goes with an earlier one: none goes with the last one of old
        have h2 : keptN xs ys d (i + 1) (j + 1) = keptN xs ys d i (j + 1) := by
          unfold keptN
          refine List.countP_congr fun y hy => ?_
          rw [kept_take gx]
          have h5 : decide ((y.1, y.2 + d) = (byteAt X i, a.getD i 0)) = false := by
            rw [decide_eq_false_iff_not]
            intro e; injection e with e1 e2'
            have h6 := hxi _ h1
            simp only at h6
            rw [List.take_add_one, gy] at hy
            rcases List.mem_append.1 hy with hy | hy
            · have := hyj y hy; omega
            · simp only [Option.toList_some, List.mem_singleton] at hy
              subst hy
              simp only at e1 e2'
              omega
          rw [h5, Bool.or_false]
        omega
      · have h2 : keptN xs ys d (i + 1) (j + 1) = keptN xs ys d (i + 1) j := by
          rw [e2, if_neg]
          · rfl
          · rw [List.take_add_one, gx]
            simp only [Option.toList_some, List.mem_append, List.mem_singleton, not_or]
            exact ⟨h1, hm⟩
        omega
theorem kept_lc {X Y : List UInt8} {a b : List Int} (d : Int) (hx : incr (psT X a X.length)) (hy : incr (psT Y b Y.length)) :
    (kpL (psT X a X.length) (psT Y b Y.length) d).length ≤ lc X Y X.length Y.length := by
  have h := keptN_lc d hx hy X.length Y.length (Nat.le_refl _) (Nat.le_refl _)
  have lx := psT_len X a X.length
  have ly := psT_len Y b Y.length
  generalize psT X a X.length = xs at *
  generalize psT Y b Y.length = ys at *
  unfold kpL
  rw [idx_len (p := fun y => decide ((y.1, y.2 + d) ∈ xs)) (fun k y hk => kpP_at hk)]
  unfold keptN at h
  rw [List.take_of_length_le (by omega), List.take_of_length_le (by omega)] at h
  exact h
theorem lc_le2 (a b : List UInt8) : ∀ j i, lc a b i j ≤ j
  | 0, i => by rw [lc_zero]; omega
  | j + 1, i => by
    have h1 := (lc_step a b (i + j) i j (Nat.le_refl _)).2
    have h2 := lc_le2 a b j i
    omega
theorem lc_self (a : List UInt8) : ∀ i, lc a a i i = i
  | 0 => lc_first _ _ _
  | i + 1 => by rw [lc_same rfl, lc_self a i]
/-- Places grow strictly. -/
theorem plc_lt {F : Fc} (hF : F.ok) (h : vface F = true) {L : List UInt8} (hc : allCap L) (j m : Nat) (hm : j + m + 1 < L.length) : wideTo F L j + gapL F L j < wideTo F L (j + m + 1) + gapL F L (j + m + 1) := by
  have h0 := plc_mono hF h hc j m (by omega)
  have h1 := letW_bd hF h hc (i := j + m) (by omega)
  have h2 := gapL_bd h L (j + m + 1)
  have e : wideTo F L (j + m + 1) = wideTo F L (j + m) + letW F L (j + m) + gapL F L (j + m) := rfl
  omega
theorem plc_in {F : Fc} (hF : F.ok) (h : vface F = true) {L : List UInt8} (hc : allCap L) (j : Nat) (hj : j < L.length) : wideTo F L j + gapL F L j < wideL F L := by
  have h0 := plc_mono hF h hc j (L.length - 1 - j) (by omega)
  have e : j + (L.length - 1 - j) = L.length - 1 := by omega
  rw [e] at h0
  have h1 := letW_bd hF h hc (i := L.length - 1) (by omega)
  have e2 : wideL F L = wideTo F L (L.length - 1) + letW F L (L.length - 1) + gapL F L (L.length - 1) := by
    unfold wideL
    obtain ⟨n, hn⟩ : ∃ n, L.length = n + 1 := ⟨L.length - 1, by omega⟩
    rw [hn]; rfl
  omega
theorem plTo_incr {F : Fc} (hF : F.ok) (h : vface F = true) {ws : List (List UInt8)} (hw : ∀ x ∈ ws, x.length ≤ 60 ∧ allCap x) : ∀ k, k ≤ ws.length → (plTo F ws k).Pairwise (· < ·) ∧ ∀ x ∈ plTo F ws k, x < preL F ws k
  | 0, _ => by simp [plTo]
  | k + 1, hk => by
    obtain ⟨ih1, ih2⟩ := plTo_incr hF h hw k (by omega)
    obtain ⟨hl, hc⟩ := hw _ (getD_mem (ws := ws) (k := k) (by omega))
    have hsp := (inB_true.1 (vface_true.1 h).2.sp).1
    have hp : preL F ws (k + 1) = preL F ws k + wideL F (ws.getD k []) + F.sp := rfl
    have hw0 : 0 ≤ wideL F (ws.getD k []) := by
      have := (wideTo_bd hF h hc _ (Nat.le_refl _)).1
      unfold wideL; omega
    rw [plTo]
    refine ⟨List.pairwise_append.2 ⟨ih1, ?_, ?_⟩, ?_⟩
    · unfold plW
      rw [List.pairwise_map]
      refine List.Pairwise.imp_of_mem ?_ (List.pairwise_lt_range (n := (ws.getD k []).length))
      intro a b ha hb hab
      have hb := List.mem_range.1 hb
      have := plc_lt hF h hc a (b - a - 1) (by omega)
      rw [show a + (b - a - 1) + 1 = b by omega] at this
      omega
    · intro a ha b hb
      have h1 := ih2 a ha
      unfold plW at hb
      obtain ⟨j, hj, rfl⟩ := List.mem_map.1 hb
      have hj := List.mem_range.1 hj
      have h2 := (wideTo_bd hF h hc j (by omega)).1
      have h3 := gapL_bd h (ws.getD k []) j
      omega
    · intro x hx
      rcases List.mem_append.1 hx with hx | hx
      · have := ih2 x hx; omega
      · unfold plW at hx
        obtain ⟨j, hj, rfl⟩ := List.mem_map.1 hx
        have hj := List.mem_range.1 hj
        have := plc_in hF h hc j hj
        omega
theorem plL_incr {F : Fc} (hF : F.ok) (h : vface F = true) {L : List UInt8} (ht : vtext L = true) : (plL F (wordsL L)).Pairwise (· < ·) :=
  (plTo_incr hF h (fun _ hx => words_mem ht hx) _ (Nat.le_refl _)).1
theorem psT_incr (X : List UInt8) {a : List Int} (h : a.Pairwise (· < ·)) {n : Nat} (hn : n ≤ a.length) : incr (psT X a n) := by
  unfold incr psT
  rw [List.pairwise_map]
  refine List.Pairwise.imp_of_mem ?_ (List.pairwise_lt_range (n := n))
  intro i j hi hj hij
  have hj := List.mem_range.1 hj
  have := List.pairwise_iff_getElem.1 h i j (by omega) (by omega) hij
  simp only [List.getD_eq_getElem?_getD, List.getElem?_eq_getElem (show i < a.length by omega), List.getElem?_eq_getElem (show j < a.length by omega), Option.getD_some]
  exact this
theorem psL_incr {F : Fc} (hF : F.ok) (h : vface F = true) {L : List UInt8} (ht : vtext L = true) : incr (psL F L) :=
  psT_incr _ (plL_incr hF h ht) (by rw [plL_lett]; exact Nat.le_refl _)
end Go.Proofs.YtngondeaeipcfaaGreatDoor

namespace Go.Proofs.YtngondeaeipcfaaGreatDoor
open Go Go.RowKit

/-- Prices without those of letters that are kept. -/
def zrL (K ps : List Int) : List Int := (List.range ps.length).map (fun i => if ((i : Nat) : Int) ∈ K then 0 else ps.getD i 0)
theorem zrL_len (K ps : List Int) : (zrL K ps).length = ps.length := by simp [zrL]
theorem zrL_nil (ps : List Int) : zrL [] ps = ps := by
  apply List.ext_getElem
  · simp [zrL]
  · intro i h1 h2; simp [zrL, List.getD, h2]
theorem zrL_get {K ps : List Int} {i : Nat} (h : i < ps.length) : (zrL K ps)[i]? = some (if (i : Int) ∈ K then 0 else ps.getD i 0) := by simp [zrL, h]
theorem zrL_set {K ps : List Int} {k : Nat} (h : k < ps.length) : (zrL K ps).set k 0 = zrL (K ++ [(k : Int)]) ps := by
  apply List.ext_getElem?
  intro i
  by_cases hi : i < ps.length
  · rw [zrL_get hi]
    by_cases e : k = i
    · subst e
      rw [List.getElem?_set_self (by rw [zrL_len]; exact h)]; simp
    · rw [List.getElem?_set_ne e, zrL_get hi]
      have : ¬ (i : Int) = k := by omega
      simp [this]
  · rw [List.getElem?_eq_none (by rw [List.length_set, zrL_len]; omega), List.getElem?_eq_none (by rw [zrL_len]; omega)]
theorem zrL_bd {K ps : List Int} {c : Int} (hc : 0 ≤ c) (h : ∀ x ∈ ps, 0 ≤ x ∧ x ≤ c) : ∀ x ∈ zrL K ps, 0 ≤ x ∧ x ≤ c := by
  intro x hx
  obtain ⟨i, hi, rfl⟩ := List.mem_map.1 hx
  have hi := List.mem_range.1 hi
  split
  · omega
  · rw [List.getD_eq_getElem?_getD, List.getElem?_eq_getElem hi]; exact h _ (List.getElem_mem hi)
/-- The letters that are kept with the best shift. -/
noncomputable def rcK (F : Fc) (L M : List UInt8) : List Int := kpL (psL F L) (psL F M) (bsG (cntS (psL F L) (psL F M)) 400).1
noncomputable def rcB (F : Fc) (P : List Int) (L M : List UInt8) : Bool := ktB F L M && vprc P
noncomputable def rcC (F : Fc) (P : List Int) (L M : List UInt8) : Int := if rcB F P L M = true then 0 else 1
noncomputable def rcV (F : Fc) (P : List Int) (L M : List UInt8) : Int := if rcB F P L M = true then P.getD 27 0 + P.getD 28 0 * (((lettL L).length : Int) - ((rcK F L M).length : Int)) + sumT (zrL (rcK F L M) (lprL F P M)) (lettL M).length else 0
theorem rc_no {F : Fc} {P : List Int} {L M : List UInt8} (h : rcB F P L M = false) : rcV F P L M = 0 ∧ rcC F P L M = 1 := by unfold rcV rcC; rw [h]; exact ⟨rfl, rfl⟩
theorem rc_ok {F : Fc} {P : List Int} {L M : List UInt8} (h : rcB F P L M = true) : rcV F P L M = P.getD 27 0 + P.getD 28 0 * (((lettL L).length : Int) - ((rcK F L M).length : Int)) + sumT (zrL (rcK F L M) (lprL F P M)) (lettL M).length ∧ rcC F P L M = 0 := by unfold rcV rcC; rw [h]; exact ⟨rfl, rfl⟩
theorem kpL_mem {xs ys : List Pr} {d x : Int} (h : x ∈ kpL xs ys d) : ∃ k : Nat, x = (k : Int) ∧ k < ys.length := by
  unfold kpL at h
  have h := (List.mem_filter.1 h).1
  unfold idxL at h
  obtain ⟨k, hk, rfl⟩ := List.mem_map.1 h
  exact ⟨k, rfl, List.mem_range.1 hk⟩
theorem kpL_len (xs ys : List Pr) (d : Int) : (kpL xs ys d).length ≤ ys.length := by
  unfold kpL
  refine Nat.le_trans (List.length_filter_le _ _) ?_
  rw [idxL_len]; exact Nat.le_refl _
theorem psL_len (F : Fc) (L : List UInt8) : (psL F L).length = (lettL L).length := by unfold psL; rw [psT_len]
theorem psL_bd {F : Fc} (hF : F.ok) (hv : vface F = true) {L : List UInt8} (ht : vtext L = true) : ∀ p ∈ psL F L, 0 ≤ p.2 ∧ p.2 ≤ 240000 := fun p hp => by
  unfold psL at hp
  obtain ⟨i, hi⟩ := List.getElem?_of_mem hp
  have hil := (List.getElem?_eq_some_iff.1 hi).1
  rw [psT_len] at hil
  rw [psT_get hil] at hi
  injection hi with hi
  rw [← hi]
  exact getD_bd (plL_bd hF hv ht) (by rw [plL_lett]; exact hil)
theorem psL_sorted {F : Fc} (hF : F.ok) (hv : vface F = true) {L : List UInt8} (ht : vtext L = true) : (psL F L).Pairwise (fun a b => a.2 ≤ b.2) :=
  (psL_incr hF hv ht).imp (fun h => Int.le_of_lt h)
theorem psL_n {F : Fc} {L : List UInt8} (ht : vtext L = true) : (psL F L).length ≤ 60 := by rw [psL_len]; exact Nat.le_trans (lettL_len _) (vtext_true.1 ht).1
end Go.Proofs.YtngondeaeipcfaaGreatDoor
