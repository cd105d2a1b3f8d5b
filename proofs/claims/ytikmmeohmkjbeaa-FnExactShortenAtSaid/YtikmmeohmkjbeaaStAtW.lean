/- ShortenAt: what is told of its indices, and the program's check of them. -/
import Derived.Test.YtikmmeohmkjbeaaShAllS
namespace Go.Proofs.Ytikmmeohmkjbeaa
open Go Go.RowKit Go.Shelf Go.Sort Go.Maps

/-- The first k indices are those of words. -/
def rgTo (n : Nat) (bs : List Int) (k : Nat) : Prop := ∀ (j : Nat) (v : Int), j < k → bs[j]? = some v → 0 ≤ v ∧ v < n
/-- No two of the first k indices are equal. -/
def ndTo (bs : List Int) (k : Nat) : Prop := ∀ (i j : Nat) (u v : Int), i < j → j < k → bs[i]? = some u → bs[j]? = some v → u ≠ v
/-- The words with the first k indices have shorts. -/
def hsTo (ps : List Sh) (xs : List ByteArray) (bs : List Int) (k : Nat) : Prop := ∀ (j : Nat) (v : Int), j < k → bs[j]? = some v → (ofS ps (xs.getD v.toNat ⟨#[]⟩)).isSome = true
theorem rgTo_zero (n : Nat) (bs : List Int) : rgTo n bs 0 := fun j v h => absurd h (by omega)
theorem ndTo_zero (bs : List Int) : ndTo bs 0 := fun i j u v _ h => absurd h (by omega)
theorem hsTo_zero (ps : List Sh) (xs : List ByteArray) (bs : List Int) : hsTo ps xs bs 0 := fun j v h => absurd h (by omega)
theorem rgTo_succ {n : Nat} {bs : List Int} {k : Nat} {v : Int} (h : rgTo n bs k) (hv : bs[k]? = some v) (h1 : 0 ≤ v ∧ v < n) : rgTo n bs (k + 1) := fun j u hj hu => by
  by_cases e : j = k
  · subst e; rw [hv] at hu; injection hu with hu; subst hu; exact h1
  · exact h j u (by omega) hu
theorem hsTo_succ {ps : List Sh} {xs : List ByteArray} {bs : List Int} {k : Nat} {v : Int} (h : hsTo ps xs bs k) (hv : bs[k]? = some v) (h1 : (ofS ps (xs.getD v.toNat ⟨#[]⟩)).isSome = true) : hsTo ps xs bs (k + 1) := fun j u hj hu => by
  by_cases e : j = k
  · subst e; rw [hv] at hu; injection hu with hu; subst hu; exact h1
  · exact h j u (by omega) hu
theorem ndTo_succ {bs : List Int} {k : Nat} {v : Int} (h : ndTo bs k) (hv : bs[k]? = some v) (h1 : v ∉ bs.take k) : ndTo bs (k + 1) := fun i j a b hij hj ha hb => by
  by_cases e : j = k
  · subst e; rw [hv] at hb; injection hb with hb; subst hb
    rintro rfl
    exact h1 (List.mem_iff_getElem?.2 ⟨i, by rw [List.getElem?_take_of_lt hij]; exact ha⟩)
  · exact h i j a b hij (by omega) ha hb
theorem nd_bad {bs : List Int} {k : Nat} {v : Int} (hv : bs[k]? = some v) (h1 : v ∈ bs.take k) : ¬ ndTo bs bs.length := fun h => by
  obtain ⟨i, hi⟩ := List.mem_iff_getElem?.1 h1
  have hik : i < k := by
    have := (List.getElem?_eq_some_iff.1 hi).1
    rw [List.length_take] at this; omega
  rw [List.getElem?_take_of_lt hik] at hi
  exact h i k v v hik (List.getElem?_eq_some_iff.1 hv).1 hi hv rfl
noncomputable def ixC (ps : List Sh) (xs : List ByteArray) (bs : List Int) : Int :=
  @ite _ (rgTo xs.length bs bs.length) (Classical.propDecidable _) (@ite _ (ndTo bs bs.length) (Classical.propDecidable _) (@ite _ (hsTo ps xs bs bs.length) (Classical.propDecidable _) 0 6) 4) 2
theorem ix_rg {ps : List Sh} {xs : List ByteArray} {bs : List Int} (h : ¬ rgTo xs.length bs bs.length) : ixC ps xs bs = 2 := by unfold ixC; rw [if_neg h]
theorem ix_nd {ps : List Sh} {xs : List ByteArray} {bs : List Int} (h0 : rgTo xs.length bs bs.length) (h : ¬ ndTo bs bs.length) : ixC ps xs bs = 4 := by unfold ixC; rw [if_pos h0, if_neg h]
theorem ix_hs {ps : List Sh} {xs : List ByteArray} {bs : List Int} (h0 : rgTo xs.length bs bs.length) (h1 : ndTo bs bs.length) (h : ¬ hsTo ps xs bs bs.length) : ixC ps xs bs = 6 := by unfold ixC; rw [if_pos h0, if_pos h1, if_neg h]
theorem ix_ok {ps : List Sh} {xs : List ByteArray} {bs : List Int} (h0 : rgTo xs.length bs bs.length) (h1 : ndTo bs bs.length) (h : hsTo ps xs bs bs.length) : ixC ps xs bs = 0 := by unfold ixC; rw [if_pos h0, if_pos h1, if_pos h]
theorem ix_zero {ps : List Sh} {xs : List ByteArray} {bs : List Int} (h : ixC ps xs bs = 0) : rgTo xs.length bs bs.length ∧ ndTo bs bs.length := by
  by_cases h0 : rgTo xs.length bs bs.length
  · by_cases h1 : ndTo bs bs.length
    · exact ⟨h0, h1⟩
    · rw [ix_nd h0 h1] at h; cases h
  · rw [ix_rg h0] at h; cases h
theorem rg_at {n : Nat} {bs : List Int} {k : Nat} {v : Int} (hv : bs[k]? = some v) (h1 : inB v 0 ((n : Int) - 1) = false) : ¬ rgTo n bs bs.length := fun h => by
  have := h k v (List.getElem?_eq_some_iff.1 hv).1 hv
  have := inB_false.1 h1
  omega
theorem rg_idx {n : Nat} {bs : List Int} (h : rgTo n bs bs.length) : idxOk n bs := fun k v hv => h k v (List.getElem?_eq_some_iff.1 hv).1 hv
theorem nd_idx {n : Nat} {bs : List Int} (h : rgTo n bs bs.length) (h1 : ndTo bs bs.length) : idxNd bs := fun j k hj hk e => by
  have a := List.getElem?_eq_getElem (l := bs) (i := j) (by omega)
  have b := List.getElem?_eq_getElem (l := bs) (i := k) hk
  have h2 := h j _ (by omega) a
  have h3 := h k _ hk b
  have e1 : bs.getD j 0 = bs[j] := by simp [List.getD, (show j < bs.length by omega)]
  have e2 : bs.getD k 0 = bs[k] := by simp [List.getD, hk]
  rw [e1, e2] at e
  exact h1 j k _ _ hj hk a b (by omega)
theorem mem_canL {ps : List Sh} {xs : List ByteArray} {i : Nat} (hi : i < xs.length) : (i : Int) ∈ canL ps xs ↔ (ofS ps (xs.getD i ⟨#[]⟩)).isSome = true := by
  constructor
  · intro h
    obtain ⟨j, _, e, h2⟩ := canTo_mem h
    have : i = j := by omega
    subst this; exact h2
  · intro h
    exact List.mem_map.2 ⟨i, List.mem_filter.2 ⟨List.mem_range.2 hi, h⟩, rfl⟩

set_option maxRecDepth 100000 in
set_option maxHeartbeats 2000000 in
theorem indexI_any (A : Option Addr) (xs : List Int) (c : Nat) (v : Int) (w : World) (hn : xs.length ≤ maxLen) (hA : IntsAt w w.heap.size A xs) :
    Calls Try.prog 185 #[.slice A xs.length c, .int .i64 v] w fun e w' => ∃ r : Int, e = .returned (.int .i64 r) ∧ (0 ≤ r ↔ v ∈ xs) ∧ Below w.heap.size w w' := by
  unfold maxLen at hn
  have HH := hide (fun k (h : xs[k]? = some v) => show v ∈ xs from List.mem_of_getElem? h)
  have HN := hide (fun (h : ∀ (j : Nat) u, j < xs.length → xs[j]? = some u → u ≠ v) => show v ∉ xs from fun hm => by
    obtain ⟨j, hj⟩ := List.getElem?_of_mem hm
    exact h j v (List.getElem?_eq_some_iff.1 hj).1 hj rfl)
  obtain ⟨n, hL⟩ : ∃ n, xs.length = n := ⟨_, rfl⟩
  have HL := hide hL
  rw [hL] at hn HN ⊢
  clear hL
  go_enter Try.func185, Try.ntmps185
  go_wp2
  go_loopw [8] (fun i wr => ∃ k : Nat, k ≤ n ∧ i = .int .i64 k ∧ Hid (∀ (j : Nat) u, j < k → xs[j]? = some u → u ≠ v) ∧ Below w.heap.size w wr)
    (fun i _ => n - (intOf i).toNat)
  case atStart => exact ⟨0, by omega, rfl, hide (fun j u h => absurd h (by omega)), Below.refl _ _⟩
  case round =>
    obtain ⟨k, hk, rfl, hg, hB⟩ := hrel
    by_cases hlt : k < n
    · obtain ⟨b, o, rfl, hb, hps⟩ := hA (by intro e; rw [e] at HL; have := HL.out; simp at this; omega)
      obtain ⟨p, hp⟩ : ∃ p, xs[k]? = some p := ⟨xs[k]'(by rw [HL.out]; exact hlt), List.getElem?_eq_getElem _⟩
      have c0 := (hB.cell (p := ⟨b, o + k, none⟩) hb).trans (hps k _ hp)
      have hi : (k : Int) < n := by omega
      have h0 : (0 : Int) ≤ k := by omega
      have HP := hide hp
      clear hps hp
      by_cases he : p = v
      · subst he
        have HR := hide (HH.out k HP.out)
        have hd : (p == p) = true := by simp
        go_wp2
        go_ret
        exact ⟨k, rfl, ⟨fun _ => HR.out, fun _ => h0⟩, hB⟩
      · have hgo : Hid (∀ (j : Nat) u, j < k + 1 → xs[j]? = some u → u ≠ v) := hide (fun j u hj hu => by
          by_cases e : j = k
          · subst e; rw [HP.out] at hu; injection hu with hu; subst hu; exact he
          · exact hg.out j u (by omega) hu)
        have hd : (p == v) = false := by simpa using he
        go_wp2
        exact ⟨⟨k + 1, by omega, by go_num, hgo, hB⟩, by simp [intOf]; omega⟩
    · obtain rfl : k = n := by omega
      have HR := hide (HN.out hg.out)
      go_wp2
      go_ret
      exact ⟨-1, rfl, ⟨fun h => absurd h (by decide), fun h => absurd h HR.out⟩, hB⟩
theorem containsI_any (A : Option Addr) (xs : List Int) (c : Nat) (v : Int) (w : World) (hn : xs.length ≤ maxLen) (hA : IntsAt w w.heap.size A xs) :
    Calls Try.prog 161 #[.slice A xs.length c, .int .i64 v] w fun e w' => e = .returned (.bool (decide (v ∈ xs))) ∧ Below w.heap.size w w' := by
  have HI := hide (indexI_any A xs c v w hn hA)
  clear hA hn
  generalize xs.length = n at *
  go_enter Try.func161, Try.ntmps161
  go_wp2_with fail
  refine HI.out.mono ?_
  rintro e w1 ⟨r, rfl, hr, hb1⟩
  have HR := hide hr
  clear hr
  go_wp2
  go_ret
  exact ⟨ret_bool (by have := HR.out; by_cases h : v ∈ xs <;> simp [h] at this ⊢ <;> omega), hb1⟩

set_option maxRecDepth 100000 in
set_option maxHeartbeats 2000000 in
theorem l00Has_any (A : Option Addr) (xs : List Int) (c : Nat) (v : Int) (w : World) (hn : xs.length ≤ maxLen) (hA : IntsAt w w.heap.size A xs) :
    Calls Try.prog 110 #[.slice A xs.length c, .int .i64 v] w fun e w' => e = .returned (.bool (decide (v ∈ xs))) ∧ Below w.heap.size w w' := by
  unfold maxLen at hn
  have HH := hide (fun k (h : xs[k]? = some v) => show decide (v ∈ xs) = true from by simpa using List.mem_of_getElem? h)
  have HN := hide (fun (h : ∀ (j : Nat) u, j < xs.length → xs[j]? = some u → u ≠ v) => show decide (v ∈ xs) = false from by
    simp only [decide_eq_false_iff_not]
    intro hm
    obtain ⟨j, hj⟩ := List.getElem?_of_mem hm
    exact h j v (List.getElem?_eq_some_iff.1 hj).1 hj rfl)
  generalize decide (v ∈ xs) = D at *
  obtain ⟨n, hL⟩ : ∃ n, xs.length = n := ⟨_, rfl⟩
  have HL := hide hL
  rw [hL] at hn HN ⊢
  clear hL
  go_enter Try.func110, Try.ntmps110
  go_wp2
  go_loopw [5] (fun i wr => ∃ k : Nat, k ≤ n ∧ i = .int .i64 k ∧ Hid (∀ (j : Nat) u, j < k → xs[j]? = some u → u ≠ v) ∧ Below w.heap.size w wr)
    (fun i _ => n - (intOf i).toNat)
  case atStart => exact ⟨0, by omega, rfl, hide (fun j u h => absurd h (by omega)), Below.refl _ _⟩
  case round =>
    obtain ⟨k, hk, rfl, hg, hB⟩ := hrel
    by_cases hlt : k < n
    · obtain ⟨b, o, rfl, hb, hps⟩ := hA (by intro e; rw [e] at HL; have := HL.out; simp at this; omega)
      obtain ⟨p, hp⟩ : ∃ p, xs[k]? = some p := ⟨xs[k]'(by rw [HL.out]; exact hlt), List.getElem?_eq_getElem _⟩
      have c0 := (hB.cell (p := ⟨b, o + k, none⟩) hb).trans (hps k _ hp)
      have hi : (k : Int) < n := by omega
      have h0 : (0 : Int) ≤ k := by omega
      have HP := hide hp
      clear hps hp
      by_cases he : p = v
      · subst he
        have HR := hide (HH.out k HP.out)
        have hd : (p == p) = true := by simp
        go_wp2
        go_ret
        exact ⟨ret_bool HR.out.symm, hB⟩
      · have hgo : Hid (∀ (j : Nat) u, j < k + 1 → xs[j]? = some u → u ≠ v) := hide (fun j u hj hu => by
          by_cases e : j = k
          · subst e; rw [HP.out] at hu; injection hu with hu; subst hu; exact he
          · exact hg.out j u (by omega) hu)
        have hd : (p == v) = false := by simpa using he
        go_wp2
        exact ⟨⟨k + 1, by omega, by go_num, hgo, hB⟩, by simp [intOf]; omega⟩
    · obtain rfl : k = n := by omega
      have HR := hide (HN.out hg.out)
      go_wp2
      go_ret
      exact ⟨ret_bool HR.out.symm, hB⟩
end Go.Proofs.Ytikmmeohmkjbeaa
