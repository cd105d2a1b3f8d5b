/- Rubbings as plain data: rows of 16 dots, dots that are dark, rubbings that are filled dot by dot, moves, matches. -/
import Derived.Test.YtngondeaeipcfaaDoorG2
namespace Go.Proofs.YtngondeaeipcfaaDoor
open Go Go.RowKit

/-- The cells of a rubbing. -/
def rwc (R : List Nat) : List Value := R.map (fun n : Nat => .int .u16 (n : Int))
def rok (R : List Nat) : Prop := R.length = 8 ∧ ∀ x ∈ R, x < 65536
theorem rwc_length (R : List Nat) : (rwc R).length = R.length := by simp [rwc]
theorem rwc_get {R : List Nat} {k : Nat} (hk : k < R.length) : (rwc R)[k]? = some (.int .u16 ((R.getD k 0 : Nat) : Int)) := by
  unfold rwc; rw [List.getElem?_map, List.getElem?_eq_getElem hk, List.getD_eq_getElem?_getD, List.getElem?_eq_getElem hk]; rfl
theorem rwc_set (R : List Nat) (k v : Nat) : (rwc R).set k (.int .u16 (v : Int)) = rwc (R.set k v) := by simp [rwc]
theorem rwc_one (R : List Nat) : (rwc R).toArray.all (·.oneCell') = true := all_oneCell_toArray (by simp [rwc, Value.oneCell'])
theorem rok_at {R : List Nat} (h : rok R) (k : Nat) : R.getD k 0 < 65536 := by
  by_cases hk : k < R.length
  · rw [List.getD_eq_getElem?_getD, List.getElem?_eq_getElem hk, Option.getD_some]; exact h.2 _ (List.getElem_mem hk)
  · rw [List.getD_eq_getElem?_getD, List.getElem?_eq_none (by omega)]; decide
theorem bit_lt {n : Nat} (h : n < 65536) {k : Nat} (hk : 16 ≤ k) : n.testBit k = false :=
  Nat.testBit_lt_two_pow (Nat.lt_of_lt_of_le h (by have := Nat.pow_le_pow_right (n := 2) (by decide) hk; simpa using this))

/-- The row of the dots for which f holds, up to the dot k. -/
def rowF (f : Nat → Bool) : Nat → Nat
  | 0 => 0
  | k + 1 => if f k = true then rowF f k ||| 2 ^ k else rowF f k
theorem rowF_bit (f : Nat → Bool) : ∀ k j, (rowF f k).testBit j = (decide (j < k) && f j)
  | 0, j => by simp [rowF]
  | k + 1, j => by
    have ih := rowF_bit f k j
    rw [rowF]
    by_cases e : j = k
    · subst e
      split
      · rename_i h; rw [Nat.testBit_or, Nat.testBit_two_pow_self, h]; simp
      · rename_i h; rw [ih]; simp [h]
    · have h1 : decide (j < k + 1) = decide (j < k) := by simp; omega
      split
      · rw [Nat.testBit_or, ih, Nat.testBit_two_pow_of_ne (by omega), h1, Bool.or_false]
      · rw [ih, h1]
theorem rowF_lt (f : Nat → Bool) (k : Nat) : rowF f k < 2 ^ k := by
  refine Nat.lt_pow_two_of_testBit _ fun j hj => ?_
  rw [rowF_bit]; simp; omega
theorem rowF_lt16 (f : Nat → Bool) {k : Nat} (hk : k ≤ 16) : rowF f k < 65536 :=
  Nat.lt_of_lt_of_le (rowF_lt f k) (Nat.pow_le_pow_right (n := 2) (by decide) hk)
theorem rowF_on {f : Nat → Bool} {k : Nat} (h : f k = true) : rowF f (k + 1) = rowF f k ||| 2 ^ k := if_pos h
theorem rowF_off {f : Nat → Bool} {k : Nat} (h : f k = false) : rowF f (k + 1) = rowF f k := if_neg (by rw [h]; decide)
theorem rowF_eq {f : Nat → Bool} {n : Nat} (hn : n < 65536) (h : ∀ j, j < 16 → n.testBit j = f j) : n = rowF f 16 := by
  refine Nat.eq_of_testBit_eq fun j => ?_
  rw [rowF_bit]
  by_cases hj : j < 16
  · rw [h j hj]; simp [hj]
  · rw [bit_lt hn (by omega)]; simp [hj]

/-- The rubbing of the dots for which f holds. -/
def rubF (f : Nat → Nat → Bool) : List Nat := (List.range 8).map (fun y => rowF (fun x => f x y) 16)
/-- .. filled up to the dot x of the row y. -/
def rubT (f : Nat → Nat → Bool) (y x : Nat) : List Nat := (List.range 8).map (fun j => if j < y then rowF (fun x => f x j) 16 else if j = y then rowF (fun x => f x j) x else 0)
theorem rubT_len (f : Nat → Nat → Bool) (y x : Nat) : (rubT f y x).length = 8 := by simp [rubT]
theorem rubF_len (f : Nat → Nat → Bool) : (rubF f).length = 8 := by simp [rubF]
theorem rubF_get (f : Nat → Nat → Bool) {y : Nat} (hy : y < 8) : (rubF f).getD y 0 = rowF (fun x => f x y) 16 := by simp [rubF, List.getD, hy]
theorem rubT_get (f : Nat → Nat → Bool) {y : Nat} (hy : y < 8) (x : Nat) : (rubT f y x).getD y 0 = rowF (fun x => f x y) x := by simp [rubT, List.getD, hy]
theorem rubF_ok (f : Nat → Nat → Bool) : rok (rubF f) := ⟨rubF_len f, fun n hn => by
  obtain ⟨j, _, rfl⟩ := List.mem_map.1 hn
  exact rowF_lt16 _ (Nat.le_refl _)⟩
theorem rubT_ok (f : Nat → Nat → Bool) (y : Nat) {x : Nat} (hx : x ≤ 16) : rok (rubT f y x) := ⟨rubT_len f y x, fun n hn => by
  obtain ⟨j, _, rfl⟩ := List.mem_map.1 hn
  split
  · exact rowF_lt16 _ (Nat.le_refl _)
  · split
    · exact rowF_lt16 _ hx
    · decide⟩
theorem rubT_zero (f : Nat → Nat → Bool) : rubT f 0 0 = List.replicate 8 0 := by simp [rubT, rowF]; rfl
theorem rubT_next (f : Nat → Nat → Bool) (y : Nat) : rubT f y 16 = rubT f (y + 1) 0 := by
  unfold rubT
  refine List.map_congr_left fun j _ => ?_
  by_cases h1 : j < y
  · rw [if_pos h1, if_pos (by omega)]
  · by_cases h2 : j = y
    · rw [if_neg h1, if_pos h2, if_pos (by omega)]
    · rw [if_neg h1, if_neg h2, if_neg (by omega)]
      split <;> rfl
theorem rubT_all (f : Nat → Nat → Bool) : rubT f 8 0 = rubF f := by
  unfold rubT rubF
  refine List.map_congr_left fun j hj => ?_
  rw [if_pos (List.mem_range.1 hj)]
theorem rubT_set {f : Nat → Nat → Bool} {y x : Nat} (hy : y < 8) (h : f x y = true) : (rubT f y x).set y (rowF (fun x => f x y) x ||| 2 ^ x) = rubT f y (x + 1) := by
  apply List.ext_getElem
  · simp [rubT]
  · intro i h1 h2
    rw [List.length_set, rubT_len] at h1
    simp only [rubT, List.getElem_set, List.getElem_map, List.getElem_range]
    by_cases e : y = i
    · subst e; simp [rowF, h]
    · rw [if_neg e, if_neg (show ¬ i = y by omega), if_neg (show ¬ i = y by omega)]
theorem rubT_off {f : Nat → Nat → Bool} {y x : Nat} (h : f x y = false) : rubT f y (x + 1) = rubT f y x := by
  unfold rubT
  refine List.map_congr_left fun j _ => ?_
  by_cases h1 : j < y
  · rw [if_pos h1, if_pos h1]
  · by_cases h2 : j = y
    · subst h2; rw [if_neg h1, if_pos rfl, if_neg h1, if_pos rfl]; exact rowF_off h
    · rw [if_neg h1, if_neg h2, if_neg h1, if_neg h2]
theorem rubF_congr {f g : Nat → Nat → Bool} (h : ∀ x y, x < 16 → y < 8 → f x y = g x y) : rubF f = rubF g := by
  unfold rubF
  refine List.map_congr_left fun y hy => ?_
  refine Nat.eq_of_testBit_eq fun j => ?_
  rw [rowF_bit, rowF_bit]
  by_cases hj : j < 16
  · rw [h j y hj (List.mem_range.1 hy)]
  · simp [hj]
theorem rub_eq {R : List Nat} {f : Nat → Nat → Bool} (hR : rok R) (h : ∀ x y, x < 16 → y < 8 → (R.getD y 0).testBit x = f x y) : R = rubF f := by
  apply List.ext_getElem
  · rw [hR.1, rubF_len]
  · intro i h1 h2
    have hi : i < 8 := by rw [hR.1] at h1; exact h1
    have e1 : R[i] = R.getD i 0 := by rw [List.getD_eq_getElem?_getD, List.getElem?_eq_getElem h1, Option.getD_some]
    have e2 : (rubF f)[i] = rowF (fun x => f x i) 16 := by simp [rubF]
    exact e1.trans ((rowF_eq (rok_at hR i) fun j hj => h j i hj hi).trans e2.symm)

/-- A dot of a rubbing is dark; those outside are light. -/
def dk (R : List Nat) (x y : Int) : Bool := inB x 0 15 && inB y 0 7 && (R.getD y.toNat 0).testBit x.toNat
theorem dk_in {R : List Nat} {x y : Nat} (hx : x < 16) (hy : y < 8) : dk R (x : Int) (y : Int) = (R.getD y 0).testBit x := by
  unfold dk
  rw [inB_true.2 (by omega), inB_true.2 (by omega)]; simp
theorem dk_offx {R : List Nat} {x y : Int} (h : inB x 0 15 = false) : dk R x y = false := by unfold dk; rw [h]; rfl
theorem dk_offy {R : List Nat} {x y : Int} (h : inB y 0 7 = false) : dk R x y = false := by unfold dk; rw [h]; simp
theorem dk_at {R : List Nat} {x y : Int} (hx : inB x 0 15 = true) (hy : inB y 0 7 = true) : dk R x y = (R.getD y.toNat 0).testBit x.toNat := by unfold dk; rw [hx, hy]; rfl
theorem rub_dk {R : List Nat} (hR : rok R) : R = rubF (fun x y => dk R x y) := rub_eq hR fun x y hx hy => (dk_in hx hy).symm
theorem dk_rubF {f : Nat → Nat → Bool} {x y : Nat} (hx : x < 16) (hy : y < 8) : dk (rubF f) x y = f x y := by
  rw [dk_in hx hy, rubF_get f hy, rowF_bit]; simp [hx]

/-- How many of the first k dots are dark. -/
def bitN (n : Nat) : Nat → Nat
  | 0 => 0
  | k + 1 => bitN n k + (n.testBit k).toNat
theorem bitN_le (n : Nat) : ∀ k, bitN n k ≤ k
  | 0 => Nat.le_refl _
  | k + 1 => by have := bitN_le n k; have := Bool.toNat_le (n.testBit k); rw [bitN]; omega
def drkL (R : List Nat) : List Int := (List.range 8).map (fun y => ((bitN (R.getD y 0) 16 : Nat) : Int))
def drkT (R : List Nat) (k : Nat) : List Int := (List.range k).map (fun y => ((bitN (R.getD y 0) 16 : Nat) : Int))
theorem drkT_succ (R : List Nat) (k : Nat) : drkT R (k + 1) = drkT R k ++ [((bitN (R.getD k 0) 16 : Nat) : Int)] := by simp [drkT, List.range_succ]
theorem drkT_len (R : List Nat) (k : Nat) : (drkT R k).length = k := by simp [drkT]
theorem drkL_len (R : List Nat) : (drkL R).length = 8 := by simp [drkL]
/-- How many of the first k rows' dots are dark. -/
def cntN (R : List Nat) : Nat → Nat
  | 0 => 0
  | k + 1 => cntN R k + bitN (R.getD k 0) 16
theorem cntN_le (R : List Nat) : ∀ k, cntN R k ≤ 16 * k
  | 0 => Nat.le_refl _
  | k + 1 => by have := cntN_le R k; have := bitN_le (R.getD k 0) 16; rw [cntN]; omega

/-- The dots that are dark in two rubbings. -/
def cmnL (R S : List Nat) : List Nat := (List.range 8).map (fun y => R.getD y 0 &&& S.getD y 0)
def cmnT (R S : List Nat) (k : Nat) : List Nat := (List.range 8).map (fun y => if y < k then R.getD y 0 &&& S.getD y 0 else R.getD y 0)
theorem cmnT_len (R S : List Nat) (k : Nat) : (cmnT R S k).length = 8 := by simp [cmnT]
theorem cmnL_len (R S : List Nat) : (cmnL R S).length = 8 := by simp [cmnL]
theorem cmnL_ok {R : List Nat} (h : rok R) (S : List Nat) : rok (cmnL R S) := ⟨cmnL_len R S, fun n hn => by
  obtain ⟨j, _, rfl⟩ := List.mem_map.1 hn
  exact Nat.lt_of_le_of_lt Nat.and_le_left (rok_at h j)⟩
theorem cmnL_get (R S : List Nat) {y : Nat} (hy : y < 8) : (cmnL R S).getD y 0 = R.getD y 0 &&& S.getD y 0 := by simp [cmnL, List.getD, hy]
theorem cmnT_get (R S : List Nat) {y : Nat} (hy : y < 8) : (cmnT R S y).getD y 0 = R.getD y 0 := by simp [cmnT, List.getD, hy]
theorem cmnT_zero {R : List Nat} (h : R.length = 8) (S : List Nat) : cmnT R S 0 = R := by
  apply List.ext_getElem
  · simp [cmnT, h]
  · intro i h1 h2; simp [cmnT, List.getD, h2]
theorem cmnT_all (R S : List Nat) : cmnT R S 8 = cmnL R S := by
  unfold cmnT cmnL
  refine List.map_congr_left fun j hj => ?_
  rw [if_pos (List.mem_range.1 hj)]
theorem cmnT_set (R S : List Nat) {y : Nat} (hy : y < 8) : (cmnT R S y).set y (R.getD y 0 &&& S.getD y 0) = cmnT R S (y + 1) := by
  apply List.ext_getElem
  · simp [cmnT]
  · intro i h1 h2
    rw [List.length_set, cmnT_len] at h1
    simp only [cmnT, List.getElem_set, List.getElem_map, List.getElem_range]
    by_cases e : y = i
    · subst e; simp
    · rw [if_neg e]
      by_cases h3 : i < y
      · rw [if_pos h3, if_pos (by omega)]
      · rw [if_neg h3, if_neg (by omega)]

/-- A rubbing that has been moved. -/
def mvR (R : List Nat) (dx dy : Int) : List Nat := rubF (fun x y => dk R (x - dx) (y - dy))
/-- A rubbing, left and right exchanged. -/
def mirR (R : List Nat) : List Nat := rubF (fun x y => dk R (15 - x) y)
/-- How many dots match. -/
def mtN (R S : List Nat) : Nat := cntN (cmnL R S) 8

/-! bits in the walk's own words -/
theorem n_bit (n k : Nat) : n.testBit k = decide (n / 2 ^ k % 2 = 1) := Nat.testBit_eq_decide_div_mod_eq
theorem bit_tmod (n X : Nat) : (((n : Int) / 2 ^ X).tmod 2 == 1) = n.testBit X := by
  have e : (n : Int) / 2 ^ X = ((n / 2 ^ X : Nat) : Int) := by simp
  rw [n_bit, e, Int.tmod_eq_emod_of_nonneg (Int.natCast_nonneg _), Bool.eq_iff_iff]
  simp; omega
theorem u16_min {k : Nat} (h : k ≤ 16) : min (k : Int).toNat 16 = k := by simp; omega
theorem u16_shr (n k : Nat) : (n : Int).fdiv (2 ^ k) = ((n / 2 ^ k : Nat) : Int) := by
  rw [Int.fdiv_eq_ediv_of_nonneg _ (Int.le_of_lt (Int.pow_pos (by decide)))]; simp
theorem u16_shl1 {k : Nat} (h : k < 16) : IntKind.u16.wrap ((1 : Int) * 2 ^ k) = ((2 ^ k : Nat) : Int) := by
  have h1 : 2 ^ k < 2 ^ 16 := Nat.pow_lt_pow_right (by decide) h
  rw [IntKind.wrap_u16, Int.one_mul, Int.emod_eq_of_lt (Int.le_of_lt (Int.pow_pos (by decide)))]
  · simp
  · have : ((2 ^ k : Nat) : Int) < ((65536 : Nat) : Int) := by exact_mod_cast h1
    simpa using this
theorem pow_lt16 {k : Nat} (h : k < 16) : 2 ^ k < 65536 := by have := Nat.pow_lt_pow_right (a := 2) (by decide) h; simpa using this
theorem u16_orbit {m k : Nat} (hm : m < 65536) (h : k < 16) : bits .or .u16 (m : Int) (IntKind.u16.wrap (2 ^ k)) = ((m ||| 2 ^ k : Nat) : Int) := by
  have e := u16_shl1 h
  rw [Int.one_mul] at e
  rw [e]
  exact u16_or_nat m (2 ^ k) hm (pow_lt16 h)
end Go.Proofs.YtngondeaeipcfaaDoor
