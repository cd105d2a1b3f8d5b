/- The shift that keeps the most letters: data. -/
import Derived.Test.YtngondeaeipcfaaDoorKpI
import Derived.Test.YtngondeaeipcfaaDoorLaP
namespace Go.Proofs.YtngondeaeipcfaaDoor
open Go Go.RowKit

theorem getD_bd {a : List Int} {lo hi : Int} (h : ∀ x ∈ a, lo ≤ x ∧ x ≤ hi) {k : Nat} (hk : k < a.length) : lo ≤ a.getD k 0 ∧ a.getD k 0 ≤ hi := by
  rw [List.getD_eq_getElem?_getD, List.getElem?_eq_getElem hk]; exact h _ (List.getElem_mem hk)
theorem getD_some {a : List Int} {k : Nat} (hk : k < a.length) : a[k]? = some (a.getD k 0) := by
  rw [List.getD_eq_getElem?_getD, List.getElem?_eq_getElem hk]; rfl
theorem byte_cell {X : List UInt8} {k : Nat} (hk : k < X.length) : (Lib.byteCells X)[k]? = some (.int .u8 (byteAt X k)) := by
  unfold Lib.byteCells byteAt
  rw [List.getElem?_map, List.getD_eq_getElem?_getD, List.getElem?_eq_getElem hk]; rfl
/-- The letters of a line at their places. -/
def psL (F : Fc) (L : List UInt8) : List Pr := psT (lettL L) (plL F (wordsL L)) (lettL L).length
/-- Places grow along a word. -/
theorem plc_mono {F : Fc} (hF : F.ok) (h : vface F = true) {L : List UInt8} (hc : allCap L) (j : Nat) : ∀ m, j + m < L.length → wideTo F L j + gapL F L j ≤ wideTo F L (j + m) + gapL F L (j + m)
  | 0, _ => by simp
  | m + 1, hm => by
    have ih := plc_mono hF h hc j m (by omega)
    have h1 := letW_bd hF h hc (i := j + m) (by omega)
    have h2 := gapL_bd h L (j + m + 1)
    have e : wideTo F L (j + m + 1) = wideTo F L (j + m) + letW F L (j + m) + gapL F L (j + m) := rfl
    rw [← Nat.add_assoc, e]
    omega
theorem plc_wide {F : Fc} (hF : F.ok) (h : vface F = true) {L : List UInt8} (hc : allCap L) (j : Nat) (hj : j < L.length) : wideTo F L j + gapL F L j ≤ wideL F L := by
  have h0 := plc_mono hF h hc j (L.length - 1 - j) (by omega)
  have e : j + (L.length - 1 - j) = L.length - 1 := by omega
  rw [e] at h0
  have h1 := letW_bd hF h hc (i := L.length - 1) (by omega)
  have e2 : wideL F L = wideTo F L (L.length - 1) + letW F L (L.length - 1) + gapL F L (L.length - 1) := by
    unfold wideL
    obtain ⟨n, hn⟩ : ∃ n, L.length = n + 1 := ⟨L.length - 1, by omega⟩
    rw [hn]; rfl
  omega
theorem plTo_sorted {F : Fc} (hF : F.ok) (h : vface F = true) {ws : List (List UInt8)} (hw : ∀ x ∈ ws, x.length ≤ 60 ∧ allCap x) : ∀ k, k ≤ ws.length → (plTo F ws k).Pairwise (· ≤ ·) ∧ ∀ x ∈ plTo F ws k, x ≤ preL F ws k
  | 0, _ => by simp [plTo]
  | k + 1, hk => by
    obtain ⟨ih1, ih2⟩ := plTo_sorted hF h hw k (by omega)
    obtain ⟨hl, hc⟩ := hw _ (getD_mem (ws := ws) (k := k) (by omega))
    have hsp := (inB_true.1 (vface_true.1 h).2.sp).1
    have hp : preL F ws (k + 1) = preL F ws k + wideL F (ws.getD k []) + F.sp := rfl
    have hw0 : 0 ≤ wideL F (ws.getD k []) := by
      have := (wideTo_bd hF h hc _ (Nat.le_refl _)).1
      unfold wideL; omega
    rw [plTo]
    refine ⟨List.pairwise_append.2 ⟨ih1, ?_, ?_⟩, ?_⟩
    · unfold plW
      rw [List.pairwise_map]
      refine List.Pairwise.imp_of_mem ?_ (List.pairwise_lt_range (n := (ws.getD k []).length))
      intro a b ha hb hab
      have hb := List.mem_range.1 hb
      have := plc_mono hF h hc a (b - a) (by omega)
      rw [show a + (b - a) = b by omega] at this
      omega
    · intro a ha b hb
      have h1 := ih2 a ha
      unfold plW at hb
      obtain ⟨j, hj, rfl⟩ := List.mem_map.1 hb
      have hj := List.mem_range.1 hj
      have h2 := (wideTo_bd hF h hc j (by omega)).1
      have h3 := gapL_bd h (ws.getD k []) j
      omega
    · intro x hx
      rcases List.mem_append.1 hx with hx | hx
      · have := ih2 x hx; omega
      · unfold plW at hx
        obtain ⟨j, hj, rfl⟩ := List.mem_map.1 hx
        have hj := List.mem_range.1 hj
        have := plc_wide hF h hc j hj
        omega
theorem plL_sorted {F : Fc} (hF : F.ok) (h : vface F = true) {L : List UInt8} (ht : vtext L = true) : (plL F (wordsL L)).Pairwise (· ≤ ·) :=
  (plTo_sorted hF h (fun _ hx => words_mem ht hx) _ (Nat.le_refl _)).1

/-- How many pairs there are with a shift: of the first i rows, and k of the next. -/
def cpt (R : Pr → Pr → Int → Bool) (az bs : List Pr) (i k : Nat) (d : Int) : Nat :=
  ((az.take i).map (fun a => bs.countP (fun b => R a b d))).sum + (bs.take k).countP (fun b => R (az.getD i (0, 0)) b d)
/-- All pairs. -/
def shT (R : Pr → Pr → Int → Bool) (az bs : List Pr) (d : Int) : Nat := (az.map (fun a => bs.countP (fun b => R a b d))).sum
theorem cpt_zero (R : Pr → Pr → Int → Bool) (az bs : List Pr) (d : Int) : cpt R az bs 0 0 d = 0 := by simp [cpt]
theorem cpt_succ {R : Pr → Pr → Int → Bool} {az bs : List Pr} {i k : Nat} {a b : Pr} (ha : az[i]? = some a) (hb : bs[k]? = some b) (d : Int) : cpt R az bs i (k + 1) d = cpt R az bs i k d + if R a b d = true then 1 else 0 := by
  have e : az.getD i (0, 0) = a := by rw [List.getD_eq_getElem?_getD, ha]; rfl
  unfold cpt
  rw [e, List.take_add_one, hb, List.countP_append]
  simp [List.countP_cons, Nat.add_assoc]
theorem cpt_break {R : Pr → Pr → Int → Bool} {az bs : List Pr} {i k : Nat} {a : Pr} (ha : az[i]? = some a) {d : Int} (hno : ∀ b ∈ bs.drop k, R a b d = false) : cpt R az bs (i + 1) 0 d = cpt R az bs i k d := by
  have e : az.getD i (0, 0) = a := by rw [List.getD_eq_getElem?_getD, ha]; rfl
  unfold cpt
  rw [e, List.take_add_one, ha, List.take_zero]
  have h2 : bs.countP (fun b => R a b d) = (bs.take k).countP (fun b => R a b d) := by
    conv => lhs; rw [← List.take_append_drop k bs]
    rw [List.countP_append, List.countP_eq_zero (l := bs.drop k) |>.2 (fun b hb => by rw [hno b hb]; decide), Nat.add_zero]
  simp [h2]
theorem cpt_row {R : Pr → Pr → Int → Bool} {az bs : List Pr} {i : Nat} {a : Pr} (ha : az[i]? = some a) (d : Int) : cpt R az bs (i + 1) 0 d = cpt R az bs i bs.length d :=
  cpt_break ha (by simp)
theorem cpt_end (R : Pr → Pr → Int → Bool) (az bs : List Pr) (d : Int) : cpt R az bs az.length 0 d = shT R az bs d := by simp [cpt, shT]
theorem cpt_le (R : Pr → Pr → Int → Bool) (az bs : List Pr) (ha : az.length ≤ 60) (hb : bs.length ≤ 60) (i k : Nat) (d : Int) : cpt R az bs i k d ≤ 3660 := by
  have h1 : ∀ l : List Pr, (l.map (fun a => bs.countP (fun b => R a b d))).sum ≤ 60 * l.length := by
    intro l
    induction l with
    | nil => simp
    | cons a l ih =>
      have := List.countP_le_length (p := fun b => R a b d) (l := bs)
      simp only [List.map_cons, List.sum_cons, List.length_cons]; omega
  have h2 := h1 (az.take i)
  have h3 : (az.take i).length ≤ 60 := by rw [List.length_take]; omega
  have h4 := List.countP_le_length (p := fun b => R (az.getD i (0, 0)) b d) (l := bs.take k)
  have h5 : (bs.take k).length ≤ 60 := by rw [List.length_take]; omega
  unfold cpt
  omega
theorem shT_nil (R : Pr → Pr → Int → Bool) (az : List Pr) (d : Int) : shT R az [] d = 0 := by
  unfold shT
  induction az with
  | nil => rfl
  | cons a az ih => simp only [List.map_cons, List.sum_cons, ih]; rfl
theorem shT_snocR (R : Pr → Pr → Int → Bool) (bs : List Pr) (b : Pr) (d : Int) : ∀ az, shT R az (b :: bs) d = az.countP (fun a => R a b d) + shT R az bs d
  | [] => rfl
  | a :: az => by
    have ih := shT_snocR R bs b d az
    unfold shT at ih ⊢
    simp only [List.map_cons, List.sum_cons, List.countP_cons] at ih ⊢
    omega
/-- Pairs counted by rows are pairs counted by columns. -/
theorem shT_swap (R : Pr → Pr → Int → Bool) (az : List Pr) (d : Int) : ∀ bs, shT R az bs d = shT (fun b a d => R a b d) bs az d
  | [] => by rw [shT_nil]; rfl
  | b :: bs => by
    rw [shT_snocR, shT_swap R az d bs]
    simp [shT]
/-- A letter of old and one of wanted are kept with a shift. -/
def kpR (x y : Pr) (d : Int) : Bool := x.1 == y.1 && x.2 - y.2 == d
def kpR' (y x : Pr) (d : Int) : Bool := kpR x y d
/-- What is counted. -/
def cntS (xs ys : List Pr) (d : Int) : Int := (shT kpR xs ys d : Nat)
theorem cntS_swap (xs ys : List Pr) (d : Int) : cntS xs ys d = (shT kpR' ys xs d : Nat) := by unfold cntS; rw [shT_swap]; rfl
def bsStep (C : Int → Int) (s : Int × Int) (d : Int) : Int × Int := if s.2 < C d then (d, C d) else s
/-- The best of the shifts up to a size. -/
def bsG (C : Int → Int) : Nat → Int × Int
  | 0 => (0, C 0)
  | n + 1 => bsStep C (bsStep C (bsG C n) ((n : Int) + 1)) (-((n : Int) + 1))
/-- The table of 801 counts. -/
def tbC (C : Int → Nat) : List Value := (List.range 801).map fun (k : Nat) => .int .i64 ((C ((k : Int) - 400) : Nat) : Int)
theorem tbC_len (C : Int → Nat) : (tbC C).length = 801 := by simp [tbC]
theorem tbC_get (C : Int → Nat) {k : Nat} (h : k < 801) : (tbC C)[k]? = some (.int .i64 ((C ((k : Int) - 400) : Nat) : Int)) := by simp [tbC, h]
theorem tbC_same {C D : Int → Nat} (h : ∀ d, -400 ≤ d → d ≤ 400 → C d = D d) : tbC C = tbC D := by
  unfold tbC
  refine List.map_congr_left fun k hk => ?_
  have := List.mem_range.1 hk
  rw [h _ (by omega) (by omega)]
theorem tbC_hit {C D : Int → Nat} {d : Int} (hd : -400 ≤ d ∧ d ≤ 400) (h : ∀ e, D e = C e + if e = d then 1 else 0) {k : Nat} (hk : (k : Int) = d + 400) : tbC D = (tbC C).set k (.int .i64 ((C d : Nat) + 1 : Int)) := by
  refine List.ext_getElem? fun j => ?_
  by_cases hj : j < 801
  · rw [tbC_get D hj, h]
    by_cases e : k = j
    · subst e
      rw [List.getElem?_set_self (by rw [tbC_len]; exact hj)]
      have : (k : Int) - 400 = d := by omega
      rw [this]; simp
    · rw [List.getElem?_set_ne e, tbC_get C hj]
      have : ¬ (j : Int) - 400 = d := by omega
      simp [this]
  · rw [List.getElem?_eq_none (by rw [tbC_len]; omega), List.getElem?_eq_none (by rw [List.length_set, tbC_len]; omega)]
end Go.Proofs.YtngondeaeipcfaaDoor
