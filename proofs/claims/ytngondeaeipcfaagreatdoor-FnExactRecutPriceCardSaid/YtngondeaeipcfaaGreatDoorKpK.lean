/- Letters at their places: data; those of the program. · The shift that keeps the most letters: data. · Letters at their places of the program: placedIn, keptAt, KeptAt. · What is kept with a shift: keptAt and KeptAt of the program. -/
import Derived.Test.YtngondeaeipcfaaGreatDoorPrC
import Derived.Test.YtngondeaeipcfaaGreatDoorFlat
import Derived.Test.YtngondeaeipcfaaGreatDoorPrD
import Derived.Shelf.Abstract
import Derived.Test.YtngondeaeipcfaaGreatDoorLaP

namespace Go.Proofs.YtngondeaeipcfaaGreatDoor
open Go Go.RowKit

/-! Data -/
def plc (p : Pr) : List Value := [.int .u8 p.1, .int .i64 p.2]
theorem plc_len (p : Pr) : (plc p).length = 2 := rfl
/-- The first k letters at their places. -/
def psT (X : List UInt8) (a : List Int) (k : Nat) : List Pr := (List.range k).map (fun i => (byteAt X i, a.getD i 0))
theorem psT_succ (X : List UInt8) (a : List Int) (k : Nat) : psT X a (k + 1) = psT X a k ++ [(byteAt X k, a.getD k 0)] := by simp [psT, List.range_succ]
theorem psT_len (X : List UInt8) (a : List Int) (k : Nat) : (psT X a k).length = k := by simp [psT]
theorem psT_get {X : List UInt8} {a : List Int} {n k : Nat} (h : k < n) : (psT X a n)[k]? = some (byteAt X k, a.getD k 0) := by simp [psT, h]
def PlB (R : List Pr) (w : World) : Ending → World → Prop := fun e w' => ∃ A' c', e = .returned (.slice A' R.length c') ∧ R.length ≤ c' ∧ RowsIn 2 plc w' w.heap.size A' R ∧ Below w.heap.size w w'
theorem RowsAt.two {w : World} {B : Nat} {A : Option Addr} {xs : List Pr} (h : RowsAt 2 plc w B A xs) {k : Nat} {p : Pr} (hp : xs[k]? = some p) :
    ∃ b o, A = some ⟨b, o, none⟩ ∧ b < B ∧ w.cell? ⟨b, o + k * 2, none⟩ = some (.int .u8 p.1) ∧ w.cell? ⟨b, o + k * 2 + 1, none⟩ = some (.int .i64 p.2) := by
  obtain ⟨b, o, rfl, hb, hr⟩ := h (by intro e; rw [e] at hp; simp at hp)
  exact ⟨b, o, rfl, hb, hr k p hp 0 _ rfl, hr k p hp 1 _ rfl⟩

theorem Tryz.infoPlaced : (Tryz.prog.info? 258).map (fun i => (i.zero, i.size, i.bytes)) = some (some (.agg #[.int .u8 0, .int .i64 0]), 2, 16) := by kernel_rfl
theorem eql_placed (a b c d : Int) (w : World) : (binOp .eql 258 (.agg #[.int .u8 a, .int .i64 b]) (.agg #[.int .u8 c, .int .i64 d])).run Tryz.prog w = .ok (.bool (a == c && b == d)) w := by
  rw [run_eql_struct, run_equalIn_struct w 9999 _ _ _ (by kernel_rfl) (by kernel_rfl)]
  go_simp
  by_cases h1 : a = c
  · by_cases h2 : b = d
    · simp [h1, h2]
    · simp [h1, h2]
  · simp [h1]

set_option maxRecDepth 100000 in
set_option maxHeartbeats 4000000 in
theorem indexP_any (A : Option Addr) (xs : List Pr) (c : Nat) (v : Pr) (w : World) (hn : xs.length ≤ 1000) (hA : RowsAt 2 plc w w.heap.size A xs) :
    Calls Tryz.prog 280 #[.slice A xs.length c, .agg #[.int .u8 v.1, .int .i64 v.2]] w fun e w' => ∃ r : Int, e = .returned (.int .i64 r) ∧ (0 ≤ r ↔ v ∈ xs) ∧ Below w.heap.size w w' := by
  have HH := hide (fun k (h : xs[k]? = some v) => show v ∈ xs from List.mem_of_getElem? h)
  have HN := hide (fun (h : ∀ (j : Nat) u, j < xs.length → xs[j]? = some u → u ≠ v) => show v ∉ xs from fun hm => by
    obtain ⟨j, hj⟩ := List.getElem?_of_mem hm
    exact h j v (List.getElem?_eq_some_iff.1 hj).1 hj rfl)
  obtain ⟨n, hL⟩ : ∃ n, xs.length = n := ⟨_, rfl⟩
  have HL := hide hL
  have HX := hide hA
  have hB0 : Below w.heap.size w (w.alloc (.cells #[.int .u8 v.1, .int .i64 v.2] 258)) := (Below.refl _ _).alloc (Nat.le_refl _) _
  have rv := rangeAt_new' w #[.int .u8 v.1, .int .i64 v.2] 258
  have hs0 : (w.alloc (.cells #[.int .u8 v.1, .int .i64 v.2] 258)).heap.size = w.heap.size + 1 := by simp
  rw [hL] at hn HN ⊢
  clear hL hA
  go_enter Tryz.func280, Tryz.ntmps280
  go_wp2
  generalize (w.alloc (.cells #[.int .u8 v.1, .int .i64 v.2] 258)) = W0 at *
  go_loopw [8] (fun i wr => ∃ k : Nat, k ≤ n ∧ i = .int .i64 k ∧ Hid (∀ (j : Nat) u, j < k → xs[j]? = some u → u ≠ v) ∧ Below W0.heap.size W0 wr)
    (fun i _ => n - (intOf i).toNat)
  case atStart => exact ⟨0, by omega, rfl, hide (fun j u h => absurd h (by omega)), Below.refl _ _⟩
  case round =>
    obtain ⟨k, hk, rfl, hg, hB⟩ := hrel
    by_cases hlt : k < n
    · obtain ⟨p, hp⟩ : ∃ p, xs[k]? = some p := ⟨xs[k]'(by rw [HL.out]; exact hlt), List.getElem?_eq_getElem _⟩
      obtain ⟨b, o, rfl, hb, d0, d1⟩ := HX.out.two hp
      have c0 := ((hB0.trans (hB.mono hB0.size)).cell (p := ⟨b, o + k * 2, none⟩) hb).trans d0
      have c1 := ((hB0.trans (hB.mono hB0.size)).cell (p := ⟨b, o + k * 2 + 1, none⟩) hb).trans d1
      have v0 : wr.cell? ⟨w.heap.size, 0, none⟩ = some (.int .u8 v.1) := (hB.cell (p := ⟨w.heap.size, 0, none⟩) (by show w.heap.size < W0.heap.size; omega)).trans (rv 0 _ rfl)
      have v1 : wr.cell? ⟨w.heap.size, 1, none⟩ = some (.int .i64 v.2) := (hB.cell (p := ⟨w.heap.size, 1, none⟩) (by show w.heap.size < W0.heap.size; omega)).trans (rv 1 _ rfl)
      have hi : (k : Int) < n := by omega
      have h0 : (0 : Int) ≤ k := by omega
      have HP := hide hp
      have HB := hide hB
      clear d0 d1 hp hB
      have hq := eql_placed v.1 v.2 p.1 p.2
      by_cases he : p = v
      · subst he
        have HR := hide (HH.out k HP.out)
        have hd : (p.1 == p.1 && p.2 == p.2) = true := by simp
        go_wp2
        go_quiet (fail)
        go_wp2
        go_ret
        exact ⟨k, rfl, ⟨fun _ => HR.out, fun _ => h0⟩, hB0.trans ((below_drewN HB.out _).mono hB0.size)⟩
      · have hgo : Hid (∀ (j : Nat) u, j < k + 1 → xs[j]? = some u → u ≠ v) := hide (fun j u hj hu => by
          by_cases e : j = k
          · subst e; rw [HP.out] at hu; injection hu with hu; subst hu; exact he
          · exact hg.out j u (by omega) hu)
        have hd : (v.1 == p.1 && v.2 == p.2) = false := by
          obtain ⟨a, b⟩ := p; obtain ⟨c, d⟩ := v
          simp only [Bool.and_eq_false_iff, beq_eq_false_iff_ne]
          by_cases e : c = a
          · right; intro e2; exact he (by rw [e, e2])
          · left; exact e
        go_wp2
        go_quiet (fail)
        go_wp2
        exact ⟨⟨k + 1, by omega, by go_num, hgo, below_drewN HB.out _⟩, by simp [intOf]; omega⟩
    · obtain rfl : k = n := by omega
      have HR := hide (HN.out hg.out)
      go_wp2
      go_ret
      exact ⟨-1, rfl, ⟨fun h => absurd h (by decide), fun h => absurd h HR.out⟩, hB0.trans (hB.mono hB0.size)⟩

set_option maxHeartbeats 2000000 in
theorem containsP_any (A : Option Addr) (xs : List Pr) (c : Nat) (v : Pr) (w : World) (hn : xs.length ≤ 1000) (hA : RowsAt 2 plc w w.heap.size A xs) :
    Calls Tryz.prog 253 #[.slice A xs.length c, .agg #[.int .u8 v.1, .int .i64 v.2]] w fun e w' => e = .returned (.bool (decide (v ∈ xs))) ∧ Below w.heap.size w w' := by
  have hB0 : Below w.heap.size w (w.alloc (.cells #[.int .u8 v.1, .int .i64 v.2] 258)) := (Below.refl _ _).alloc (Nat.le_refl _) _
  have rv := rangeAt_new' w #[.int .u8 v.1, .int .i64 v.2] 258
  have v0 : (w.alloc (.cells #[.int .u8 v.1, .int .i64 v.2] 258)).cell? ⟨w.heap.size, 0, none⟩ = some (.int .u8 v.1) := rv 0 _ rfl
  have v1 : (w.alloc (.cells #[.int .u8 v.1, .int .i64 v.2] 258)).cell? ⟨w.heap.size, 1, none⟩ = some (.int .i64 v.2) := rv 1 _ rfl
  have HI := hide (indexP_any A xs c v _ hn (hA.go hB0))
  clear hA hn rv
  generalize xs.length = n at *
  go_enter Tryz.func253, Tryz.ntmps253
  go_wp2_with fail
  refine HI.out.mono ?_
  rintro e w1 ⟨r, rfl, hr, hb1⟩
  have HR := hide hr
  clear hr v0 v1
  go_wp2
  go_ret
  exact ⟨ret_bool (by have := HR.out; by_cases h : v ∈ xs <;> simp [h] at this ⊢ <;> omega), hB0.trans (hb1.mono hB0.size)⟩
end Go.Proofs.YtngondeaeipcfaaGreatDoor

namespace Go.Proofs.YtngondeaeipcfaaGreatDoor
open Go Go.RowKit

theorem getD_bd {a : List Int} {lo hi : Int} (h : ∀ x ∈ a, lo ≤ x ∧ x ≤ hi) {k : Nat} (hk : k < a.length) : lo ≤ a.getD k 0 ∧ a.getD k 0 ≤ hi := by
  rw [List.getD_eq_getElem?_getD, List.getElem?_eq_getElem hk]; exact h _ (List.getElem_mem hk)
theorem getD_some {a : List Int} {k : Nat} (hk : k < a.length) : a[k]? = some (a.getD k 0) := by
  rw [List.getD_eq_getElem?_getD, List.getElem?_eq_getElem hk]; rfl
theorem byte_cell {X : List UInt8} {k : Nat} (hk : k < X.length) : (Lib.byteCells X)[k]? = some (.int .u8 (byteAt X k)) := by
  unfold Lib.byteCells byteAt
  rw [List.getElem?_map, List.getD_eq_getElem?_getD, List.getElem?_eq_getElem hk]; rfl
/-- The letters of a line at their places. -/
def psL (F : Fc) (L : List UInt8) : List Pr := psT (lettL L) (plL F (wordsL L)) (lettL L).length
/-- Places grow along a word. -/
theorem plc_mono {F : Fc} (hF : F.ok) (h : vface F = true) {L : List UInt8} (hc : allCap L) (j : Nat) : ∀ m, j + m < L.length → wideTo F L j + gapL F L j ≤ wideTo F L (j + m) + gapL F L (j + m)
  | 0, _ => by simp
  | m + 1, hm => by
    have ih := plc_mono hF h hc j m (by omega)
    have h1 := letW_bd hF h hc (i := j + m) (by omega)
    have h2 := gapL_bd h L (j + m + 1)
    have e : wideTo F L (j + m + 1) = wideTo F L (j + m) + letW F L (j + m) + gapL F L (j + m) := rfl
    rw [← Nat.add_assoc, e]
    omega
theorem plc_wide {F : Fc} (hF : F.ok) (h : vface F = true) {L : List UInt8} (hc : allCap L) (j : Nat) (hj : j < L.length) : wideTo F L j + gapL F L j ≤ wideL F L := by
  have h0 := plc_mono hF h hc j (L.length - 1 - j) (by omega)
  have e : j + (L.length - 1 - j) = L.length - 1 := by omega
  rw [e] at h0
  have h1 := letW_bd hF h hc (i := L.length - 1) (by omega)
  have e2 : wideL F L = wideTo F L (L.length - 1) + letW F L (L.length - 1) + gapL F L (L.length - 1) := by
    unfold wideL
    obtain ⟨n, hn⟩ : ∃ n, L.length = n + 1 := ⟨L.length - 1, by omega⟩
    rw [hn]; rfl
  omega
theorem plTo_sorted {F : Fc} (hF : F.ok) (h : vface F = true) {ws : List (List UInt8)} (hw : ∀ x ∈ ws, x.length ≤ 60 ∧ allCap x) : ∀ k, k ≤ ws.length → (plTo F ws k).Pairwise (· ≤ ·) ∧ ∀ x ∈ plTo F ws k, x ≤ preL F ws k
  | 0, _ => by simp [plTo]
  | k + 1, hk => by
    obtain ⟨ih1, ih2⟩ := plTo_sorted hF h hw k (by omega)
    obtain ⟨hl, hc⟩ := hw _ (getD_mem (ws := ws) (k := k) (by omega))
    have hsp := (inB_true.1 (vface_true.1 h).2.sp).1
    have hp : preL F ws (k + 1) = preL F ws k + wideL F (ws.getD k []) + F.sp := rfl
    have hw0 : 0 ≤ wideL F (ws.getD k []) := by
      have := (wideTo_bd hF h hc _ (Nat.le_refl _)).1
      unfold wideL; omega
    rw [plTo]
    refine ⟨List.pairwise_append.2 ⟨ih1, ?_, ?_⟩, ?_⟩
    · unfold plW
      rw [List.pairwise_map]
      refine List.Pairwise.imp_of_mem ?_ (List.pairwise_lt_range (n := (ws.getD k []).length))
      intro a b ha hb hab
      have hb := List.mem_range.1 hb
      have := plc_mono hF h hc a (b - a) (by omega)
      rw [show a + (b - a) = b by omega] at this
      omega
    · intro a ha b hb
      have h1 := ih2 a ha
      unfold plW at hb
      obtain ⟨j, hj, rfl⟩ := List.mem_map.1 hb
      have hj := List.mem_range.1 hj
      have h2 := (wideTo_bd hF h hc j (by omega)).1
      have h3 := gapL_bd h (ws.getD k []) j
      omega
    · intro x hx
      rcases List.mem_append.1 hx with hx | hx
      · have := ih2 x hx; omega
      · unfold plW at hx
        obtain ⟨j, hj, rfl⟩ := List.mem_map.1 hx
        have hj := List.mem_range.1 hj
        have := plc_wide hF h hc j hj
        omega
theorem plL_sorted {F : Fc} (hF : F.ok) (h : vface F = true) {L : List UInt8} (ht : vtext L = true) : (plL F (wordsL L)).Pairwise (· ≤ ·) :=
  (plTo_sorted hF h (fun _ hx => words_mem ht hx) _ (Nat.le_refl _)).1

/-- How many pairs there are with a shift: of the first i rows, and k of the next. -/
def cpt (R : Pr → Pr → Int → Bool) (az bs : List Pr) (i k : Nat) (d : Int) : Nat :=
  ((az.take i).map (fun a => bs.countP (fun b => R a b d))).sum + (bs.take k).countP (fun b => R (az.getD i (0, 0)) b d)
/-- All pairs. -/
def shT (R : Pr → Pr → Int → Bool) (az bs : List Pr) (d : Int) : Nat := (az.map (fun a => bs.countP (fun b => R a b d))).sum
theorem cpt_zero (R : Pr → Pr → Int → Bool) (az bs : List Pr) (d : Int) : cpt R az bs 0 0 d = 0 := by simp [cpt]
theorem cpt_succ {R : Pr → Pr → Int → Bool} {az bs : List Pr} {i k : Nat} {a b : Pr} (ha : az[i]? = some a) (hb : bs[k]? = some b) (d : Int) : cpt R az bs i (k + 1) d = cpt R az bs i k d + if R a b d = true then 1 else 0 := by
  have e : az.getD i (0, 0) = a := by rw [List.getD_eq_getElem?_getD, ha]; rfl
  unfold cpt
  rw [e, List.take_add_one, hb, List.countP_append]
  simp [List.countP_cons, Nat.add_assoc]
theorem cpt_break {R : Pr → Pr → Int → Bool} {az bs : List Pr} {i k : Nat} {a : Pr} (ha : az[i]? = some a) {d : Int} (hno : ∀ b ∈ bs.drop k, R a b d = false) : cpt R az bs (i + 1) 0 d = cpt R az bs i k d := by
  have e : az.getD i (0, 0) = a := by rw [List.getD_eq_getElem?_getD, ha]; rfl
  unfold cpt
  rw [e, List.take_add_one, ha, List.take_zero]
  have h2 : bs.countP (fun b => R a b d) = (bs.take k).countP (fun b => R a b d) := by
    conv => lhs; rw [← List.take_append_drop k bs]
    rw [List.countP_append, List.countP_eq_zero (l := bs.drop k) |>.2 (fun b hb => by rw [hno b hb]; decide), Nat.add_zero]
  simp [h2]
theorem cpt_row {R : Pr → Pr → Int → Bool} {az bs : List Pr} {i : Nat} {a : Pr} (ha : az[i]? = some a) (d : Int) : cpt R az bs (i + 1) 0 d = cpt R az bs i bs.length d :=
  cpt_break ha (by simp)
theorem cpt_end (R : Pr → Pr → Int → Bool) (az bs : List Pr) (d : Int) : cpt R az bs az.length 0 d = shT R az bs d := by simp [cpt, shT]
theorem cpt_le (R : Pr → Pr → Int → Bool) (az bs : List Pr) (ha : az.length ≤ 60) (hb : bs.length ≤ 60) (i k : Nat) (d : Int) : cpt R az bs i k d ≤ 3660 := by
  have h1 : ∀ l : List Pr, (l.map (fun a => bs.countP (fun b => R a b d))).sum ≤ 60 * l.length := by
    intro l
    induction l with
    | nil => simp
    | cons a l ih =>
      have := List.countP_le_length (p := fun b => R a b d) (l := bs)
      simp only [List.map_cons, List.sum_cons, List.length_cons]; omega
  have h2 := h1 (az.take i)
  have h3 : (az.take i).length ≤ 60 := by rw [List.length_take]; omega
  have h4 := List.countP_le_length (p := fun b => R (az.getD i (0, 0)) b d) (l := bs.take k)
  have h5 : (bs.take k).length ≤ 60 := by rw [List.length_take]; omega
  unfold cpt
  omega
theorem shT_nil (R : Pr → Pr → Int → Bool) (az : List Pr) (d : Int) : shT R az [] d = 0 := by
  unfold shT
  induction az with
  | nil => rfl
  | cons a az ih => simp only [List.map_cons, List.sum_cons, ih]; rfl
theorem shT_snocR (R : Pr → Pr → Int → Bool) (bs : List Pr) (b : Pr) (d : Int) : ∀ az, shT R az (b :: bs) d = az.countP (fun a => R a b d) + shT R az bs d
  | [] => rfl
  | a :: az => by
    have ih := shT_snocR R bs b d az
    unfold shT at ih ⊢
    simp only [List.map_cons, List.sum_cons, List.countP_cons] at ih ⊢
    omega
/-- Pairs counted by rows are pairs counted by columns. -/
theorem shT_swap (R : Pr → Pr → Int → Bool) (az : List Pr) (d : Int) : ∀ bs, shT R az bs d = shT (fun b a d => R a b d) bs az d
  | [] => by rw [shT_nil]; rfl
  | b :: bs => by
    rw [shT_snocR, shT_swap R az d bs]
    simp [shT]
/-- A letter of old and one of wanted are kept with a shift. -/
def kpR (x y : Pr) (d : Int) : Bool := x.1 == y.1 && x.2 - y.2 == d
def kpR' (y x : Pr) (d : Int) : Bool := kpR x y d
/-- What is counted. -/
def cntS (xs ys : List Pr) (d : Int) : Int := (shT kpR xs ys d : Nat)
theorem cntS_swap (xs ys : List Pr) (d : Int) : cntS xs ys d = (shT kpR' ys xs d : Nat) := by unfold cntS; rw [shT_swap]; rfl
def bsStep (C : Int → Int) (s : Int × Int) (d : Int) : Int × Int := if s.2 < C d then (d, C d) else s
/-- The best of the shifts up to a size. -/
def bsG (C : Int → Int) : Nat → Int × Int
  | 0 => (0, C 0)
  | n + 1 => bsStep C (bsStep C (bsG C n) ((n : Int) + 1)) (-((n : Int) + 1))
/-- The table of 801 counts. -/
def tbC (C : Int → Nat) : List Value := (List.range 801).map fun (k : Nat) => .int .i64 ((C ((k : Int) - 400) : Nat) : Int)
theorem tbC_len (C : Int → Nat) : (tbC C).length = 801 := by simp [tbC]
theorem tbC_get (C : Int → Nat) {k : Nat} (h : k < 801) : (tbC C)[k]? = some (.int .i64 ((C ((k : Int) - 400) : Nat) : Int)) := by simp [tbC, h]
theorem tbC_same {C D : Int → Nat} (h : ∀ d, -400 ≤ d → d ≤ 400 → C d = D d) : tbC C = tbC D := by
  unfold tbC
  refine List.map_congr_left fun k hk => ?_
  have := List.mem_range.1 hk
  rw [h _ (by omega) (by omega)]
theorem tbC_hit {C D : Int → Nat} {d : Int} (hd : -400 ≤ d ∧ d ≤ 400) (h : ∀ e, D e = C e + if e = d then 1 else 0) {k : Nat} (hk : (k : Int) = d + 400) : tbC D = (tbC C).set k (.int .i64 ((C d : Nat) + 1 : Int)) := by
  refine List.ext_getElem? fun j => ?_
  by_cases hj : j < 801
  · rw [tbC_get D hj, h]
    by_cases e : k = j
    · subst e
      rw [List.getElem?_set_self (by rw [tbC_len]; exact hj)]
      have : (k : Int) - 400 = d := by omega
      rw [this]; simp
    · rw [List.getElem?_set_ne e, tbC_get C hj]
      have : ¬ (j : Int) - 400 = d := by omega
      simp [this]
  · rw [List.getElem?_eq_none (by rw [tbC_len]; omega), List.getElem?_eq_none (by rw [List.length_set, tbC_len]; omega)]
end Go.Proofs.YtngondeaeipcfaaGreatDoor

namespace Go.Proofs.YtngondeaeipcfaaGreatDoor
open Go Go.RowKit

set_option maxRecDepth 100000 in
set_option maxHeartbeats 4000000 in
theorem indicesPl_any (A : Option Addr) (n c : Nat) (w : World) (hn : n ≤ 1048576) :
    Calls Tryz.prog 251 #[.slice A n c] w (IntsB (idxL n) w) := by
  obtain ⟨i0, hi0, hz0, hz1, hz2⟩ := info_parts Tryz.infoI64
  have hmk := fun W => run_make_rowN (P := Tryz.prog) 33 2 i0 _ Tryz.underlying33 hi0 hz0 .i64 .i64 n n (Nat.le_refl _) (by rw [hz2]; omega) (by omega) W
  go_enter Tryz.func251, Tryz.ntmps251
  go_wp2
  go_loopw [10] (fun i wr => ∃ k : Nat, k ≤ n ∧ i = .int .i64 k ∧ Below w.heap.size w wr ∧ w.heap.size < wr.heap.size ∧ wr.there w.heap.size 0 n ∧ (∀ j, j < k → wr.cell? ⟨w.heap.size, j, none⟩ = some (.int .i64 (j : Int))))
    (fun i _ => n - (intOf i).toNat)
  case atStart =>
    exact ⟨0, by omega, rfl, (Below.refl _ _).alloc (Nat.le_refl _) _, by simp, there_newg rfl (by simp [madeCells, hz1]), fun j hj => by omega⟩
  case round =>
    obtain ⟨k, hk, rfl, hB, hsz, ht, hr⟩ := hrel
    by_cases hlt : k < n
    · obtain ⟨v0, hv0, hf0⟩ := there_some ht (j := k) hlt
      simp only [Nat.zero_add] at hv0 hf0
      have hi : (k : Int) < n := by omega
      have h0 : (0 : Int) ≤ k := by omega
      have HR := hide hr
      clear hr hmk
      go_wp2
      refine ⟨⟨k + 1, by omega, by go_num, hB.setCell (p := ⟨w.heap.size, k, none⟩) (Nat.le_refl _) _, by rw [size_setCell]; exact hsz, there_set ht _ _, fun j hj => ?_⟩, by simp [intOf]; omega⟩
      by_cases e : j = k
      · subst e; exact World.cell?_setCell_same' _ _ _ (by rw [hv0]; rfl)
      · rw [World.cell?_setCell_other _ _ _ _ (by intro he; injection he with _ he; exact e he.symm)]
        exact HR.out j (by omega)
    · obtain rfl : k = n := by omega
      have hI : IntsIn wr w.heap.size (some ⟨w.heap.size, 0, none⟩) (idxL k) := fun _ => ⟨w.heap.size, 0, rfl, Nat.le_refl _, hsz, fun j x hx => by
        have hj := (List.getElem?_eq_some_iff.1 hx).1
        rw [idxL_len] at hj
        rw [idxL_get hj] at hx
        injection hx with hx
        rw [Nat.zero_add, ← hx]
        exact hr j hj, by rw [idxL_len]; exact ht⟩
      have HI := hide hI
      have HIL := hide (idxL_len k)
      clear hr ht hI
      go_wp2
      go_ret
      exact ⟨_, k, by rw [HIL.out]; rfl, by rw [HIL.out]; omega, HI.out, hB⟩
set_option maxRecDepth 100000 in
set_option maxHeartbeats 4000000 in
theorem those3_any (f : FuncId) (he : Enters Tryz.prog f) (Q Q2 Q3 : Nat) (p : Int → Bool) (A : Option Addr) (xs : List Int) (c : Nat) (w : World) (hn : xs.length ≤ 1048576) (hA : IntsAt w w.heap.size A xs)
    (hf : ∀ x ∈ xs, ∀ W, Below w.heap.size w W → Calls Tryz.prog f #[.int .i64 x, .pointer (some ⟨Q, 0, none⟩), .pointer (some ⟨Q2, 0, none⟩), .pointer (some ⟨Q3, 0, none⟩)] W fun e w' => e = .returned (.bool (p x)) ∧ Below W.heap.size W w') :
    Calls Tryz.prog 158 #[.slice A xs.length c, .func (.func f) #[] #[.pointer (some ⟨Q, 0, none⟩), .pointer (some ⟨Q2, 0, none⟩), .pointer (some ⟨Q3, 0, none⟩)]] w (IntsB (xs.filter p) w) := by
  obtain ⟨i0, hi0, hz0, hz1, hz2⟩ := info_parts Tryz.infoI64
  have HF := hide hf
  have HX := hide hA
  have HLN : Hid (∀ k, ((xs.take k).filter p).length ≤ k) := hide (fun k => Nat.le_trans (List.length_filter_le _ _) (by simp; omega))
  obtain ⟨n, hL⟩ : ∃ n, xs.length = n := ⟨_, rfl⟩
  have HL := hide hL
  rw [hL] at hn ⊢
  clear hL hf hA
  unfold Enters at he
  go_enter Tryz.func158, Tryz.ntmps158
  go_wp2
  go_loopw [5, 10] (fun br i wr => ∃ k : Nat, k ≤ n ∧ i = .int .i64 k ∧ wr.ownsRow w.heap.size 2 1 br ((xs.take k).filter p).length (((xs.take k).filter p).map (.int .i64)) ∧ Below w.heap.size w wr)
    (fun _ i _ => n - (intOf i).toNat)
  case atStart => exact ⟨0, by omega, rfl, by simp only [List.take_zero, List.filter_nil, List.map_nil, List.length_nil]; exact World.ownsRow_nil _ _ _ _, Below.refl _ _⟩
  case round =>
    obtain ⟨k, hk, rfl, hown, hB⟩ := hrel
    obtain ⟨Ab, cbb, rfl, hcap, _⟩ := cellsIn_of_own hown (by omega)
    have hbs := hB.size
    have HOWN := hide hown
    clear hown
    by_cases hlt : k < n
    · obtain ⟨b, o, rfl, hb, hxs⟩ := HX.out (by intro e; rw [e] at HL; have := HL.out; simp at this; omega)
      obtain ⟨x, hx⟩ : ∃ x, xs[k]? = some x := ⟨xs[k]'(by rw [HL.out]; exact hlt), List.getElem?_eq_getElem _⟩
      have c0 : wr.cell? ⟨b, o + k, none⟩ = some (.int .i64 x) := (hB.cell (p := ⟨b, o + k, none⟩) hb).trans (hxs k x hx)
      have hi : (k : Int) < n := by omega
      have h0 : (0 : Int) ≤ k := by omega
      have hln := HLN.out k
      have HC := hide (HF.out x (List.mem_of_getElem? hx) wr hB)
      have HTK : Hid (xs.take (k + 1) = xs.take k ++ [x]) := hide (by rw [List.take_add_one, hx]; rfl)
      clear hxs hx
      cases hp : p x
      · have HE : Hid ((xs.take (k + 1)).filter p = (xs.take k).filter p) := hide (by rw [HTK.out, List.filter_append]; simp [hp])
        rw [hp] at HC
        go_wp2_with (go_at_fn f; refine HC.out.mono ?_; rintro e w1 ⟨rfl, hb1⟩)
        refine ⟨⟨k + 1, by omega, by go_num, ?_, hB.trans (hb1.mono hbs)⟩, by simp [intOf]; omega⟩
        rw [HE.out]
        exact own_go HOWN.out hb1
      · have HE : Hid ((xs.take (k + 1)).filter p = (xs.take k).filter p ++ [x]) := hide (by rw [HTK.out, List.filter_append]; simp [hp])
        rw [hp] at HC
        go_wp2_with fail
        go_at_fn f
        refine HC.out.mono ?_
        rintro e w1 ⟨rfl, hb1⟩
        have hown3 := own_go HOWN.out hb1
        have hB3 := hB.trans (hb1.mono hbs)
        have hs3 := hB3.size
        clear hb1 HC
        go_wp2_with (at_builtin; refine wpList_append_own _ rfl (.tmp 17) (.tmp 19) 33 rfl w.heap.size 2 i0 (.int .i64 0) 1 8 Tryz.underlying33 hi0 hz0 hz1 hz2 rfl (by decide) _ ((xs.take k).filter p).length _ rfl (hown3.alloc _) ⟨w1.heap.size, 0, none⟩ 1 1 [.int .i64 x] rfl rfl (one_cell _) (one_one rfl) ?h1 ?h2 ?h3 ?_)
        case h1 => unfold maxLen; omega
        case h2 => omega
        case h3 => simp; omega
        intro v' w4 hown4 hg4 _
        obtain ⟨A4, c4, rfl, _, _⟩ := cellsIn_of_own hown4 (by omega)
        have H4 := hide hown4
        have hg34 : w1.grownBy w4 _ := grown_trans (World.grownBy_alloc w1 _ _) hg4
        have hB4 := hB3.trans (grown_toBelow hg34 (by omega) (fun k hk => (hown3.lt k hk).1))
        clear hown4 hg4 hg34 hown3
        go_wp2
        refine ⟨⟨k + 1, by omega, by go_num, ?_, hB4⟩, by simp [intOf]; omega⟩
        rw [HE.out, List.map_append, List.length_append]
        exact H4.out
    · obtain rfl : k = n := by omega
      obtain ⟨Ag, cg, e, _, hI⟩ := intsIn_of_own HOWN.out
      injection e with e1 e2 e3
      subst e1 e3
      have HI := hide hI
      have HTA : Hid (xs.take k = xs) := hide (by rw [← HL.out]; exact List.take_length)
      clear hI
      rw [HTA.out] at HI hcap ⊢
      go_wp2
      go_ret
      exact ⟨Ab, cbb, rfl, hcap, HI.out, hB⟩



set_option maxRecDepth 100000 in
set_option maxHeartbeats 8000000 in
theorem placedIn_any (F : Fc) (hF : F.ok) (A : Option Addr) (c : Nat) (s : ByteArray) (w : World) (hv : vface F = true) (ht : vtext s.data.toList = true) (hG : Glob w) (hA : PairsAt w w.heap.size A F.ps) :
    Calls Tryz.prog 187 #[.agg (fc F (.slice A F.ps.length c)).toArray, .string s] w (PlB (psL F s.data.toList) w) := by
  obtain ⟨i0, hi0, hz0, hz1, hz2⟩ := info_parts Tryz.infoPlaced
  have b0 : Below w.heap.size w (w.alloc (.cells (fc F (.slice A F.ps.length c)).toArray 28)) := (Below.refl _ _).alloc (Nat.le_refl _) _
  have r0 := rangeAt_new w (fc F (.slice A F.ps.length c)) 28
  have s0 : w.heap.size < (w.alloc (.cells (fc F (.slice A F.ps.length c)).toArray 28)).heap.size := by simp
  have HI29 := hide (show (Tryz.prog.info? 28).map (·.size) = some (fc F (.slice A F.ps.length c)).length from by rw [fc_length hF.len]; kernel_rfl)
  have hs60 : s.size ≤ 60 := by have := (vtext_true.1 ht).1; simpa using this
  have HLT := hide (lettersOf_any s _ (by omega) (hG.below b0))
  have hA1 := (hA.below b0).mono b0.size
  have HPL := hide (fun W (h : Below (w.alloc (.cells (fc F (.slice A F.ps.length c)).toArray 28)).heap.size (w.alloc (.cells (fc F (.slice A F.ps.length c)).toArray 28)) W) => placesOf_any F hF A c s W hv ht (hA1.go h (Nat.le_refl _)))
  have hPn := plL_lett F s.data.toList
  have hm60 : (lettL s.data.toList).length ≤ 60 := by have := lettL_len s.data.toList; have e : s.data.toList.length = s.size := by simp
                                                      omega
  unfold psL
  generalize hX : lettL s.data.toList = X at *
  generalize plL F (wordsL s.data.toList) = a at *
  obtain ⟨n, hN⟩ : ∃ n, X.length = n := ⟨_, rfl⟩
  obtain ⟨T, hT⟩ : ∃ T : ByteArray, T = ⟨X.toArray⟩ := ⟨_, rfl⟩
  have hTs : T.size = n := by rw [hT, ← hN]; simp [ByteArray.size]
  have HGET := hide (fun (k : Nat) (h : k < T.size) => show ((T[k].toNat : Nat) : Int) = byteAt X k from by
    subst hT
    have h' : k < X.length := by rw [hN, ← hTs]; exact h
    unfold byteAt
    rw [List.getD_eq_getElem?_getD, List.getElem?_eq_getElem h']; rfl)
  rw [← hT] at HLT
  have hPn2 : a.length = n := hPn.trans hN
  have HPG := hide (fun (k : Nat) (h : k < n) => show a[k]? = some (a.getD k 0) from by
    rw [List.getD_eq_getElem?_getD, List.getElem?_eq_getElem (by omega)]; rfl)
  have HPS := hide (psT_succ X a)
  have HPZ := hide (psT_len X a)
  rw [hN] at hm60 ⊢
  rw [hPn2] at HPL
  generalize hcs : fc F (.slice A F.ps.length c) = fcs at *
  clear hPn hPn2 hN hT hX hcs hv ht hG hA hA1
  have HPB : Hid (PlB (psT X a n) w = fun e w' => ∃ A' c', e = .returned (.slice A' n c') ∧ n ≤ c' ∧ RowsIn 2 plc w' w.heap.size A' (psT X a n) ∧ Below w.heap.size w w') := hide (by unfold PlB; rw [psT_len])
  rw [HPB.out]
  clear HPB
  go_enter Tryz.func187, Tryz.ntmps187
  go_wp2_with fail
  generalize (w.alloc (.cells fcs.toArray 28)) = W0 at *
  refine HLT.out.mono ?_
  rintro e w1 ⟨rfl, hb1⟩
  have r1 := rangeAt_below r0 hb1 s0
  go_wp2_with (refine wpList_load_mid rfl 28 (.tmp 2) rfl _ 0 rfl fcs _ r1 Tryz.underlying28 rfl HI29.out ?_)
  refine (HPL.out _ hb1).mono ?_
  rintro e w2 ⟨A2, c2, rfl, hc2, hI2, hb2⟩
  have hB2 := hb1.trans (hb2.mono hb1.size)
  have hfin := b0.trans (hB2.mono b0.size)
  have HI2 := hide hI2
  clear r0 r1 hb1 hb2 hI2
  go_wp2
  go_loopw [5, 15] (fun br i wr => ∃ k : Nat, k ≤ n ∧ i = .int .i64 k ∧ wr.ownsRow w2.heap.size 258 2 br k ((psT X a k).flatMap plc) ∧ Below w2.heap.size w2 wr)
    (fun _ i _ => n - (intOf i).toNat)
  case atStart => exact ⟨0, by omega, rfl, World.ownsRow_nil _ _ _ _, Below.refl _ _⟩
  case round =>
    obtain ⟨k, hk, rfl, hown, hB⟩ := hrel
    obtain ⟨Ab, cbb, rfl, hcap, _⟩ := cellsIn_of_own hown (by omega)
    have hbs := hB.size
    have HOWN := hide hown
    by_cases hlt : k < n
    · obtain ⟨b, o, rfl, _, hb, hps, _⟩ := HI2.out (by intro e; have := HPG.out k hlt; rw [e] at this; simp at this)
      have c0 : wr.cell? ⟨b, o + k, none⟩ = some (.int .i64 (a.getD k 0)) := (hB.cell (p := ⟨b, o + k, none⟩) hb).trans (hps k _ (HPG.out k hlt))
      have hi : (k : Int) < n := by omega
      have h0 : (0 : Int) ≤ k := by omega
      have HG := hide (HGET.out k (by omega))
      have hit : (k : Int) < T.size := by omega
      have hkt : k < T.size := by omega
      have HE := hide (HPS.out k)
      clear hps hown
      generalize a.getD k 0 = x at *
      go_wp2_with (at_builtin; refine wpList_append_own _ rfl (.tmp 20) (.tmp 26) 187 rfl w2.heap.size 258 i0 (.agg #[.int .u8 0, .int .i64 0]) 2 16 Tryz.underlying187 hi0 hz0 hz1 hz2 rfl (by decide) _ k _ rfl (HOWN.out.alloc _) ⟨wr.heap.size, 0, none⟩ 1 1 [.int .u8 (T[k].toNat : Int), .int .i64 x] rfl rfl (two_cell _ _) (two_one rfl rfl) ?h1 ?h2 ?h3 ?_)
      case h1 => unfold maxLen; omega
      case h2 => omega
      case h3 => simp; omega
      intro v' w6 hown6 hg6 _
      obtain ⟨A6, c6, rfl, _, _⟩ := cellsIn_of_own hown6 (by omega)
      have H6 := hide hown6
      have hg56 : wr.grownBy w6 _ := grown_trans (World.grownBy_alloc wr _ _) hg6
      have hB6 := hB.trans (grown_toBelow hg56 (by omega) (fun k hk => (HOWN.out.lt k hk).1))
      clear hown6 hg6 hg56
      go_wp2
      refine ⟨⟨k + 1, by omega, by go_num, ?_, hB6⟩, by simp [intOf]; omega⟩
      rw [HE.out, List.flatMap_append, ← HG.out]
      exact H6.out
    · obtain rfl : k = n := by omega
      obtain ⟨Ag, cg, e, hcg, hI⟩ := rowsIn_of_own plc_len (by omega) HOWN.out (HPZ.out k).symm
      injection e with e1 e2 e3
      subst e1 e3
      have HI := hide hI
      have hfin2 := hfin.trans (hB.mono hfin.size)
      have hw2 := hfin.size
      clear hI hown
      go_wp2
      go_ret
      exact ⟨Ab, cbb, rfl, hcap, HI.out.wider hw2, hfin2⟩
end Go.Proofs.YtngondeaeipcfaaGreatDoor

namespace Go.Proofs.YtngondeaeipcfaaGreatDoor
open Go Go.RowKit

def kpP (xs ys : List Pr) (sh : Int) (x : Int) : Bool := decide (((ys.getD x.toNat (0, 0)).1, (ys.getD x.toNat (0, 0)).2 + sh) ∈ xs)
theorem kpP_at {xs ys : List Pr} {sh : Int} {k : Nat} {p : Pr} (h : ys[k]? = some p) : kpP xs ys sh (k : Int) = decide ((p.1, p.2 + sh) ∈ xs) := by
  unfold kpP; rw [Int.toNat_natCast, List.getD_eq_getElem?_getD, h]; rfl
def kpL (xs ys : List Pr) (sh : Int) : List Int := (idxL ys.length).filter (kpP xs ys sh)

set_option maxRecDepth 100000 in
set_option maxHeartbeats 4000000 in
theorem kept1_any (Q1 Q2 Q3 : Nat) (A1 : Option Addr) (xs : List Pr) (c1 : Nat) (A2 : Option Addr) (ys : List Pr) (c2 : Nat) (sh : Int) (k : Nat) (p : Pr) (w : World) (hn : xs.length ≤ 60) (hp : ys[k]? = some p) (hb : 0 ≤ p.2 ∧ p.2 ≤ 240000) (hs : -400 ≤ sh ∧ sh ≤ 400)
    (q1 : w.cell? ⟨Q1, 0, none⟩ = some (.slice A1 xs.length c1)) (q2 : w.cell? ⟨Q2, 0, none⟩ = some (.slice A2 ys.length c2)) (q3 : w.cell? ⟨Q3, 0, none⟩ = some (.int .i64 sh))
    (hA : RowsAt 2 plc w w.heap.size A1 xs) (hY : RowsAt 2 plc w w.heap.size A2 ys) :
    Calls Tryz.prog 252 #[.int .i64 (k : Int), .pointer (some ⟨Q1, 0, none⟩), .pointer (some ⟨Q2, 0, none⟩), .pointer (some ⟨Q3, 0, none⟩)] w fun e w' => e = .returned (.bool (decide ((p.1, p.2 + sh) ∈ xs))) ∧ Below w.heap.size w w' := by
  obtain ⟨b, o, rfl, hb2, d0, d1⟩ := hY.two hp
  have HC := hide (fun W (h : Below w.heap.size w W) => containsP_any A1 xs c1 (p.1, p.2 + sh) W (by omega) (hA.go h))
  have hk := (List.getElem?_eq_some_iff.1 hp).1
  obtain ⟨x, y⟩ := p
  obtain ⟨y1, y2⟩ := hb
  obtain ⟨z1, z2⟩ := hs
  simp only at HC d0 d1 y1 y2 ⊢
  have hw1 := IntWalk.i64_in (y + sh) ⟨by omega, by omega⟩
  have e1 := Over.get q1
  have e2 := Over.get q2
  have e3 := Over.get q3
  have f0 := Over.get d0
  have f1 := Over.get d1
  generalize ys.length = m at *
  generalize xs.length = n at *
  generalize decide ((x, y + sh) ∈ xs) = D at *
  have hi : (k : Int) < m := by omega
  have h0 : (0 : Int) ≤ k := by omega
  clear q1 q2 q3 d0 d1 hA hY hp
  go_enter Tryz.func252, Tryz.ntmps252
  go_wp2
  refine wp_region_over (by kernel_rfl) (by kernel_rfl) ?_
  repeat (go_big_quiet_step ((go_at_call 253; exact over_call (HC.out _ (Over.h _)))))
  refine wpQuiet_nil ?_
  intro w3 hb3
  go_wp2
  go_ret
  exact ⟨rfl, hb3⟩

set_option maxRecDepth 100000 in
set_option maxHeartbeats 4000000 in
theorem keptAt_any (A1 : Option Addr) (xs : List Pr) (c1 : Nat) (A2 : Option Addr) (ys : List Pr) (c2 : Nat) (sh : Int) (w : World) (hn : xs.length ≤ 60) (hm : ys.length ≤ 60) (hb : ∀ p ∈ ys, 0 ≤ p.2 ∧ p.2 ≤ 240000) (hs : -400 ≤ sh ∧ sh ≤ 400)
    (hA : RowsAt 2 plc w w.heap.size A1 xs) (hY : RowsAt 2 plc w w.heap.size A2 ys) :
    Calls Tryz.prog 192 #[.slice A1 xs.length c1, .slice A2 ys.length c2, .int .i64 sh] w (IntsB (kpL xs ys sh) w) := by
  obtain ⟨W3, hW3⟩ : ∃ W3, W3 = ((w.alloc (.cells #[.slice A1 xs.length c1] 187)).alloc (.cells #[.slice A2 ys.length c2] 187)).alloc (.cells #[.int .i64 sh] 2) := ⟨_, rfl⟩
  have b0 : Below w.heap.size w W3 := by rw [hW3]; exact (((Below.refl _ _).alloc (Nat.le_refl _) _).alloc (by simp) _).alloc (by simp; omega) _
  have s0 : w.heap.size + 3 = W3.heap.size := by rw [hW3]; simp
  have q1 : W3.cell? ⟨w.heap.size, 0, none⟩ = some (.slice A1 xs.length c1) := by
    rw [hW3]; exact (World.rangeAt_alloc (World.rangeAt_alloc (rangeAt_new' w #[.slice A1 xs.length c1] 187) _) _) 0 _ rfl
  have q2 : W3.cell? ⟨w.heap.size + 1, 0, none⟩ = some (.slice A2 ys.length c2) := by
    rw [hW3]; exact (World.rangeAt_alloc (rangeAt_newg (w := w.alloc (.cells #[.slice A1 xs.length c1] 187)) (cs := #[.slice A2 ys.length c2]) (t := 187) (g := w.heap.size + 1) (l := [.slice A2 ys.length c2]) (by simp) rfl) _) 0 _ rfl
  have q3 : W3.cell? ⟨w.heap.size + 2, 0, none⟩ = some (.int .i64 sh) := by
    rw [hW3]; exact (rangeAt_newg (w := (w.alloc (.cells #[.slice A1 xs.length c1] 187)).alloc (.cells #[.slice A2 ys.length c2] 187)) (cs := #[.int .i64 sh]) (t := 2) (g := w.heap.size + 2) (l := [.int .i64 sh]) (by simp) rfl) 0 _ rfl
  have HK := hide (fun (x : Int) (hx : x ∈ idxL ys.length) W (h : Below W3.heap.size W3 W) => show Calls Tryz.prog 252 #[.int .i64 x, .pointer (some ⟨w.heap.size, 0, none⟩), .pointer (some ⟨w.heap.size + 1, 0, none⟩), .pointer (some ⟨w.heap.size + 2, 0, none⟩)] W (fun e w' => e = .returned (.bool (kpP xs ys sh x)) ∧ Below W.heap.size W w') from by
    obtain ⟨j, hj⟩ := List.getElem?_of_mem hx
    have hjl := (List.getElem?_eq_some_iff.1 hj).1
    rw [idxL_len] at hjl
    rw [idxL_get hjl] at hj
    injection hj with hj
    subst hj
    have hp : ys[j]? = some ys[j] := List.getElem?_eq_getElem hjl
    rw [kpP_at hp]
    exact kept1_any _ _ _ A1 xs c1 A2 ys c2 sh j _ W hn hp (hb _ (List.getElem_mem hjl)) hs
      ((h.cell (p := ⟨w.heap.size, 0, none⟩) (by show w.heap.size < W3.heap.size; omega)).trans q1)
      ((h.cell (p := ⟨w.heap.size + 1, 0, none⟩) (by show w.heap.size + 1 < W3.heap.size; omega)).trans q2)
      ((h.cell (p := ⟨w.heap.size + 2, 0, none⟩) (by show w.heap.size + 2 < W3.heap.size; omega)).trans q3)
      ((hA.go b0).go h) ((hY.go b0).go h))
  have HIX := hide (fun W => indicesPl_any A2 ys.length c2 W (by omega))
  have HTH := hide (fun A c W (hW : Below W3.heap.size W3 W) (hI : IntsAt W W.heap.size A (idxL ys.length)) => those3_any 252 (enters_of Tryz.func252 (by kernel_rfl) rfl) w.heap.size (w.heap.size + 1) (w.heap.size + 2) (kpP xs ys sh) A (idxL ys.length) c W (by rw [idxL_len]; omega) hI (fun x hx W' h => HK.out x hx W' (hW.trans (h.mono hW.size))))
  have HW3 := hide hW3
  have HIL : Hid ((idxL ys.length).length = ys.length) := hide (idxL_len _)
  unfold kpL
  clear hW3 hA hY hb
  generalize ys.length = m at *
  generalize xs.length = n at *
  go_enter Tryz.func192, Tryz.ntmps192
  repeat (first | (rw [← HW3.out]) | go_step)
  refine (HIX.out _).mono ?_
  rintro e w1 ⟨A3, c3, rfl, hc3, hI3, hb1⟩
  rw [HIL.out]
  have HTT := hide (HTH.out A3 c3 w1 hb1 hI3.at_)
  rw [HIL.out] at HTT
  have hB1 := b0.trans (hb1.mono b0.size)
  go_wp2_with fail
  refine HTT.out.mono ?_
  rintro e w2 ⟨A4, c4, rfl, hc4, hI4, hb2⟩
  go_wp2
  go_ret
  exact ⟨A4, c4, rfl, hc4, hI4.wider hB1.size, hB1.trans (hb2.mono hB1.size)⟩
end Go.Proofs.YtngondeaeipcfaaGreatDoor
