/- Moves are compared, and the first of the least is taken, of the program. -/
import Derived.Test.YtjmkbdghenjlaaaBmP
import Derived.Test.YtjmkbdghenjlaaaGs
import Derived.Test.YtjmkbdghenjlaaaTk
import Derived.Test.YtjmkbdghenjlaaaFlat
namespace Go.Proofs.Ytjmkbdghenjlaaa
open Go Go.RowKit

set_option maxHeartbeats 400000 in
theorem isNaNM_any (b : Int) (w : World) :
    Calls Try.prog 43 #[.int .i64 b] w fun e w' => e = .returned (.bool false) ∧ w = w' := by
  go_enter Try.func43, Try.ntmps43
  go_wp2
  all_goals (go_ret; exact ⟨by simp, rfl⟩)
set_option maxHeartbeats 400000 in
theorem compareM_any (a b : Int) (w : World) :
    Calls Try.prog 35 #[.int .i64 a, .int .i64 b] w fun e w' => e = .returned (.int .i64 (cmpI a b)) ∧ w = w' := by
  go_enter Try.func35, Try.ntmps35
  go_wp2_with (go_at_call 43; refine (isNaNM_any _ _).mono ?_; rintro e w' ⟨rfl, rfl⟩)
  all_goals (go_ret; exact ⟨ret_int (by unfold cmpI; (repeat' split) <;> omega), rfl⟩)
/-- The first number that is not 0. -/
def orV : List Int → Int
  | [] => 0
  | x :: r => if x = 0 then orV r else x
theorem orV_drop {es : List Int} {k : Nat} {x : Int} (h : es[k]? = some x) : orV (es.drop k) = if x = 0 then orV (es.drop (k + 1)) else x := by
  have hk := (List.getElem?_eq_some_iff.1 h).1
  rw [List.drop_eq_getElem_cons hk, orV]
  rw [List.getElem?_eq_getElem hk] at h
  injection h with h
  rw [h]
set_option maxRecDepth 100000 in
set_option maxHeartbeats 4000000 in
theorem cmpOrs_any (A : Option Addr) (es : List Int) (c : Nat) (w : World) (hn : es.length ≤ 8) (hA : IntsAt w w.heap.size A es) :
    Calls Try.prog 34 #[.slice A es.length c] w fun e w' => e = .returned (.int .i64 (orV es)) ∧ w = w' := by
  have HA := hide hA
  have HDR := hide (fun k x => @orV_drop es k x)
  obtain ⟨n, hN⟩ : ∃ n, es.length = n := ⟨_, rfl⟩
  have HN := hide hN
  have HZ : Hid (orV es = orV (es.drop 0)) := hide (by rw [List.drop_zero])
  have HEND : Hid (orV (es.drop n) = 0) := hide (by rw [← hN, List.drop_length]; rfl)
  rw [hN] at hn ⊢
  rw [HZ.out]
  clear hA hN HZ
  go_enter Try.func34, Try.ntmps34
  go_wp2
  go_loop [8] (fun i => ∃ k : Nat, k ≤ n ∧ i = .int .i64 k ∧ Hid (orV (es.drop 0) = orV (es.drop k))) (fun i => n - (intOf i).toNat)
  case atStart => exact ⟨0, Nat.zero_le _, rfl, hide rfl⟩
  case round =>
    obtain ⟨k, hk, rfl, HQ⟩ := hrel
    by_cases hlt : k < n
    · obtain ⟨b, o, rfl, hb, hxs⟩ := HA.out (by intro e; rw [e] at HN; have := HN.out; simp at this; omega)
      obtain ⟨x, hxk⟩ : ∃ x, es[k]? = some x := ⟨es[k]'(by rw [HN.out]; exact hlt), List.getElem?_eq_getElem _⟩
      have hc := hxs k x hxk
      have HD := hide (HDR.out k x hxk)
      have hi : (k : Int) < n := by omega
      have h0 : (0 : Int) ≤ k := by omega
      clear hxs hxk
      by_cases hx : x = 0
      · have HQ2 : Hid (orV (es.drop 0) = orV (es.drop (k + 1))) := hide (HQ.out.trans (HD.out.trans (if_pos hx)))
        have hd : (x != 0) = false := by simpa using hx
        clear hx
        go_wp2
        exact ⟨⟨k + 1, by omega, by go_num, HQ2⟩, by simp [intOf]; omega⟩
      · have HQ2 : Hid (orV (es.drop 0) = x) := hide (HQ.out.trans (HD.out.trans (if_neg hx)))
        have hd : (x != 0) = true := by simpa using hx
        clear hx
        go_wp2
        go_ret
        exact ⟨ret_int HQ2.out.symm, rfl⟩
    · obtain rfl : k = n := by omega
      have HQ2 := hide (HQ.out.trans HEND.out)
      go_wp2
      go_ret
      exact ⟨ret_int HQ2.out.symm, rfl⟩

theorem absM_max (x : Int) : absM x = max x (-x) := rfl
set_option maxHeartbeats 1000000 in
theorem sizeOfM_any (d : Int) (w : World) (h : -1000 ≤ d ∧ d ≤ 1000) :
    Calls Try.prog 44 #[.int .i64 d] w fun e w' => e = .returned (.int .i64 (absM d)) ∧ w = w' := by
  have hw := IntWalk.i64_in (-d) ⟨by omega, by omega⟩
  have HE := hide (absM_max d)
  go_enter Try.func44, Try.ntmps44
  go_wp2
  go_ret
  exact ⟨ret_int (by rw [HE.out]), rfl⟩
def szM (p : Mm) : Int := absM p.1 + absM p.2.1
theorem szM_bd {p : Mm} (h : okM p) : 0 ≤ szM p ∧ szM p ≤ 10 := by
  have h1 := absM_bd h.1.1
  have h2 := absM_bd h.1.2
  unfold szM; omega
def cmM (p q : Mm) : Int := orV [cmpI q.2.2 p.2.2, cmpI (szM p) (szM q), cmpI p.2.1 q.2.1, cmpI p.1 q.1]
theorem or_four (a b c d : Int) : orV [a, b, c, d] < 0 ↔ a < 0 ∨ (a = 0 ∧ (b < 0 ∨ (b = 0 ∧ (c < 0 ∨ (c = 0 ∧ d < 0))))) := by
  simp only [orV]
  by_cases h1 : a = 0
  · by_cases h2 : b = 0
    · by_cases h3 : c = 0
      · by_cases h4 : d = 0
        · simp [h1, h2, h3, h4]
        · simp [h1, h2, h3, h4]
      · simp [h1, h2, h3]
    · simp [h1, h2]
  · simp [h1]
theorem cmpI_neg (a b : Int) : cmpI a b < 0 ↔ a < b := by unfold cmpI; (repeat' split) <;> omega
theorem cmpI_zero (a b : Int) : cmpI a b = 0 ↔ a = b := by unfold cmpI; (repeat' split) <;> omega
set_option maxHeartbeats 2000000 in
theorem cmM_key {p q : Mm} (hp : okM p) (hq : okM q) : cmM p q < 0 ↔ kyM p < kyM q := by
  have h1 := szM_bd hp
  have h2 := szM_bd hq
  obtain ⟨⟨⟨a1, a2⟩, a3, a4⟩, a5, a6⟩ := hp
  obtain ⟨⟨⟨b1, b2⟩, b3, b4⟩, b5, b6⟩ := hq
  unfold cmM
  rw [or_four, cmpI_neg, cmpI_neg, cmpI_neg, cmpI_neg, cmpI_zero, cmpI_zero, cmpI_zero]
  unfold kyM rkM
  unfold szM at h1 h2 ⊢
  generalize absM p.1 + absM p.2.1 = sp at *
  generalize absM q.1 + absM q.2.1 = sq at *
  omega
def mmC (p : Mm) : List Value := [.int .i64 p.1, .int .i64 p.2.1, .int .i64 p.2.2]
theorem three_stored {w : World} {g : Nat} {v0 v1 v2 : Value} (h0 : w.cell? ⟨g, 0, none⟩ = some v0) (h1 : w.cell? ⟨g, 1, none⟩ = some v1) (h2 : w.cell? ⟨g, 2, none⟩ = some v2) (x y z : Value) :
    (((w.setCell ⟨g, 0, none⟩ x).setCell ⟨g, 1, none⟩ y).setCell ⟨g, 2, none⟩ z).rangeAt g 0 [x, y, z] := by
  have a01 : (⟨g, 0, none⟩ : Addr) ≠ ⟨g, 1, none⟩ := by intro h; injection h with _ h; omega
  have a02 : (⟨g, 0, none⟩ : Addr) ≠ ⟨g, 2, none⟩ := by intro h; injection h with _ h; omega
  have a12 : (⟨g, 1, none⟩ : Addr) ≠ ⟨g, 2, none⟩ := by intro h; injection h with _ h; omega
  intro j u hu
  match j with
  | 0 =>
    obtain rfl : x = u := by simpa using hu
    simp only [Nat.add_zero]
    rw [World.cell?_setCell_other _ _ _ _ a02.symm, World.cell?_setCell_other _ _ _ _ a01.symm, World.cell?_setCell_same' _ _ _ (by rw [h0]; rfl)]
  | 1 =>
    obtain rfl : y = u := by simpa using hu
    simp only [Nat.zero_add]
    rw [World.cell?_setCell_other _ _ _ _ a12.symm, World.cell?_setCell_same' _ _ _ (by rw [World.cell?_setCell_other _ _ _ _ a01, h1]; rfl)]
  | 2 =>
    obtain rfl : z = u := by simpa using hu
    simp only [Nat.zero_add]
    rw [World.cell?_setCell_same' _ _ _ (by rw [World.cell?_setCell_other _ _ _ _ a12, World.cell?_setCell_other _ _ _ _ a02, h2]; rfl)]
  | j + 3 => simp at hu
theorem rangeAt_pre {w : World} {g : Nat} {a b c : Value} (h : w.rangeAt g 0 [a, b, c]) : w.rangeAt g 0 [a, b] := fun j v hv => by
  match j with
  | 0 => exact h 0 v hv
  | 1 => exact h 1 v hv
  | j + 2 => simp at hv
set_option maxRecDepth 100000 in
set_option maxHeartbeats 4000000 in
theorem sizeM_any (x y : Int) (hx : -5 ≤ x ∧ x ≤ 5) (hy : -5 ≤ y ∧ y ≤ 5) (w : World) :
    Calls Try.prog 36 #[.agg #[.int .i64 x, .int .i64 y]] w fun e w' => e = .returned (.int .i64 (absM x + absM y)) ∧ Below w.heap.size w w' := by
  have hB := (Below.refl w.heap.size w).alloc (Nat.le_refl _) (.cells #[.int .i64 x, .int .i64 y] 42)
  have rA := rangeAt_new' w #[.int .i64 x, .int .i64 y] 42
  have d0 : (w.alloc (.cells #[.int .i64 x, .int .i64 y] 42)).cell? ⟨w.heap.size, 0, none⟩ = some (.int .i64 x) := rA 0 _ rfl
  have d1 : (w.alloc (.cells #[.int .i64 x, .int .i64 y] 42)).cell? ⟨w.heap.size, 1, none⟩ = some (.int .i64 y) := rA 1 _ rfl
  have h1 := absM_bd hx
  have h2 := absM_bd hy
  have HX := hide (fun W => sizeOfM_any x W ⟨by omega, by omega⟩)
  have HY := hide (fun W => sizeOfM_any y W ⟨by omega, by omega⟩)
  have hw := IntWalk.i64_in (absM x + absM y) ⟨by omega, by omega⟩
  clear rA hx hy h1 h2
  generalize absM x = ax at *
  generalize absM y = ay at *
  go_enter Try.func36, Try.ntmps36
  go_wp2
  generalize (w.alloc (.cells #[.int .i64 x, .int .i64 y] 42)) = W at *
  have c0 := Over.get d0
  have c1 := Over.get d1
  clear d0 d1
  refine wp_region_over (by kernel_rfl) (by kernel_rfl) ?_
  repeat (go_big_quiet_step ((first | (go_at_call 44; exact over_same (HX.out _)) | (go_at_call 44; exact over_same (HY.out _)))))
  refine wpQuiet_nil ?_
  intro w1 hb1
  clear c0 c1
  go_wp2
  go_ret
  exact ⟨rfl, hB.trans (hb1.mono hB.size)⟩

set_option maxRecDepth 100000 in
set_option maxHeartbeats 16000000 in
theorem compareMoves_any (a b c a' b' c' : Int) (hp : okM (a, b, c)) (hq : okM (a', b', c')) (w : World) :
    Calls Try.prog 20 #[.agg #[.int .i64 a, .int .i64 b, .int .i64 c], .agg #[.int .i64 a', .int .i64 b', .int .i64 c']] w fun e w' => e = .returned (.int .i64 (cmM (a, b, c) (a', b', c'))) ∧ Below w.heap.size w w' := by
  have hb0 : Below w.heap.size w ((w.alloc (.cells #[.int .i64 a, .int .i64 b, .int .i64 c] 48)).alloc (.cells #[.int .i64 a', .int .i64 b', .int .i64 c'] 48)) := ((Below.refl _ _).alloc (Nat.le_refl _) _).alloc (by simp) _
  have s0 : ((w.alloc (.cells #[.int .i64 a, .int .i64 b, .int .i64 c] 48)).alloc (.cells #[.int .i64 a', .int .i64 b', .int .i64 c'] 48)).heap.size = w.heap.size + 1 + 1 := by simp
  have r0 : ((w.alloc (.cells #[.int .i64 a, .int .i64 b, .int .i64 c] 48)).alloc (.cells #[.int .i64 a', .int .i64 b', .int .i64 c'] 48)).rangeAt w.heap.size 0 [.int .i64 a, .int .i64 b, .int .i64 c] := World.rangeAt_alloc (rangeAt_new' w #[.int .i64 a, .int .i64 b, .int .i64 c] 48) _
  have r1 : ((w.alloc (.cells #[.int .i64 a, .int .i64 b, .int .i64 c] 48)).alloc (.cells #[.int .i64 a', .int .i64 b', .int .i64 c'] 48)).rangeAt (w.heap.size + 1) 0 [.int .i64 a', .int .i64 b', .int .i64 c'] := rangeAt_newg (by simp) rfl
  have HZ1 := hide (sizeM_any a b hp.1.1 hp.1.2)
  have HZ2 := hide (sizeM_any a' b' hq.1.1 hq.1.2)
  have HCP := hide compareM_any
  have HV := hide (show cmM (a, b, c) (a', b', c') = orV [cmpI c' c, cmpI (absM a + absM b) (absM a' + absM b'), cmpI b b', cmpI a a'] from rfl)
  clear hp hq
  generalize cmM (a, b, c) (a', b', c') = V at *
  go_enter Try.func20, Try.ntmps20
  go_wp2
  generalize ((w.alloc (.cells #[.int .i64 a, .int .i64 b, .int .i64 c] 48)).alloc (.cells #[.int .i64 a', .int .i64 b', .int .i64 c'] 48)) = W1 at *
  have HR := hide (fun w' (h : Below W1.heap.size W1 w') => (⟨rangeAt_below r0 h (by omega), rangeAt_below r1 h (by omega)⟩ : w'.rangeAt w.heap.size 0 [.int .i64 a, .int .i64 b, .int .i64 c] ∧ w'.rangeAt (w.heap.size + 1) 0 [.int .i64 a', .int .i64 b', .int .i64 c']))
  clear r0 r1
  refine wp_region_script [(0, true), (1, true), (2, true), (3, true), (5, true), (6, true), (8, true), (9, true), (12, true), (13, true), (14, true), (15, true), (16, true), (17, true), (19, true), (20, true), (21, true), (22, true), (23, true), (24, true), (4, false), (7, false), (10, false), (11, false), (18, false), (25, false), (26, false), (27, false), (28, false)]
    (fun w' => Below W1.heap.size W1 w') (by kernel_rfl) (by kernel_rfl) (of_decide_eq_true (by kernel_rfl)) (by kernel_rfl) (fun _ _ d _ _ h => by cases d <;> exact h) ((Below.refl _ _).drew) ?_
  refine sc_take (.pointer (some ⟨(w.heap.size + 1), 2, none⟩)) rfl (.inl ⟨rfl, fun w _ => by kernel_rfl⟩) ?_
  simp only [List.getElem_toArray, List.getElem_cons_succ, List.getElem_cons_zero, Act.put, List.setIfInBounds_toArray, List.set_cons_zero, List.set_cons_succ]
  refine sc_take (.int .i64 c') rfl (yi_cell rfl rfl rfl (fun _ => by kernel_rfl) (fun w h => (HR.out w h).2 2 _ rfl)) ?_
  simp only [List.getElem_toArray, List.getElem_cons_succ, List.getElem_cons_zero, Act.put, List.setIfInBounds_toArray, List.set_cons_zero, List.set_cons_succ]
  refine sc_take (.pointer (some ⟨(w.heap.size), 2, none⟩)) rfl (.inl ⟨rfl, fun w _ => by kernel_rfl⟩) ?_
  simp only [List.getElem_toArray, List.getElem_cons_succ, List.getElem_cons_zero, Act.put, List.setIfInBounds_toArray, List.set_cons_zero, List.set_cons_succ]
  refine sc_take (.int .i64 c) rfl (yi_cell rfl rfl rfl (fun _ => by kernel_rfl) (fun w h => (HR.out w h).1 2 _ rfl)) ?_
  simp only [List.getElem_toArray, List.getElem_cons_succ, List.getElem_cons_zero, Act.put, List.setIfInBounds_toArray, List.set_cons_zero, List.set_cons_succ]
  refine sc_take (.pointer (some ⟨(w.heap.size), 0, none⟩)) rfl (.inl ⟨rfl, fun w _ => by kernel_rfl⟩) ?_
  simp only [List.getElem_toArray, List.getElem_cons_succ, List.getElem_cons_zero, Act.put, List.setIfInBounds_toArray, List.set_cons_zero, List.set_cons_succ]
  refine sc_take (.agg #[.int .i64 a, .int .i64 b]) rfl (yieldsIf_load_mid (by rfl) _ (.tmp 10) rfl _ 0 rfl [.int .i64 a, .int .i64 b] _ (fun w h => rangeAt_pre (HR.out w h).1) Try.underlying42 rfl (by kernel_rfl)) ?_
  simp only [List.getElem_toArray, List.getElem_cons_succ, List.getElem_cons_zero, Act.put, List.setIfInBounds_toArray, List.set_cons_zero, List.set_cons_succ]
  refine sc_take (.pointer (some ⟨(w.heap.size + 1), 0, none⟩)) rfl (.inl ⟨rfl, fun w _ => by kernel_rfl⟩) ?_
  simp only [List.getElem_toArray, List.getElem_cons_succ, List.getElem_cons_zero, Act.put, List.setIfInBounds_toArray, List.set_cons_zero, List.set_cons_succ]
  refine sc_take (.agg #[.int .i64 a', .int .i64 b']) rfl (yieldsIf_load_mid (by rfl) _ (.tmp 13) rfl _ 0 rfl [.int .i64 a', .int .i64 b'] _ (fun w h => rangeAt_pre (HR.out w h).2) Try.underlying42 rfl (by kernel_rfl)) ?_
  simp only [List.getElem_toArray, List.getElem_cons_succ, List.getElem_cons_zero, Act.put, List.setIfInBounds_toArray, List.set_cons_zero, List.set_cons_succ]
  refine sc_take (.pointer (some ⟨(w.heap.size), 0, none⟩)) rfl (.inl ⟨rfl, fun w _ => by kernel_rfl⟩) ?_
  simp only [List.getElem_toArray, List.getElem_cons_succ, List.getElem_cons_zero, Act.put, List.setIfInBounds_toArray, List.set_cons_zero, List.set_cons_succ]
  refine sc_take (.pointer (some ⟨(w.heap.size), 1, none⟩)) rfl (.inl ⟨rfl, fun w _ => by kernel_rfl⟩) ?_
  simp only [List.getElem_toArray, List.getElem_cons_succ, List.getElem_cons_zero, Act.put, List.setIfInBounds_toArray, List.set_cons_zero, List.set_cons_succ]
  refine sc_take (.int .i64 b) rfl (yi_cell rfl rfl rfl (fun _ => by kernel_rfl) (fun w h => (HR.out w h).1 1 _ rfl)) ?_
  simp only [List.getElem_toArray, List.getElem_cons_succ, List.getElem_cons_zero, Act.put, List.setIfInBounds_toArray, List.set_cons_zero, List.set_cons_succ]
  refine sc_take (.pointer (some ⟨(w.heap.size + 1), 0, none⟩)) rfl (.inl ⟨rfl, fun w _ => by kernel_rfl⟩) ?_
  simp only [List.getElem_toArray, List.getElem_cons_succ, List.getElem_cons_zero, Act.put, List.setIfInBounds_toArray, List.set_cons_zero, List.set_cons_succ]
  refine sc_take (.pointer (some ⟨(w.heap.size + 1), 1, none⟩)) rfl (.inl ⟨rfl, fun w _ => by kernel_rfl⟩) ?_
  simp only [List.getElem_toArray, List.getElem_cons_succ, List.getElem_cons_zero, Act.put, List.setIfInBounds_toArray, List.set_cons_zero, List.set_cons_succ]
  refine sc_take (.int .i64 b') rfl (yi_cell rfl rfl rfl (fun _ => by kernel_rfl) (fun w h => (HR.out w h).2 1 _ rfl)) ?_
  simp only [List.getElem_toArray, List.getElem_cons_succ, List.getElem_cons_zero, Act.put, List.setIfInBounds_toArray, List.set_cons_zero, List.set_cons_succ]
  refine sc_take (.pointer (some ⟨(w.heap.size), 0, none⟩)) rfl (.inl ⟨rfl, fun w _ => by kernel_rfl⟩) ?_
  simp only [List.getElem_toArray, List.getElem_cons_succ, List.getElem_cons_zero, Act.put, List.setIfInBounds_toArray, List.set_cons_zero, List.set_cons_succ]
  refine sc_take (.pointer (some ⟨(w.heap.size), 0, none⟩)) rfl (.inl ⟨rfl, fun w _ => by kernel_rfl⟩) ?_
  simp only [List.getElem_toArray, List.getElem_cons_succ, List.getElem_cons_zero, Act.put, List.setIfInBounds_toArray, List.set_cons_zero, List.set_cons_succ]
  refine sc_take (.int .i64 a) rfl (yi_cell rfl rfl rfl (fun _ => by kernel_rfl) (fun w h => (HR.out w h).1 0 _ rfl)) ?_
  simp only [List.getElem_toArray, List.getElem_cons_succ, List.getElem_cons_zero, Act.put, List.setIfInBounds_toArray, List.set_cons_zero, List.set_cons_succ]
  refine sc_take (.pointer (some ⟨(w.heap.size + 1), 0, none⟩)) rfl (.inl ⟨rfl, fun w _ => by kernel_rfl⟩) ?_
  simp only [List.getElem_toArray, List.getElem_cons_succ, List.getElem_cons_zero, Act.put, List.setIfInBounds_toArray, List.set_cons_zero, List.set_cons_succ]
  refine sc_take (.pointer (some ⟨(w.heap.size + 1), 0, none⟩)) rfl (.inl ⟨rfl, fun w _ => by kernel_rfl⟩) ?_
  simp only [List.getElem_toArray, List.getElem_cons_succ, List.getElem_cons_zero, Act.put, List.setIfInBounds_toArray, List.set_cons_zero, List.set_cons_succ]
  refine sc_take (.int .i64 a') rfl (yi_cell rfl rfl rfl (fun _ => by kernel_rfl) (fun w h => (HR.out w h).2 0 _ rfl)) ?_
  simp only [List.getElem_toArray, List.getElem_cons_succ, List.getElem_cons_zero, Act.put, List.setIfInBounds_toArray, List.set_cons_zero, List.set_cons_succ]
  have q0 : Below W1.heap.size W1 W1.drew := (Below.refl _ _).drew
  refine sc_step rfl ?_
  go_wp2_with fail
  refine (HCP.out _ _ _).mono ?_
  rintro e w' ⟨rfl, rfl⟩
  go_wp2_with fail
  refine ⟨q0, sc_step rfl ?_⟩
  go_wp2_with fail
  refine (HZ1.out _).mono ?_
  rintro e w2 ⟨rfl, hb2⟩
  have q2 := q0.trans (hb2.mono q0.size)
  clear hb2
  go_wp2_with fail
  refine ⟨q2, sc_step rfl ?_⟩
  go_wp2_with fail
  refine (HZ2.out _).mono ?_
  rintro e w3 ⟨rfl, hb3⟩
  have q3 := q2.trans (hb3.mono q2.size)
  clear hb3
  go_wp2_with fail
  refine ⟨q3, sc_step rfl ?_⟩
  go_wp2_with fail
  refine (HCP.out _ _ _).mono ?_
  rintro e w' ⟨rfl, rfl⟩
  go_wp2_with fail
  refine ⟨q3, sc_step rfl ?_⟩
  go_wp2_with fail
  refine (HCP.out _ _ _).mono ?_
  rintro e w' ⟨rfl, rfl⟩
  go_wp2_with fail
  refine ⟨q3, sc_step rfl ?_⟩
  go_wp2_with fail
  refine (HCP.out _ _ _).mono ?_
  rintro e w' ⟨rfl, rfl⟩
  generalize cmpI c' c = o1 at *
  generalize cmpI (absM a + absM b) (absM a' + absM b') = o2 at *
  generalize cmpI b b' = o3 at *
  generalize cmpI a a' = o4 at *
  have q4 : Below W1.heap.size W1 (w3.alloc (.cells #[.int .i64 o1, .int .i64 o2, .int .i64 o3, .int .i64 o4] 3)) := q3.alloc q3.size _
  have r4 := rangeAt_new' w3 #[.int .i64 o1, .int .i64 o2, .int .i64 o3, .int .i64 o4] 3
  have HOR := hide (cmpOrs_any (some ⟨w3.heap.size, 0, none⟩) [o1, o2, o3, o4] 4 (w3.alloc (.cells #[.int .i64 o1, .int .i64 o2, .int .i64 o3, .int .i64 o4] 3)) (by simp) (fun _ => ⟨w3.heap.size, 0, rfl, by simp, fun k x hx => by
    match k with
    | 0 => obtain rfl : o1 = x := by simpa using hx
           exact r4 0 _ rfl
    | 1 => obtain rfl : o2 = x := by simpa using hx
           exact r4 1 _ rfl
    | 2 => obtain rfl : o3 = x := by simpa using hx
           exact r4 2 _ rfl
    | 3 => obtain rfl : o4 = x := by simpa using hx
           exact r4 3 _ rfl
    | k + 4 => simp at hx⟩))
  rw [← HV.out] at HOR
  clear r4
  go_wp2_with fail
  refine ⟨q3, sc_step rfl ?_⟩
  go_wp2_with fail
  refine ⟨q4, sc_step rfl ?_⟩
  go_wp2_with fail
  refine HOR.out.mono ?_
  rintro e w' ⟨rfl, rfl⟩
  go_wp2_with fail
  refine ⟨q4, sc_step rfl ?_⟩
  go_wp2_with fail
  refine ⟨q4, sc_nil ?_⟩
  go_wp2
  go_ret
  exact ⟨rfl, hb0.trans (q4.mono hb0.size)⟩
end Go.Proofs.Ytjmkbdghenjlaaa
