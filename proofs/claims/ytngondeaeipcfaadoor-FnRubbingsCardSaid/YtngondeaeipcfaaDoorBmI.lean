/- Moves are compared, and the first of the least is taken, of the program. · The first of the least moves; BestMove of the program. · BestMove of the program. -/
import Derived.Test.YtngondeaeipcfaaDoorBmP
import Derived.Test.YtngondeaeipcfaaDoorGs
import Derived.Test.YtngondeaeipcfaaDoorTk
import Derived.Test.YtngondeaeipcfaaDoorFlat
import Derived.Test.YtngondeaeipcfaaDoorBmS
import Derived.Test.YtngondeaeipcfaaDoorRbC

namespace Go.Proofs.YtngondeaeipcfaaDoor
open Go Go.RowKit

set_option maxHeartbeats 400000 in
theorem isNaNM_any (b : Int) (w : World) :
    Calls Tryd.prog 177 #[.int .i64 b] w fun e w' => e = .returned (.bool false) ∧ w = w' := by
  go_enter Tryd.func177, Tryd.ntmps177
  go_wp2
  all_goals (go_ret; exact ⟨by simp, rfl⟩)
set_option maxHeartbeats 400000 in
theorem compareM_any (a b : Int) (w : World) :
    Calls Tryd.prog 126 #[.int .i64 a, .int .i64 b] w fun e w' => e = .returned (.int .i64 (cmpI a b)) ∧ w = w' := by
  go_enter Tryd.func126, Tryd.ntmps126
  go_wp2_with (go_at_call 177; refine (isNaNM_any _ _).mono ?_; rintro e w' ⟨rfl, rfl⟩)
  all_goals (go_ret; exact ⟨ret_int (by unfold cmpI; (repeat' split) <;> omega), rfl⟩)
/-- The first number that is not 0. -/
def orV : List Int → Int
  | [] => 0
  | x :: r => if x = 0 then orV r else x
theorem orV_drop {es : List Int} {k : Nat} {x : Int} (h : es[k]? = some x) : orV (es.drop k) = if x = 0 then orV (es.drop (k + 1)) else x := by
  have hk := (List.getElem?_eq_some_iff.1 h).1
  rw [List.drop_eq_getElem_cons hk, orV]
  rw [List.getElem?_eq_getElem hk] at h
  injection h with h
  rw [h]
set_option maxRecDepth 100000 in
set_option maxHeartbeats 4000000 in
theorem cmpOrs_any (A : Option Addr) (es : List Int) (c : Nat) (w : World) (hn : es.length ≤ 8) (hA : IntsAt w w.heap.size A es) :
    Calls Tryd.prog 125 #[.slice A es.length c] w fun e w' => e = .returned (.int .i64 (orV es)) ∧ w = w' := by
  have HA := hide hA
  have HDR := hide (fun k x => @orV_drop es k x)
  obtain ⟨n, hN⟩ : ∃ n, es.length = n := ⟨_, rfl⟩
  have HN := hide hN
  have HZ : Hid (orV es = orV (es.drop 0)) := hide (by rw [List.drop_zero])
  have HEND : Hid (orV (es.drop n) = 0) := hide (by rw [← hN, List.drop_length]; rfl)
  rw [hN] at hn ⊢
  rw [HZ.out]
  clear hA hN HZ
  go_enter Tryd.func125, Tryd.ntmps125
  go_wp2
  go_loop [8] (fun i => ∃ k : Nat, k ≤ n ∧ i = .int .i64 k ∧ Hid (orV (es.drop 0) = orV (es.drop k))) (fun i => n - (intOf i).toNat)
  case atStart => exact ⟨0, Nat.zero_le _, rfl, hide rfl⟩
  case round =>
    obtain ⟨k, hk, rfl, HQ⟩ := hrel
    by_cases hlt : k < n
    · obtain ⟨b, o, rfl, hb, hxs⟩ := HA.out (by intro e; rw [e] at HN; have := HN.out; simp at this; omega)
      obtain ⟨x, hxk⟩ : ∃ x, es[k]? = some x := ⟨es[k]'(by rw [HN.out]; exact hlt), List.getElem?_eq_getElem _⟩
      have hc := hxs k x hxk
      have HD := hide (HDR.out k x hxk)
      have hi : (k : Int) < n := by omega
      have h0 : (0 : Int) ≤ k := by omega
      clear hxs hxk
      by_cases hx : x = 0
      · have HQ2 : Hid (orV (es.drop 0) = orV (es.drop (k + 1))) := hide (HQ.out.trans (HD.out.trans (if_pos hx)))
        have hd : (x != 0) = false := by simpa using hx
        clear hx
        go_wp2
        exact ⟨⟨k + 1, by omega, by go_num, HQ2⟩, by simp [intOf]; omega⟩
      · have HQ2 : Hid (orV (es.drop 0) = x) := hide (HQ.out.trans (HD.out.trans (if_neg hx)))
        have hd : (x != 0) = true := by simpa using hx
        clear hx
        go_wp2
        go_ret
        exact ⟨ret_int HQ2.out.symm, rfl⟩
    · obtain rfl : k = n := by omega
      have HQ2 := hide (HQ.out.trans HEND.out)
      go_wp2
      go_ret
      exact ⟨ret_int HQ2.out.symm, rfl⟩

theorem absM_max (x : Int) : absM x = max x (-x) := rfl
set_option maxHeartbeats 1000000 in
theorem sizeOfM_any (d : Int) (w : World) (h : -1000 ≤ d ∧ d ≤ 1000) :
    Calls Tryd.prog 178 #[.int .i64 d] w fun e w' => e = .returned (.int .i64 (absM d)) ∧ w = w' := by
  have hw := IntWalk.i64_in (-d) ⟨by omega, by omega⟩
  have HE := hide (absM_max d)
  go_enter Tryd.func178, Tryd.ntmps178
  go_wp2
  go_ret
  exact ⟨ret_int (by rw [HE.out]), rfl⟩
def szM (p : Mm) : Int := absM p.1 + absM p.2.1
theorem szM_bd {p : Mm} (h : okM p) : 0 ≤ szM p ∧ szM p ≤ 10 := by
  have h1 := absM_bd h.1.1
  have h2 := absM_bd h.1.2
  unfold szM; omega
def cmM (p q : Mm) : Int := orV [cmpI q.2.2 p.2.2, cmpI (szM p) (szM q), cmpI p.2.1 q.2.1, cmpI p.1 q.1]
theorem or_four (a b c d : Int) : orV [a, b, c, d] < 0 ↔ a < 0 ∨ (a = 0 ∧ (b < 0 ∨ (b = 0 ∧ (c < 0 ∨ (c = 0 ∧ d < 0))))) := by
  simp only [orV]
  by_cases h1 : a = 0
  · by_cases h2 : b = 0
    · by_cases h3 : c = 0
      · by_cases h4 : d = 0
        · simp [h1, h2, h3, h4]
        · simp [h1, h2, h3, h4]
      · simp [h1, h2, h3]
    · simp [h1, h2]
  · simp [h1]
theorem cmpI_neg (a b : Int) : cmpI a b < 0 ↔ a < b := by unfold cmpI; (repeat' split) <;> omega
theorem cmpI_zero (a b : Int) : cmpI a b = 0 ↔ a = b := by unfold cmpI; (repeat' split) <;> omega
set_option maxHeartbeats 2000000 in
theorem cmM_key {p q : Mm} (hp : okM p) (hq : okM q) : cmM p q < 0 ↔ kyM p < kyM q := by
  have h1 := szM_bd hp
  have h2 := szM_bd hq
  obtain ⟨⟨⟨a1, a2⟩, a3, a4⟩, a5, a6⟩ := hp
  obtain ⟨⟨⟨b1, b2⟩, b3, b4⟩, b5, b6⟩ := hq
  unfold cmM
  rw [or_four, cmpI_neg, cmpI_neg, cmpI_neg, cmpI_neg, cmpI_zero, cmpI_zero, cmpI_zero]
  unfold kyM rkM
  unfold szM at h1 h2 ⊢
  generalize absM p.1 + absM p.2.1 = sp at *
  generalize absM q.1 + absM q.2.1 = sq at *
  omega
def mmC (p : Mm) : List Value := [.int .i64 p.1, .int .i64 p.2.1, .int .i64 p.2.2]
theorem three_stored {w : World} {g : Nat} {v0 v1 v2 : Value} (h0 : w.cell? ⟨g, 0, none⟩ = some v0) (h1 : w.cell? ⟨g, 1, none⟩ = some v1) (h2 : w.cell? ⟨g, 2, none⟩ = some v2) (x y z : Value) :
    (((w.setCell ⟨g, 0, none⟩ x).setCell ⟨g, 1, none⟩ y).setCell ⟨g, 2, none⟩ z).rangeAt g 0 [x, y, z] := by
  have a01 : (⟨g, 0, none⟩ : Addr) ≠ ⟨g, 1, none⟩ := by intro h; injection h with _ h; omega
  have a02 : (⟨g, 0, none⟩ : Addr) ≠ ⟨g, 2, none⟩ := by intro h; injection h with _ h; omega
  have a12 : (⟨g, 1, none⟩ : Addr) ≠ ⟨g, 2, none⟩ := by intro h; injection h with _ h; omega
  intro j u hu
  match j with
  | 0 =>
    obtain rfl : x = u := by simpa using hu
    simp only [Nat.add_zero]
    rw [World.cell?_setCell_other _ _ _ _ a02.symm, World.cell?_setCell_other _ _ _ _ a01.symm, World.cell?_setCell_same' _ _ _ (by rw [h0]; rfl)]
  | 1 =>
    obtain rfl : y = u := by simpa using hu
    simp only [Nat.zero_add]
    rw [World.cell?_setCell_other _ _ _ _ a12.symm, World.cell?_setCell_same' _ _ _ (by rw [World.cell?_setCell_other _ _ _ _ a01, h1]; rfl)]
  | 2 =>
    obtain rfl : z = u := by simpa using hu
    simp only [Nat.zero_add]
    rw [World.cell?_setCell_same' _ _ _ (by rw [World.cell?_setCell_other _ _ _ _ a12, World.cell?_setCell_other _ _ _ _ a02, h2]; rfl)]
  | j + 3 => simp at hu
theorem rangeAt_pre {w : World} {g : Nat} {a b c : Value} (h : w.rangeAt g 0 [a, b, c]) : w.rangeAt g 0 [a, b] := fun j v hv => by
  match j with
  | 0 => exact h 0 v hv
  | 1 => exact h 1 v hv
  | j + 2 => simp at hv
set_option maxRecDepth 100000 in
set_option maxHeartbeats 4000000 in
theorem sizeM_any (x y : Int) (hx : -5 ≤ x ∧ x ≤ 5) (hy : -5 ≤ y ∧ y ≤ 5) (w : World) :
    Calls Tryd.prog 127 #[.agg #[.int .i64 x, .int .i64 y]] w fun e w' => e = .returned (.int .i64 (absM x + absM y)) ∧ Below w.heap.size w w' := by
  have hB := (Below.refl w.heap.size w).alloc (Nat.le_refl _) (.cells #[.int .i64 x, .int .i64 y] 95)
  have rA := rangeAt_new' w #[.int .i64 x, .int .i64 y] 95
  have d0 : (w.alloc (.cells #[.int .i64 x, .int .i64 y] 95)).cell? ⟨w.heap.size, 0, none⟩ = some (.int .i64 x) := rA 0 _ rfl
  have d1 : (w.alloc (.cells #[.int .i64 x, .int .i64 y] 95)).cell? ⟨w.heap.size, 1, none⟩ = some (.int .i64 y) := rA 1 _ rfl
  have h1 := absM_bd hx
  have h2 := absM_bd hy
  have HX := hide (fun W => sizeOfM_any x W ⟨by omega, by omega⟩)
  have HY := hide (fun W => sizeOfM_any y W ⟨by omega, by omega⟩)
  have hw := IntWalk.i64_in (absM x + absM y) ⟨by omega, by omega⟩
  clear rA hx hy h1 h2
  generalize absM x = ax at *
  generalize absM y = ay at *
  go_enter Tryd.func127, Tryd.ntmps127
  go_wp2
  generalize (w.alloc (.cells #[.int .i64 x, .int .i64 y] 95)) = W at *
  have c0 := Over.get d0
  have c1 := Over.get d1
  clear d0 d1
  refine wp_region_over (by kernel_rfl) (by kernel_rfl) ?_
  repeat (go_big_quiet_step ((first | (go_at_call 178; exact over_same (HX.out _)) | (go_at_call 178; exact over_same (HY.out _)))))
  refine wpQuiet_nil ?_
  intro w1 hb1
  clear c0 c1
  go_wp2
  go_ret
  exact ⟨rfl, hB.trans (hb1.mono hB.size)⟩

set_option maxRecDepth 100000 in
set_option maxHeartbeats 16000000 in
theorem compareMoves_any (a b c a' b' c' : Int) (hp : okM (a, b, c)) (hq : okM (a', b', c')) (w : World) :
    Calls Tryd.prog 59 #[.agg #[.int .i64 a, .int .i64 b, .int .i64 c], .agg #[.int .i64 a', .int .i64 b', .int .i64 c']] w fun e w' => e = .returned (.int .i64 (cmM (a, b, c) (a', b', c'))) ∧ Below w.heap.size w w' := by
  have hb0 : Below w.heap.size w ((w.alloc (.cells #[.int .i64 a, .int .i64 b, .int .i64 c] 99)).alloc (.cells #[.int .i64 a', .int .i64 b', .int .i64 c'] 99)) := ((Below.refl _ _).alloc (Nat.le_refl _) _).alloc (by simp) _
  have s0 : ((w.alloc (.cells #[.int .i64 a, .int .i64 b, .int .i64 c] 99)).alloc (.cells #[.int .i64 a', .int .i64 b', .int .i64 c'] 99)).heap.size = w.heap.size + 1 + 1 := by simp
  have r0 : ((w.alloc (.cells #[.int .i64 a, .int .i64 b, .int .i64 c] 99)).alloc (.cells #[.int .i64 a', .int .i64 b', .int .i64 c'] 99)).rangeAt w.heap.size 0 [.int .i64 a, .int .i64 b, .int .i64 c] := World.rangeAt_alloc (rangeAt_new' w #[.int .i64 a, .int .i64 b, .int .i64 c] 99) _
  have r1 : ((w.alloc (.cells #[.int .i64 a, .int .i64 b, .int .i64 c] 99)).alloc (.cells #[.int .i64 a', .int .i64 b', .int .i64 c'] 99)).rangeAt (w.heap.size + 1) 0 [.int .i64 a', .int .i64 b', .int .i64 c'] := rangeAt_newg (by simp) rfl
  have HZ1 := hide (sizeM_any a b hp.1.1 hp.1.2)
  have HZ2 := hide (sizeM_any a' b' hq.1.1 hq.1.2)
  have HCP := hide compareM_any
  have HV := hide (show cmM (a, b, c) (a', b', c') = orV [cmpI c' c, cmpI (absM a + absM b) (absM a' + absM b'), cmpI b b', cmpI a a'] from rfl)
  clear hp hq
  generalize cmM (a, b, c) (a', b', c') = V at *
  go_enter Tryd.func59, Tryd.ntmps59
  go_wp2
  generalize ((w.alloc (.cells #[.int .i64 a, .int .i64 b, .int .i64 c] 99)).alloc (.cells #[.int .i64 a', .int .i64 b', .int .i64 c'] 99)) = W1 at *
  have HR := hide (fun w' (h : Below W1.heap.size W1 w') => (⟨rangeAt_below r0 h (by omega), rangeAt_below r1 h (by omega)⟩ : w'.rangeAt w.heap.size 0 [.int .i64 a, .int .i64 b, .int .i64 c] ∧ w'.rangeAt (w.heap.size + 1) 0 [.int .i64 a', .int .i64 b', .int .i64 c']))
  clear r0 r1
  refine wp_region_script [(0, true), (1, true), (2, true), (3, true), (5, true), (6, true), (8, true), (9, true), (12, true), (13, true), (14, true), (15, true), (16, true), (17, true), (19, true), (20, true), (21, true), (22, true), (23, true), (24, true), (4, false), (7, false), (10, false), (11, false), (18, false), (25, false), (26, false), (27, false), (28, false)]
    (fun w' => Below W1.heap.size W1 w') (by kernel_rfl) (by kernel_rfl) (of_decide_eq_true (by kernel_rfl)) (by kernel_rfl) (fun _ _ d _ _ h => by cases d <;> exact h) ((Below.refl _ _).drew) ?_
  refine sc_take (.pointer (some ⟨(w.heap.size + 1), 2, none⟩)) rfl (.inl ⟨rfl, fun w _ => by kernel_rfl⟩) ?_
  simp only [List.getElem_toArray, List.getElem_cons_succ, List.getElem_cons_zero, Act.put, List.setIfInBounds_toArray, List.set_cons_zero, List.set_cons_succ]
  refine sc_take (.int .i64 c') rfl (yi_cell rfl rfl rfl (fun _ => by kernel_rfl) (fun w h => (HR.out w h).2 2 _ rfl)) ?_
  simp only [List.getElem_toArray, List.getElem_cons_succ, List.getElem_cons_zero, Act.put, List.setIfInBounds_toArray, List.set_cons_zero, List.set_cons_succ]
  refine sc_take (.pointer (some ⟨(w.heap.size), 2, none⟩)) rfl (.inl ⟨rfl, fun w _ => by kernel_rfl⟩) ?_
  simp only [List.getElem_toArray, List.getElem_cons_succ, List.getElem_cons_zero, Act.put, List.setIfInBounds_toArray, List.set_cons_zero, List.set_cons_succ]
  refine sc_take (.int .i64 c) rfl (yi_cell rfl rfl rfl (fun _ => by kernel_rfl) (fun w h => (HR.out w h).1 2 _ rfl)) ?_
  simp only [List.getElem_toArray, List.getElem_cons_succ, List.getElem_cons_zero, Act.put, List.setIfInBounds_toArray, List.set_cons_zero, List.set_cons_succ]
  refine sc_take (.pointer (some ⟨(w.heap.size), 0, none⟩)) rfl (.inl ⟨rfl, fun w _ => by kernel_rfl⟩) ?_
  simp only [List.getElem_toArray, List.getElem_cons_succ, List.getElem_cons_zero, Act.put, List.setIfInBounds_toArray, List.set_cons_zero, List.set_cons_succ]
  refine sc_take (.agg #[.int .i64 a, .int .i64 b]) rfl (yieldsIf_load_mid (by rfl) _ (.tmp 10) rfl _ 0 rfl [.int .i64 a, .int .i64 b] _ (fun w h => rangeAt_pre (HR.out w h).1) Tryd.underlying95 rfl (by kernel_rfl)) ?_
  simp only [List.getElem_toArray, List.getElem_cons_succ, List.getElem_cons_zero, Act.put, List.setIfInBounds_toArray, List.set_cons_zero, List.set_cons_succ]
  refine sc_take (.pointer (some ⟨(w.heap.size + 1), 0, none⟩)) rfl (.inl ⟨rfl, fun w _ => by kernel_rfl⟩) ?_
  simp only [List.getElem_toArray, List.getElem_cons_succ, List.getElem_cons_zero, Act.put, List.setIfInBounds_toArray, List.set_cons_zero, List.set_cons_succ]
  refine sc_take (.agg #[.int .i64 a', .int .i64 b']) rfl (yieldsIf_load_mid (by rfl) _ (.tmp 13) rfl _ 0 rfl [.int .i64 a', .int .i64 b'] _ (fun w h => rangeAt_pre (HR.out w h).2) Tryd.underlying95 rfl (by kernel_rfl)) ?_
  simp only [List.getElem_toArray, List.getElem_cons_succ, List.getElem_cons_zero, Act.put, List.setIfInBounds_toArray, List.set_cons_zero, List.set_cons_succ]
  refine sc_take (.pointer (some ⟨(w.heap.size), 0, none⟩)) rfl (.inl ⟨rfl, fun w _ => by kernel_rfl⟩) ?_
  simp only [List.getElem_toArray, List.getElem_cons_succ, List.getElem_cons_zero, Act.put, List.setIfInBounds_toArray, List.set_cons_zero, List.set_cons_succ]
  refine sc_take (.pointer (some ⟨(w.heap.size), 1, none⟩)) rfl (.inl ⟨rfl, fun w _ => by kernel_rfl⟩) ?_
  simp only [List.getElem_toArray, List.getElem_cons_succ, List.getElem_cons_zero, Act.put, List.setIfInBounds_toArray, List.set_cons_zero, List.set_cons_succ]
  refine sc_take (.int .i64 b) rfl (yi_cell rfl rfl rfl (fun _ => by kernel_rfl) (fun w h => (HR.out w h).1 1 _ rfl)) ?_
  simp only [List.getElem_toArray, List.getElem_cons_succ, List.getElem_cons_zero, Act.put, List.setIfInBounds_toArray, List.set_cons_zero, List.set_cons_succ]
  refine sc_take (.pointer (some ⟨(w.heap.size + 1), 0, none⟩)) rfl (.inl ⟨rfl, fun w _ => by kernel_rfl⟩) ?_
  simp only [List.getElem_toArray, List.getElem_cons_succ, List.getElem_cons_zero, Act.put, List.setIfInBounds_toArray, List.set_cons_zero, List.set_cons_succ]
  refine sc_take (.pointer (some ⟨(w.heap.size + 1), 1, none⟩)) rfl (.inl ⟨rfl, fun w _ => by kernel_rfl⟩) ?_
  simp only [List.getElem_toArray, List.getElem_cons_succ, List.getElem_cons_zero, Act.put, List.setIfInBounds_toArray, List.set_cons_zero, List.set_cons_succ]
  refine sc_take (.int .i64 b') rfl (yi_cell rfl rfl rfl (fun _ => by kernel_rfl) (fun w h => (HR.out w h).2 1 _ rfl)) ?_
  simp only [List.getElem_toArray, List.getElem_cons_succ, List.getElem_cons_zero, Act.put, List.setIfInBounds_toArray, List.set_cons_zero, List.set_cons_succ]
  refine sc_take (.pointer (some ⟨(w.heap.size), 0, none⟩)) rfl (.inl ⟨rfl, fun w _ => by kernel_rfl⟩) ?_
  simp only [List.getElem_toArray, List.getElem_cons_succ, List.getElem_cons_zero, Act.put, List.setIfInBounds_toArray, List.set_cons_zero, List.set_cons_succ]
  refine sc_take (.pointer (some ⟨(w.heap.size), 0, none⟩)) rfl (.inl ⟨rfl, fun w _ => by kernel_rfl⟩) ?_
  simp only [List.getElem_toArray, List.getElem_cons_succ, List.getElem_cons_zero, Act.put, List.setIfInBounds_toArray, List.set_cons_zero, List.set_cons_succ]
  refine sc_take (.int .i64 a) rfl (yi_cell rfl rfl rfl (fun _ => by kernel_rfl) (fun w h => (HR.out w h).1 0 _ rfl)) ?_
  simp only [List.getElem_toArray, List.getElem_cons_succ, List.getElem_cons_zero, Act.put, List.setIfInBounds_toArray, List.set_cons_zero, List.set_cons_succ]
  refine sc_take (.pointer (some ⟨(w.heap.size + 1), 0, none⟩)) rfl (.inl ⟨rfl, fun w _ => by kernel_rfl⟩) ?_
  simp only [List.getElem_toArray, List.getElem_cons_succ, List.getElem_cons_zero, Act.put, List.setIfInBounds_toArray, List.set_cons_zero, List.set_cons_succ]
  refine sc_take (.pointer (some ⟨(w.heap.size + 1), 0, none⟩)) rfl (.inl ⟨rfl, fun w _ => by kernel_rfl⟩) ?_
  simp only [List.getElem_toArray, List.getElem_cons_succ, List.getElem_cons_zero, Act.put, List.setIfInBounds_toArray, List.set_cons_zero, List.set_cons_succ]
  refine sc_take (.int .i64 a') rfl (yi_cell rfl rfl rfl (fun _ => by kernel_rfl) (fun w h => (HR.out w h).2 0 _ rfl)) ?_
  simp only [List.getElem_toArray, List.getElem_cons_succ, List.getElem_cons_zero, Act.put, List.setIfInBounds_toArray, List.set_cons_zero, List.set_cons_succ]
  have q0 : Below W1.heap.size W1 W1.drew := (Below.refl _ _).drew
  refine sc_step rfl ?_
  go_wp2_with fail
  refine (HCP.out _ _ _).mono ?_
  rintro e w' ⟨rfl, rfl⟩
  go_wp2_with fail
  refine ⟨q0, sc_step rfl ?_⟩
  go_wp2_with fail
  refine (HZ1.out _).mono ?_
  rintro e w2 ⟨rfl, hb2⟩
  have q2 := q0.trans (hb2.mono q0.size)
  clear hb2
  go_wp2_with fail
  refine ⟨q2, sc_step rfl ?_⟩
  go_wp2_with fail
  refine (HZ2.out _).mono ?_
  rintro e w3 ⟨rfl, hb3⟩
  have q3 := q2.trans (hb3.mono q2.size)
  clear hb3
  go_wp2_with fail
  refine ⟨q3, sc_step rfl ?_⟩
  go_wp2_with fail
  refine (HCP.out _ _ _).mono ?_
  rintro e w' ⟨rfl, rfl⟩
  go_wp2_with fail
  refine ⟨q3, sc_step rfl ?_⟩
  go_wp2_with fail
  refine (HCP.out _ _ _).mono ?_
  rintro e w' ⟨rfl, rfl⟩
  go_wp2_with fail
  refine ⟨q3, sc_step rfl ?_⟩
  go_wp2_with fail
  refine (HCP.out _ _ _).mono ?_
  rintro e w' ⟨rfl, rfl⟩
  generalize cmpI c' c = o1 at *
  generalize cmpI (absM a + absM b) (absM a' + absM b') = o2 at *
  generalize cmpI b b' = o3 at *
  generalize cmpI a a' = o4 at *
  have q4 : Below W1.heap.size W1 (w3.alloc (.cells #[.int .i64 o1, .int .i64 o2, .int .i64 o3, .int .i64 o4] 3)) := q3.alloc q3.size _
  have r4 := rangeAt_new' w3 #[.int .i64 o1, .int .i64 o2, .int .i64 o3, .int .i64 o4] 3
  have HOR := hide (cmpOrs_any (some ⟨w3.heap.size, 0, none⟩) [o1, o2, o3, o4] 4 (w3.alloc (.cells #[.int .i64 o1, .int .i64 o2, .int .i64 o3, .int .i64 o4] 3)) (by simp) (fun _ => ⟨w3.heap.size, 0, rfl, by simp, fun k x hx => by
    match k with
    | 0 => obtain rfl : o1 = x := by simpa using hx
           exact r4 0 _ rfl
    | 1 => obtain rfl : o2 = x := by simpa using hx
           exact r4 1 _ rfl
    | 2 => obtain rfl : o3 = x := by simpa using hx
           exact r4 2 _ rfl
    | 3 => obtain rfl : o4 = x := by simpa using hx
           exact r4 3 _ rfl
    | k + 4 => simp at hx⟩))
  rw [← HV.out] at HOR
  clear r4
  go_wp2_with fail
  refine ⟨q3, sc_step rfl ?_⟩
  go_wp2_with fail
  refine ⟨q4, sc_step rfl ?_⟩
  go_wp2_with fail
  refine HOR.out.mono ?_
  rintro e w' ⟨rfl, rfl⟩
  go_wp2_with fail
  refine ⟨q4, sc_step rfl ?_⟩
  go_wp2_with fail
  refine ⟨q4, sc_nil ?_⟩
  go_wp2
  go_ret
  exact ⟨rfl, hb0.trans (q4.mono hb0.size)⟩
end Go.Proofs.YtngondeaeipcfaaDoor

namespace Go.Proofs.YtngondeaeipcfaaDoor
open Go Go.RowKit

def msA (o : Option Mm) : Mm := o.getD (0, 0, 0)
theorem ms_some : ∀ (xs : List Mm), xs ≠ [] → ∃ q, msO xs = some q := fun xs h => by
  rcases msO_best xs with ⟨e, _⟩ | ⟨b, hb, _⟩
  · exact (h e).elim
  · exact ⟨b, hb⟩
theorem ms_ok {xs : List Mm} (h : ∀ p ∈ xs, okM p) {q : Mm} (hq : msO xs = some q) : okM q := by
  rcases msO_best xs with ⟨_, e⟩ | ⟨b, hb, hm, _⟩
  · rw [e] at hq; cases hq
  · rw [hb] at hq; injection hq with hq; subst hq; exact h _ hm
abbrev MmAt := RowsAt 3 mmC
theorem mmC_one (p : Mm) : (mmC p).toArray.all (·.oneCell') = true := all_oneCell_toArray (by simp [mmC, Value.oneCell'])
theorem mmC_info (p : Mm) : (Tryd.prog.info? 99).map (·.size) = some (mmC p).toArray.size := by kernel_rfl
theorem mmC_info' (p : Mm) : (Tryd.prog.info? 99).map (·.size) = some (mmC p).length := by kernel_rfl
theorem stored_mm (w : World) (p : Mm) : ∃ W5, W5 = (w.alloc (.cells #[.int .i64 0, .int .i64 0, .int .i64 0] 99)).setCells w.heap.size 0 (mmC p).toArray.toList ∧ W5.rangeAt w.heap.size 0 (mmC p) ∧
    Below w.heap.size w W5 ∧ w.heap.size < W5.heap.size ∧ (w.alloc (.cells #[.int .i64 0, .int .i64 0, .int .i64 0] 99)).there w.heap.size 0 (mmC p).toArray.size := by
  have t1 : (w.alloc (.cells #[.int .i64 0, .int .i64 0, .int .i64 0] 99)).there w.heap.size 0 3 := there_newg rfl rfl
  refine ⟨_, rfl, ?_, ?_, ?_, t1⟩
  · exact World.rangeAt_setCells_same _ _ _ _ t1
  · exact below_setCells _ _ _ _ ((Below.refl _ _).alloc (Nat.le_refl _) _) (Nat.le_refl _)
  · rw [size_setCells]; simp
theorem compareM (p q : Mm) (hp : okM p) (hq : okM q) (w : World) :
    Calls Tryd.prog 59 #[.agg (mmC p).toArray, .agg (mmC q).toArray] w fun e w' => e = .returned (.int .i64 (cmM p q)) ∧ Below w.heap.size w w' :=
  compareMoves_any p.1 p.2.1 p.2.2 q.1 q.2.1 q.2.2 hp hq w

set_option maxRecDepth 100000 in
set_option maxHeartbeats 8000000 in
theorem leastM_any (A : Option Addr) (xs : List Mm) (c : Nat) (w : World) (hn : xs.length ≤ 1000) (hok : ∀ p ∈ xs, okM p) (hA : MmAt w w.heap.size A xs) :
    Calls Tryd.prog 58 #[.slice A xs.length c, .func (.func 59) #[] #[]] w fun e w' => e = .returned (.agg (mmC (msA (msO xs))).toArray) ∧ Below w.heap.size w w' := by
  have HX := hide hA
  have HTA : Hid (xs.take xs.length = xs) := hide List.take_length
  have HOK := hide hok
  have HMO := hide (fun k q (h : msO (xs.take k) = some q) => ms_ok (fun p hp => hok p (List.mem_of_mem_take hp)) h)
  have HTK0 := hide (fun k p (h : xs[k]? = some p) => msO_take h)
  obtain ⟨n, hL⟩ : ∃ n, xs.length = n := ⟨_, rfl⟩
  have HL := hide hL
  rw [hL] at hn HTA ⊢
  clear hL hA hok
  go_enter Tryd.func58, Tryd.ntmps58
  go_wp2
  go_loopw [10] (fun i wr => ∃ k : Nat, k ≤ n ∧ i = .int .i64 k ∧ Below w.heap.size w wr ∧ wr.there w.heap.size 0 3 ∧ wr.there (w.heap.size + 1) 0 3 ∧ wr.rangeAt (w.heap.size + 1) 0 (mmC (msA (msO (xs.take k)))))
    (fun i _ => n - (intOf i).toNat)
  case atStart =>
    refine ⟨0, by omega, rfl, ((Below.refl _ _).alloc (Nat.le_refl _) _).alloc (by simp) _, World.there_alloc (there_newg rfl rfl) _, there_newg (by simp) rfl, ?_⟩
    exact rangeAt_newg (l := [.int .i64 0, .int .i64 0, .int .i64 0]) (by simp) rfl
  case round =>
    obtain ⟨k, hk, rfl, hB, ht1, ht2, hbest⟩ := hrel
    have hbs := hB.size
    by_cases hlt : k < n
    · obtain ⟨p, hq⟩ : ∃ q, xs[k]? = some q := ⟨xs[k]'(by rw [HL.out]; exact hlt), List.getElem?_eq_getElem _⟩
      obtain ⟨b, o, rfl, hb, hrow⟩ := HX.out (by intro e; rw [e] at hq; simp at hq)
      have hr := rangeAt_below (hrow k _ hq) hB hb
      have hi : (k : Int) < n := by omega
      have h0 : (0 : Int) ≤ k := by omega
      have HTK := hide (HTK0.out k _ hq)
      have HPO := hide (HOK.out _ (List.mem_of_getElem? hq))
      have HLS := hide (fun h => ms_some (xs.take k) h)
      have HTL : Hid (k ≠ 0 → xs.take k ≠ []) := hide (fun hk0 e => by
        have := congrArg List.length e
        rw [List.length_take, HL.out] at this
        simp at this; omega)
      have HMK := hide (HMO.out k)
      have ht2lt : w.heap.size + 1 < wr.heap.size := World.block_lt_of_cell? (a := ⟨w.heap.size + 1, 0, none⟩) _ (hbest 0 _ rfl)
      obtain ⟨W7, hW7, r7, b7, s7, t70⟩ := stored_mm wr p
      have HW7 := hide hW7
      have hB7 := hB.trans (b7.mono hbs)
      have t1 := there_below ht1 b7 (by omega)
      have t2 := there_below ht2 b7 ht2lt
      have hbest7 := rangeAt_below hbest b7 ht2lt
      clear hW7 hrow
      by_cases hk0 : k = 0
      · have hk1 : ((k : Int) == 0) = true := by simp [hk0]
        have HE : Hid (msO (xs.take (k + 1)) = some p) := hide (by rw [HTK.out, hk0]; rfl)
        clear hbest7 hbest hk0
        go_wp2_with (first
          | (refine wpList_load_mid rfl 99 (.tmp 13) rfl b (o + k * 3) rfl (mmC p) _ hr Tryd.underlying99 rfl (mmC_info' p) ?_)
          | (refine wpList_store_mid rfl 99 (.tmp 7) (.tmp 14) rfl wr.heap.size 0 (mmC p).toArray rfl rfl t70 (mmC_info p) (mmC_one p) ?_; rw [← HW7.out])
          | (refine wpList_load_mid rfl 99 (.tmp 7) rfl wr.heap.size 0 rfl (mmC p) _ r7 Tryd.underlying99 rfl (mmC_info' p) ?_)
          | (refine wpList_store_mid rfl 99 (.tmp 5) (.tmp 24) rfl (w.heap.size + 1) 0 (mmC p).toArray rfl rfl t2 (mmC_info p) (mmC_one p) ?_))
        refine ⟨⟨k + 1, by omega, by go_num, below_setCells _ _ _ _ hB7 (by omega), World.there_setCells t1 _ _ _, World.there_setCells t2 _ _ _, ?_⟩, by simp [intOf]; omega⟩
        rw [HE.out]; exact World.rangeAt_setCells_same _ _ _ _ t2
      · have hk1 : ((k : Int) == 0) = false := by simpa using hk0
        obtain ⟨q, hq1⟩ := HLS.out (HTL.out hk0)
        have HQO := hide (HMK.out q hq1)
        rw [hq1] at hbest7 HTK
        change W7.rangeAt (w.heap.size + 1) 0 (mmC q) at hbest7
        have HCM := hide (compareM p q HPO.out HQO.out)
        have HKY := hide (cmM_key HPO.out HQO.out)
        clear hk0 hq1 hbest
        generalize cmM p q = CM at *
        go_wp2_with (first
          | (refine wpList_load_mid rfl 99 (.tmp 13) rfl b (o + k * 3) rfl (mmC p) _ hr Tryd.underlying99 rfl (mmC_info' p) ?_)
          | (refine wpList_store_mid rfl 99 (.tmp 7) (.tmp 14) rfl wr.heap.size 0 (mmC p).toArray rfl rfl t70 (mmC_info p) (mmC_one p) ?_; rw [← HW7.out])
          | (refine wpList_load_mid_g rfl 99 (.tmp 7) rfl wr.heap.size 0 rfl (mmC p) _ r7 Tryd.underlying99 rfl (mmC_info' p) ?_)
          | (refine wpList_load_mid_g rfl 99 (.tmp 5) rfl (w.heap.size + 1) 0 rfl (mmC q) _ hbest7 Tryd.underlying99 rfl (mmC_info' q) ?_))
        refine (HCM.out _).mono ?_
        rintro e w1 ⟨rfl, hb1⟩
        have r1 := rangeAt_below r7 hb1 s7
        have t1 := there_below t1 hb1 (by omega)
        have t2 := there_below t2 hb1 (by omega)
        have hbest1 := rangeAt_below hbest7 hb1 (by omega)
        have hB1 := hB7.trans (hb1.mono hB7.size)
        clear hb1 hbest7 r7
        by_cases hlt2 : CM < 0
        · have HE : Hid (msO (xs.take (k + 1)) = some p) := hide (HTK.out.trans (by show (if kyM p < kyM q then _ else _) = _; rw [if_pos (HKY.out.1 hlt2)]))
          have hd : decide (CM < 0) = true := by simpa using hlt2
          clear hlt2
          go_wp2_with (first
            | (refine wpList_load_mid rfl 99 (.tmp 7) rfl wr.heap.size 0 rfl (mmC p) _ r1 Tryd.underlying99 rfl (mmC_info' p) ?_)
            | (refine wpList_store_mid rfl 99 (.tmp 5) (.tmp 24) rfl (w.heap.size + 1) 0 (mmC p).toArray rfl rfl t2 (mmC_info p) (mmC_one p) ?_))
          refine ⟨⟨k + 1, by omega, by go_num, below_setCells _ _ _ _ hB1 (by omega), World.there_setCells t1 _ _ _, World.there_setCells t2 _ _ _, ?_⟩, by simp [intOf]; omega⟩
          rw [HE.out]; exact World.rangeAt_setCells_same _ _ _ _ t2
        · have HE : Hid (msO (xs.take (k + 1)) = some q) := hide (HTK.out.trans (by show (if kyM p < kyM q then _ else _) = _; rw [if_neg (fun h => hlt2 (HKY.out.2 h))]))
          have hd : decide (CM < 0) = false := by simpa using hlt2
          clear hlt2
          go_wp2
          refine ⟨⟨k + 1, by omega, by go_num, hB1, t1, t2, ?_⟩, by simp [intOf]; omega⟩
          rw [HE.out]; exact hbest1
    · obtain rfl : k = n := by omega
      rw [HTA.out] at hbest
      generalize hV : msA (msO xs) = V at *
      have HVV := hide hV
      clear hV
      go_wp2_with (first
        | (refine wpList_load_mid rfl 99 (.tmp 5) rfl (w.heap.size + 1) 0 rfl (mmC V) _ hbest Tryd.underlying99 rfl (mmC_info' V) ?_)
        | (refine wpList_store_mid rfl 99 (.tmp 4) (.tmp 26) rfl w.heap.size 0 (mmC V).toArray rfl rfl ht1 (mmC_info V) (mmC_one V) ?_))
      exact bodyPost_ret (results_mid rfl _ _ w.heap.size 0 (mmC V) _ rfl (World.rangeAt_setCells_same _ _ _ _ ht1) Tryd.underlying99 rfl (mmC_info' V)) rfl ⟨by rw [HVV.out], below_setCells _ _ _ _ hB (Nat.le_refl _)⟩
end Go.Proofs.YtngondeaeipcfaaDoor

namespace Go.Proofs.YtngondeaeipcfaaDoor
open Go Go.RowKit

theorem Tryd.infoMM : (Tryd.prog.info? 99).map (fun i => (i.zero, i.size, i.bytes)) = some (some (.agg #[.int .i64 0, .int .i64 0, .int .i64 0]), 3, 24) := by kernel_rfl
set_option maxHeartbeats 1000000 in
theorem moverM_any (x y : Int) (w : World) :
    Calls Tryd.prog 57 #[.agg #[.int .i64 x, .int .i64 y]] w fun e w' => e = .returned (.func (.func 123) #[] #[.pointer (some ⟨w.heap.size, 0, none⟩)]) ∧ w' = w.alloc (.cells #[.int .i64 x, .int .i64 y] 95) := by
  go_enter Tryd.func57, Tryd.ntmps57
  go_wp2
  go_ret
  exact ⟨rfl, rfl⟩
theorem mmL_okM (R S : List Nat) (k : Nat) (hk : k ≤ 121) : ∀ p ∈ mmL (bmF R S) k, okM p := fun p hp => by
  unfold mmL at hp
  obtain ⟨q, hq, rfl⟩ := List.mem_map.1 hp
  obtain ⟨j, hj⟩ := List.getElem?_of_mem hq
  have hjk : j < k := by have := (List.getElem?_eq_some_iff.1 hj).1; rwa [mvL_len] at this
  have hj2 : (mvL 5 121)[j]? = some q := by
    rw [mvL_get (show j < 121 by omega)]
    rw [mvL_get hjk] at hj
    exact hj
  exact ⟨mv5_bd hj2, bmF_bd R S _ _⟩

set_option maxRecDepth 100000 in
set_option maxHeartbeats 16000000 in
theorem implBestMove_any (R : List Nat) (hR : rok R) (S : List Nat) (hS : rok S) (w : World) :
    Calls Tryd.prog 12 #[.agg (rwc R).toArray, .agg (rwc S).toArray] w fun e w' => e = .returned (.tuple #[.int .i64 (bmV (bmF R S)).1, .int .i64 (bmV (bmF R S)).2.1, .int .i64 (bmV (bmF R S)).2.2]) ∧ Below w.heap.size w w' := by
  obtain ⟨i0, hi0, hz0, hz1, hz2⟩ := info_parts Tryd.infoMM
  have HIR := hide (rw_info hR.1)
  have HIS := hide (rw_info hS.1)
  have hb0 : Below w.heap.size w ((w.alloc (.cells (rwc R).toArray 26)).alloc (.cells (rwc S).toArray 26)) := ((Below.refl _ _).alloc (Nat.le_refl _) _).alloc (by simp) _
  have s0 : ((w.alloc (.cells (rwc R).toArray 26)).alloc (.cells (rwc S).toArray 26)).heap.size = w.heap.size + 1 + 1 := by simp
  have r0 : ((w.alloc (.cells (rwc R).toArray 26)).alloc (.cells (rwc S).toArray 26)).rangeAt w.heap.size 0 (rwc R) := World.rangeAt_alloc (rangeAt_new _ _ _) _
  have r1 : ((w.alloc (.cells (rwc R).toArray 26)).alloc (.cells (rwc S).toArray 26)).rangeAt (w.heap.size + 1) 0 (rwc S) := rangeAt_newg (by simp) rfl
  have HB0 := hide hb0
  have HM := hide (fun x y (h : inM x y) P W hp => mover1_any S hS P x y h.1 h.2 W hp)
  have HMT := hide (fun x y W => show Calls Tryd.prog 21 #[.agg (rwc R).toArray, .agg (rwc (mvR S x y)).toArray] W (fun e w' => e = .returned (.int .i64 (bmF R S x y)) ∧ Below W.heap.size W w') from implMatchOf_any R hR (mvR S x y) (rubF_ok _) W)
  have HOKM := hide (mmL_okM R S 121 (Nat.le_refl _))
  have HSU := hide (fun (k : Nat) (p : Pr) h => @mmL_succ (bmF R S) k p h)
  have HLN := hide (mmL_len (bmF R S))
  have HVV := hide (show bmV (bmF R S) = msA (msO (mmL (bmF R S) 121)) from rfl)
  clear hb0 hR hS
  go_enter Tryd.func12, Tryd.ntmps12
  go_wp2_with fail
  generalize ((w.alloc (.cells (rwc R).toArray 26)).alloc (.cells (rwc S).toArray 26)) = W0 at *
  generalize hFE : bmF R S = f at *
  have HFE := hide hFE
  clear hFE
  refine (movesWithin_any 5 (by omega) W0).mono ?_
  rintro e w1 ⟨Am, cm, rfl, hIm, hb1⟩
  have HIM := hide hIm.at_
  have hr1 := rangeAt_below r0 hb1 (by omega)
  have hr2 := rangeAt_below r1 hb1 (by omega)
  have hB1 := HB0.out.trans (hb1.mono HB0.out.size)
  have z1 := hb1.size
  have hown0 := World.ownsRow_nil w1 w1.heap.size 99 3
  clear hIm hb1 r0 r1
  go_wp2
  go_loopw [7, 13] (fun br i wr => ∃ k : Nat, k ≤ 121 ∧ i = .int .i64 k ∧ wr.ownsRow w1.heap.size 99 3 br k ((mmL f k).flatMap mmC) ∧ Below w1.heap.size w1 wr)
    (fun _ i _ => 121 - (intOf i).toNat)
  case atStart => exact ⟨0, by omega, rfl, hown0, Below.refl _ _⟩
  case round =>
    obtain ⟨k, hk, rfl, hown, hBw⟩ := hrel
    obtain ⟨Ab, cbb, rfl, hcap, _⟩ := cellsIn_of_own hown (by omega)
    have HOWN := hide hown
    clear hown
    have hbs := hBw.size
    by_cases hlt : k < 121
    · obtain ⟨p, hp⟩ : ∃ p, (mvL 5 121)[k]? = some p := ⟨(mvL 5 121)[k]'(by rw [mvL_len]; exact hlt), List.getElem?_eq_getElem _⟩
      obtain ⟨x, y⟩ := p
      obtain ⟨b, oo, rfl, hb, e0, e1⟩ := P2At.row HIM.out hp
      have c0 : wr.cell? ⟨b, oo + k * 2, none⟩ = some (.int .i64 x) := (hBw.cell (p := ⟨b, oo + k * 2, none⟩) hb).trans e0
      have c1 : wr.cell? ⟨b, oo + k * 2 + 1, none⟩ = some (.int .i64 y) := (hBw.cell (p := ⟨b, oo + k * 2 + 1, none⟩) hb).trans e1
      have HBD := hide (mv5_bd hp)
      have hi : (k : Int) < 121 := by omega
      have h0 : (0 : Int) ≤ k := by omega
      have HRA := hide (rangeAt_new' wr #[.int .i64 x, .int .i64 y] 95)
      have hBA : Below w1.heap.size w1 (wr.alloc (.cells #[.int .i64 x, .int .i64 y] 95)) := hBw.alloc hbs _
      have HE := hide (HSU.out k (x, y) hp)
      have HMM := hide (HM.out x y HBD.out)
      have HMTT := hide (HMT.out x y)
      have HS7 := hide (show (wr.alloc (.cells #[.int .i64 x, .int .i64 y] 95)).heap.size = wr.heap.size + 1 by simp)
      have HRW := hide (fun w' (h : Below w1.heap.size w1 w') => (⟨rangeAt_below hr1 h (by omega), rangeAt_below hr2 h (by omega)⟩ : w'.rangeAt w.heap.size 0 (rwc R) ∧ w'.rangeAt (w.heap.size + 1) 0 (rwc S)))
      have HOWN7 := hide (HOWN.out.alloc (.cells #[.int .i64 x, .int .i64 y] 95))
      clear hp e0 e1 HBD
      generalize mvR S x y = T at *
      generalize hfv : f x y = v at *
      have HFV := hide hfv
      clear hfv
      go_wp2
      generalize (wr.alloc (.cells #[.int .i64 x, .int .i64 y] 95)) = W7 at *
      refine wp_region_script [(0, true), (1, true), (2, true), (3, true), (5, true), (4, false), (6, false), (7, false), (8, false), (9, false), (10, false), (11, false)]
        (fun w' => Below w1.heap.size w1 w' ∧ w'.rangeAt wr.heap.size 0 [.int .i64 x, .int .i64 y]) (by kernel_rfl) (by kernel_rfl) (of_decide_eq_true (by kernel_rfl)) (by kernel_rfl) (fun _ _ d _ _ h => by cases d <;> exact h) (⟨hBA.drew, HRA.out⟩) ?_
      refine sc_take (.slice Ab k cbb) rfl (.inl ⟨rfl, fun w' h => rfl⟩) ?_
      simp only [List.getElem_toArray, List.getElem_cons_succ, List.getElem_cons_zero, Act.put, List.setIfInBounds_toArray, List.set_cons_zero, List.set_cons_succ]
      refine sc_take (.agg #[.int .i64 x, .int .i64 y]) rfl (yieldsIf_load_mid (by rfl) _ (.tmp 9) rfl _ 0 rfl [.int .i64 x, .int .i64 y] _ (fun w h => h.2) Tryd.underlying95 rfl (by kernel_rfl)) ?_
      simp only [List.getElem_toArray, List.getElem_cons_succ, List.getElem_cons_zero, Act.put, List.setIfInBounds_toArray, List.set_cons_zero, List.set_cons_succ]
      refine sc_take (.agg (rwc R).toArray) rfl (yieldsIf_load_mid (by rfl) _ (.tmp 2) rfl _ 0 rfl _ _ (fun w h => (HRW.out w h.1).1) Tryd.underlying26 rfl HIR.out) ?_
      simp only [List.getElem_toArray, List.getElem_cons_succ, List.getElem_cons_zero, Act.put, List.setIfInBounds_toArray, List.set_cons_zero, List.set_cons_succ]
      refine sc_take (.agg #[.int .i64 x, .int .i64 y]) rfl (yieldsIf_load_mid (by rfl) _ (.tmp 9) rfl _ 0 rfl [.int .i64 x, .int .i64 y] _ (fun w h => h.2) Tryd.underlying95 rfl (by kernel_rfl)) ?_
      simp only [List.getElem_toArray, List.getElem_cons_succ, List.getElem_cons_zero, Act.put, List.setIfInBounds_toArray, List.set_cons_zero, List.set_cons_succ]
      refine sc_take (.agg (rwc S).toArray) rfl (yieldsIf_load_mid (by rfl) _ (.tmp 3) rfl _ 0 rfl _ _ (fun w h => (HRW.out w h.1).2) Tryd.underlying26 rfl HIS.out) ?_
      simp only [List.getElem_toArray, List.getElem_cons_succ, List.getElem_cons_zero, Act.put, List.setIfInBounds_toArray, List.set_cons_zero, List.set_cons_succ]
      have hSd : Below W7.heap.size W7 W7.drew := (Below.refl _ _).drew
      refine sc_step rfl ?_
      go_wp2_with fail
      refine (moverM_any _ _ _).mono ?_
      rintro e w2 ⟨rfl, hw2⟩
      have hx2 : Below W7.heap.size W7 w2 := by rw [hw2]; exact hSd.alloc (Nat.le_refl _) _
      have hp2 : w2.rangeAt W7.heap.size 0 [.int .i64 x, .int .i64 y] := by rw [hw2]; exact rangeAt_new' W7.drew #[.int .i64 x, .int .i64 y] 95
      have HCC := hide (HMM.out W7.heap.size w2 hp2)
      have hs2 : Below w1.heap.size w1 w2 ∧ w2.rangeAt wr.heap.size 0 [.int .i64 x, .int .i64 y] := ⟨hBA.trans (hx2.mono hBA.size), rangeAt_below HRA.out hx2 (by have := HS7.out; omega)⟩
      clear hw2 hp2
      go_wp2_with fail
      refine ⟨hs2, sc_step rfl ?_⟩
      go_wp2_with fail
      refine HCC.out.mono ?_
      rintro e w3 ⟨rfl, hb3⟩
      have hx3 := hx2.trans (hb3.mono hx2.size)
      have hs3 : Below w1.heap.size w1 w3 ∧ w3.rangeAt wr.heap.size 0 [.int .i64 x, .int .i64 y] := ⟨hBA.trans (hx3.mono hBA.size), rangeAt_below HRA.out hx3 (by have := HS7.out; omega)⟩
      clear hb3 HCC
      go_wp2_with fail
      refine ⟨hs3, sc_step rfl ?_⟩
      go_wp2_with fail
      refine (HMTT.out _).mono ?_
      rintro e w5 ⟨rfl, hb5⟩
      have hx5 := hx3.trans (hb5.mono hx3.size)
      have hs5 : Below w1.heap.size w1 w5 ∧ w5.rangeAt wr.heap.size 0 [.int .i64 x, .int .i64 y] := ⟨hBA.trans (hx5.mono hBA.size), rangeAt_below HRA.out hx5 (by have := HS7.out; omega)⟩
      clear hb5
      go_wp2_with fail
      refine ⟨hs5, sc_step rfl ?_⟩
      go_wp2_with fail
      refine ⟨hs5, sc_step rfl ?_⟩
      go_wp2_with fail
      have hx4 : Below W7.heap.size W7 (w5.alloc (.cells #[.int .i64 x, .int .i64 y, .int .i64 v] 99)) := hx5.alloc hx5.size _
      have hs4 : Below w1.heap.size w1 (w5.alloc (.cells #[.int .i64 x, .int .i64 y, .int .i64 v] 99)) ∧ (w5.alloc (.cells #[.int .i64 x, .int .i64 y, .int .i64 v] 99)).rangeAt wr.heap.size 0 [.int .i64 x, .int .i64 y] := ⟨hBA.trans (hx4.mono hBA.size), rangeAt_below HRA.out hx4 (by have := HS7.out; omega)⟩
      refine ⟨hs4, sc_step rfl ?_⟩
      have hownd := own_go HOWN7.out hx4
      have hnews : ∀ (j : Nat) (u : Value), ([.int .i64 x, .int .i64 y, .int .i64 v] : List Value)[j]? = some u → (w5.alloc (.cells #[.int .i64 x, .int .i64 y, .int .i64 v] 99)).cell? ((⟨w5.heap.size, 0, none⟩ : Addr).add j) = some u := fun j u hu => by
        have := rangeAt_new' w5 #[.int .i64 x, .int .i64 y, .int .i64 v] 99 j u hu
        rw [addr_add]; exact this
      have hone : ∀ u ∈ ([.int .i64 x, .int .i64 y, .int .i64 v] : List Value), u.oneCell' = true := by
        intro u hu
        simp only [List.mem_cons, List.not_mem_nil, or_false] at hu
        rcases hu with rfl | rfl | rfl <;> rfl
      have hz3 := hx5.size
      have hz7 := HS7.out
      refine wpList_append_own _ rfl (.tmp 17) (.tmp 26) 91 rfl w1.heap.size 99 i0 (.agg #[.int .i64 0, .int .i64 0, .int .i64 0]) 3 24 Tryd.underlying91 hi0 hz0 hz1 hz2 rfl (by decide) _ k _ rfl hownd ⟨w5.heap.size, 0, none⟩ 1 1 [.int .i64 x, .int .i64 y, .int .i64 v] rfl rfl hnews hone ?h1 ?h2 ?h3 ?_
      case h1 => unfold maxLen; omega
      case h2 => omega
      case h3 => exact hs4.1.size
      intro v' w4 hown4 hg4 _
      obtain ⟨A4, c4, rfl, _, _⟩ := cellsIn_of_own hown4 (by omega)
      have H4 := hide hown4
      have hlt9 : wr.heap.size < (w5.alloc (.cells #[.int .i64 x, .int .i64 y, .int .i64 v] 99)).heap.size := by simp; omega
      have hS5 : Below w1.heap.size w1 w4 ∧ w4.rangeAt wr.heap.size 0 [.int .i64 x, .int .i64 y] := ⟨hs4.1.trans (grown_toBelow hg4 hs4.1.size (fun k hk => (hownd.lt k hk).1)), grown_row hg4 hs4.2 hlt9 (fun e => by have := (HOWN.out.lt _ e.symm).2; omega)⟩
      clear hown4 hg4
      go_wp2_with fail
      refine ⟨hS5, sc_step rfl ?_⟩
      go_wp2_with fail
      refine ⟨hS5, sc_nil ?_⟩
      go_wp2
      refine ⟨⟨k + 1, by omega, by go_num, ?_, hS5.1⟩, by simp [intOf]; omega⟩
      rw [HE.out, List.flatMap_append]
      exact H4.out
    · obtain rfl : k = 121 := by omega
      obtain ⟨Ag, cg, ee, _, hI⟩ := rowsIn_of_own (c := mmC) (z := 3) (fun a => rfl) (by omega) HOWN.out (HLN.out 121).symm
      injection ee with ee1 ee2 ee3
      subst ee1 ee3
      have hLS : Calls Tryd.prog 58 #[.slice Ab 121 cbb, .func (.func 59) #[] #[]] wr fun e w' => e = .returned (.agg #[.int .i64 (bmV f).1, .int .i64 (bmV f).2.1, .int .i64 (bmV f).2.2]) ∧ Below wr.heap.size wr w' := by
        have := leastM_any Ab (mmL f 121) cbb wr (by rw [HLN.out]; omega) HOKM.out hI.at_
        rw [HLN.out, ← HVV.out] at this
        exact this
      have HLS := hide hLS
      have hB9 := hB1.trans (hBw.mono hB1.size)
      clear hLS hI hr1 hr2 HM HMT HSU
      generalize hVE : bmV f = V at *
      have HVE := hide hVE
      clear hVE
      obtain ⟨p, q, r⟩ := V
      go_wp2_with fail
      refine HLS.out.mono ?_
      rintro e w2 ⟨rfl, hb2⟩
      have hB2 := hB9.trans (hb2.mono hB9.size)
      have rA := rangeAt_new' w2 #[.int .i64 p, .int .i64 q, .int .i64 r] 99
      have d0 : (w2.alloc (.cells #[.int .i64 p, .int .i64 q, .int .i64 r] 99)).cell? ⟨w2.heap.size, 0, none⟩ = some (.int .i64 p) := rA 0 _ rfl
      have d1 : (w2.alloc (.cells #[.int .i64 p, .int .i64 q, .int .i64 r] 99)).cell? ⟨w2.heap.size, 1, none⟩ = some (.int .i64 q) := rA 1 _ rfl
      have d2 : (w2.alloc (.cells #[.int .i64 p, .int .i64 q, .int .i64 r] 99)).cell? ⟨w2.heap.size, 2, none⟩ = some (.int .i64 r) := rA 2 _ rfl
      have hB3 := hB2.alloc hB2.size (.cells #[.int .i64 p, .int .i64 q, .int .i64 r] 99)
      clear rA hb2
      go_wp2
      generalize (w2.alloc (.cells #[.int .i64 p, .int .i64 q, .int .i64 r] 99)) = W9 at *
      have c0 := Over.get d0
      have c1 := Over.get d1
      have c2 := Over.get d2
      clear d0 d1 d2
      refine wp_region_over (by kernel_rfl) (by kernel_rfl) ?_
      repeat (go_big_quiet_step (fail))
      refine wpQuiet_nil ?_
      intro w3 hb3
      clear c0 c1 c2
      go_wp2
      go_ret3
      exact ⟨rt3_of (by rw [HFE.out, HVE.out]), hB3.trans (hb3.mono hB3.size)⟩
end Go.Proofs.YtngondeaeipcfaaDoor
