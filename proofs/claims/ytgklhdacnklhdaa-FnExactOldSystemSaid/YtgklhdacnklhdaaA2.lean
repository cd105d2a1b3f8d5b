/- Pairs of bytes in memory: their copies, how many they are, whether two lists are equal, marks. -/
import Derived.Test.YtgklhdacnklhdaaSg
namespace Go.Proofs.Ytgklhdacnklhdaa
open Go.RowKit

def a2c (p : Dub) : List Value := [.int .u8 p.1, .int .u8 p.2]
abbrev A2At := RowsAt 2 a2c
abbrev A2In := RowsIn 2 a2c
/-- The one or the other of two numbers. -/
def oneOf (a b : Int) (k : Nat) : Int := if k = 0 then a else b
theorem a2c_at {w : World} {g o : Nat} {a b : Int} (h : w.rangeAt g o (a2c (a, b))) {k : Nat} (hk : k < 2) : w.cell? ⟨g, o + k, none⟩ = some (.int .u8 (oneOf a b k)) := by
  refine h k _ ?_
  match k, hk with
  | 0, _ => rfl
  | 1, _ => rfl

set_option maxHeartbeats 400000 in
theorem szByteA2S_any (A : Option Addr) (n c : Nat) (l : Int) (w : World) (h0 : -1 ≤ l) (h1 : l ≤ 1048576) (hn : n ≤ maxLen) :
    Calls Try.prog 97 #[.slice A n c, .int .i64 l] w fun e w' => e = .returned (.int .i64 (szL l n)) ∧ w = w' := by
  unfold maxLen at hn
  go_enter Try.func97, Try.ntmps97
  go_wp2
  all_goals (go_ret; exact ⟨ret_int (by unfold szL; split <;> omega), rfl⟩)

set_option maxHeartbeats 1000000 in
theorem toByteA2_any (a b : Int) (w : World) :
    Calls Try.prog 155 #[.agg #[.int .u8 a, .int .u8 b]] w fun e w' => e = .returned (.agg #[.int .u8 a, .int .u8 b]) ∧ Below w.heap.size w w' := by
  go_enter Try.func155, Try.ntmps155
  go_wp2
  go_loopw [4] (fun i wr => ∃ k : Nat, k ≤ 2 ∧ i = .int .i64 k ∧ Below w.heap.size w wr ∧ wr.rangeAt w.heap.size 0 (a2c (a, b)) ∧ wr.there (w.heap.size + 1) 0 2 ∧ wr.there (w.heap.size + 1 + 1) 0 2 ∧ (∀ j, j < k → wr.cell? ⟨w.heap.size + 1 + 1, j, none⟩ = some (.int .u8 (oneOf a b j))))
    (fun i _ => 2 - (intOf i).toNat)
  case atStart =>
    refine ⟨0, by omega, rfl, ?_, ?_, ?_, ?_, fun j hj => by omega⟩
    · exact (((Below.refl _ _).alloc (Nat.le_refl _) _).alloc (by simp) _).alloc (by simp only [World.size_alloc]; omega) _
    · exact World.rangeAt_alloc (World.rangeAt_alloc (rangeAt_new _ (a2c (a, b)) _) _) _
    · exact World.there_alloc (there_newg (by simp) rfl) _
    · exact there_newg (by simp) rfl
  case round =>
    obtain ⟨k, hk, rfl, hB, hr, ht1, ht2, hj⟩ := hrel
    by_cases hlt : k < 2
    · have hc := a2c_at hr hlt
      simp only [Nat.zero_add] at hc
      obtain ⟨v, hv, hf⟩ := there_some ht2 hlt
      simp only [Nat.zero_add] at hv hf
      have hi : (k : Int) < 2 := by omega
      have hi0 : (0 : Int) ≤ k := by omega
      go_wp2
      refine ⟨⟨k + 1, by omega, by go_num, hB.setCell (p := ⟨w.heap.size + 1 + 1, k, none⟩) (by show w.heap.size ≤ w.heap.size + 1 + 1; omega) _, ?_, there_set ht1 _ _, there_set ht2 _ _, fun j hj' => ?_⟩, by simp [intOf]; omega⟩
      · exact rangeAt_far hr (by show w.heap.size + 1 + 1 ≠ w.heap.size; omega) _
      · by_cases e : j = k
        · subst e; rw [World.cell?_setCell_same' _ _ _ (by rw [hv]; rfl)]
        · rw [World.cell?_setCell_other _ _ _ _ (by intro h; injection h with _ h; omega)]; exact hj j (by omega)
    · obtain rfl : k = 2 := by omega
      have e0 : wr.cell? ⟨w.heap.size + 1 + 1, 0, none⟩ = some (.int .u8 a) := hj 0 (by omega)
      have e1 : wr.cell? ⟨w.heap.size + 1 + 1, 1, none⟩ = some (.int .u8 b) := hj 1 (by omega)
      obtain ⟨u0, d0, f0⟩ := there_some ht1 (j := 0) (by omega)
      obtain ⟨u1, d1, f1⟩ := there_some ht1 (j := 1) (by omega)
      simp only [Nat.zero_add] at d0 d1 f0 f1
      clear hj
      go_wp2
      exact bodyPost_ret (results_mid rfl _ _ (w.heap.size + 1) 0 (a2c (a, b)) _ rfl (two_stored d0 d1 _ _) Try.underlying144 rfl (by kernel_rfl)) rfl ⟨rfl, (hB.setCell (p := ⟨w.heap.size + 1, 0, none⟩) (by show w.heap.size ≤ w.heap.size + 1; omega) _).setCell (p := ⟨w.heap.size + 1, 1, none⟩) (by show w.heap.size ≤ w.heap.size + 1; omega) _⟩

theorem Try.infoA2 : (Try.prog.info? 144).map (fun i => (i.zero, i.size, i.bytes)) = some (some (.agg #[.int .u8 0, .int .u8 0]), 2, 2) := by kernel_rfl

set_option maxHeartbeats 1000000 in
theorem toByteA2S_any (A : Option Addr) (ps : List Dub) (c : Nat) (w : World) (hA : A2At w w.heap.size A ps) (hn : ps.length ≤ 1048576) :
    Calls Try.prog 100 #[.slice A ps.length c] w fun e w' => ∃ A', e = .returned (.slice A' ps.length ps.length) ∧ A2In w' w.heap.size A' ps ∧ Below w.heap.size w w' := by
  obtain ⟨i0, hi0, hz0, hz1, hz2⟩ := info_parts Try.infoA2
  have hmk := fun W => run_make_rowN (P := Try.prog) 62 144 i0 _ Try.underlying62 hi0 hz0 .i64 .i64 ps.length ps.length (Nat.le_refl _) (by rw [hz2]; omega) (by omega) W
  generalize hL : ps.length = n at *
  have HL := hide hL
  clear hL
  go_enter Try.func100, Try.ntmps100
  go_wp2
  go_loopw [4] (fun i wr => ∃ k : Nat, k ≤ n ∧ i = .int .i64 k ∧ Below w.heap.size w wr ∧ w.heap.size < wr.heap.size ∧ wr.there w.heap.size 0 (n * 2) ∧ (∀ j p, j < k → ps[j]? = some p → wr.rangeAt w.heap.size (j * 2) (a2c p)))
    (fun i _ => n - (intOf i).toNat)
  case atStart =>
    refine ⟨0, by omega, rfl, (Below.refl _ _).alloc (Nat.le_refl _) _, by simp, there_newg rfl (by simp [madeCells]), fun j p hj => by omega⟩
  case round =>
    obtain ⟨k, hk, rfl, hB, hsz, ht, hr⟩ := hrel
    by_cases hlt : k < n
    · obtain ⟨b, o, rfl, hb, hps⟩ := hA (by intro e; rw [e] at HL; have := HL.out; simp at this; omega)
      obtain ⟨p, hp⟩ : ∃ p, ps[k]? = some p := ⟨ps[k]'(by rw [HL.out]; exact hlt), List.getElem?_eq_getElem _⟩
      have hcell := rangeAt_below (hps k p hp) hB hb
      obtain ⟨x, y⟩ := p
      have c0 := hcell 0 _ rfl
      have c1 := hcell 1 _ rfl
      simp only [Nat.add_zero] at c0
      clear hcell hps hmk
      go_wp2_with fail
      refine (toByteA2_any _ _ _).mono ?_
      rintro e w1 ⟨rfl, hb1⟩
      have ht1 := there_below ht hb1 hsz
      obtain ⟨v0, hv0, hf0⟩ := there_some ht1 (j := k * 2) (by omega)
      obtain ⟨v1, hv1, hf1⟩ := there_some ht1 (j := k * 2 + 1) (by omega)
      simp only [Nat.zero_add, ← Nat.add_assoc] at hv0 hv1 hf0 hf1
      have hB1 := hB.trans (hb1.mono hB.size)
      clear c0 c1
      go_wp2
      have hr1 : ∀ (j : Nat) (p : Dub), j < k → ps[j]? = some p → w1.rangeAt w.heap.size (j * 2) (a2c p) := fun j p hj hq => rangeAt_below (hr j p hj hq) hb1 hsz
      refine ⟨⟨k + 1, by omega, by go_num, (hB1.setCell (p := ⟨w.heap.size, k * 2, none⟩) (Nat.le_refl _) _).setCell (p := ⟨w.heap.size, k * 2 + 1, none⟩) (Nat.le_refl _) _, ?_, there_set (there_set ht1 _ _) _ _, ?_⟩, by simp [intOf]; omega⟩
      · have := hb1.size
        simp only [World.setCell, Array.size_modify]
        omega
      · intro j q hj hq
        by_cases e : j = k
        · subst e
          rw [hp] at hq
          injection hq with hq
          subst hq
          exact two_stored hv0 hv1 _ _
        · exact rangeAt_off (rangeAt_off (hr1 j q (by omega) hq) (by right; right; simp [a2c]; omega) _) (by right; right; simp [a2c]; omega) _
    · have hk' : k = n := by omega
      subst hk'
      have hA' : A2In wr w.heap.size (some ⟨w.heap.size, 0, none⟩) ps := fun hne => ⟨w.heap.size, 0, rfl, Nat.le_refl _, hsz, fun j p hp => by
        rw [Nat.zero_add]; exact hr j p (by have := (List.getElem?_eq_some_iff.1 hp).1; rw [HL.out] at this; exact this) hp, by rw [HL.out]; exact ht⟩
      clear hr ht
      go_wp2
      go_ret
      exact ⟨_, rfl, hA', hB⟩

set_option maxHeartbeats 1000000 in
theorem eqByteA2_same (a b : Int) (w : World) :
    Calls Try.prog 159 #[.agg #[.int .u8 a, .int .u8 b], .agg #[.int .u8 a, .int .u8 b]] w fun e w' => e = .returned (.bool true) ∧ Below w.heap.size w w' := by
  have r1 : ((w.alloc (.cells #[.int .u8 a, .int .u8 b] 144)).alloc (.cells #[.int .u8 a, .int .u8 b] 144)).rangeAt w.heap.size 0 (a2c (a, b)) := World.rangeAt_alloc (rangeAt_new w (a2c (a, b)) 144) _
  have r2 : ((w.alloc (.cells #[.int .u8 a, .int .u8 b] 144)).alloc (.cells #[.int .u8 a, .int .u8 b] 144)).rangeAt (w.heap.size + 1) 0 (a2c (a, b)) := rangeAt_newg (by simp) rfl
  have hb : Below w.heap.size w ((w.alloc (.cells #[.int .u8 a, .int .u8 b] 144)).alloc (.cells #[.int .u8 a, .int .u8 b] 144)) := ((Below.refl _ _).alloc (Nat.le_refl _) _).alloc (by simp) _
  go_enter Try.func159, Try.ntmps159
  go_wp2
  generalize ((w.alloc (.cells #[.int .u8 a, .int .u8 b] 144)).alloc (.cells #[.int .u8 a, .int .u8 b] 144)) = W0 at *
  go_loopw [5] (fun i wr => ∃ k n : Nat, k ≤ 2 ∧ i = .int .i64 k ∧ wr = W0.drewN n)
    (fun i _ => 2 - (intOf i).toNat)
  case atStart => exact ⟨0, 0, by omega, rfl, rfl⟩
  case round =>
    obtain ⟨k, n, hk, rfl, rfl⟩ := hrel
    by_cases hlt : k < 2
    · have c1 := a2c_at r1 hlt
      have c2 := a2c_at r2 hlt
      simp only [Nat.zero_add] at c1 c2
      have hi : (k : Int) < 2 := by omega
      have h0 : (0 : Int) ≤ k := by omega
      go_wp2
      go_quiet (fail)
      go_wp2
      exact ⟨⟨k + 1, n + nq, by omega, by go_num, rfl⟩, by simp [intOf]; omega⟩
    · go_wp2
      go_ret
      exact ⟨rfl, hb.trans ⟨rfl, rfl, rfl, Nat.le_refl _, fun _ _ => rfl⟩⟩

set_option maxHeartbeats 1000000 in
theorem eqByteA2S_same (A A' : Option Addr) (ps : List Dub) (c c' : Nat) (w : World) (hn : ps.length ≤ maxLen) (hA : A2At w w.heap.size A ps) (hA' : A2At w w.heap.size A' ps) :
    Calls Try.prog 104 #[.slice A ps.length c, .slice A' ps.length c'] w fun e w' => e = .returned (.bool true) ∧ Below w.heap.size w w' := by
  unfold maxLen at hn
  generalize hL : ps.length = n at *
  have HL := hide hL
  clear hL
  go_enter Try.func104, Try.ntmps104
  go_wp2
  go_loopw [5] (fun i wr => ∃ k : Nat, k ≤ n ∧ i = .int .i64 k ∧ Below w.heap.size w wr)
    (fun i _ => n - (intOf i).toNat)
  case atStart => exact ⟨0, by omega, rfl, Below.refl _ _⟩
  case round =>
    obtain ⟨k, hk, rfl, hB⟩ := hrel
    by_cases hlt : k < n
    · have hne : ps ≠ [] := by intro e; rw [e] at HL; have := HL.out; simp at this; omega
      obtain ⟨b, o, rfl, hb, hps⟩ := hA hne
      obtain ⟨b', o', rfl, hb', hps'⟩ := hA' hne
      obtain ⟨p, hp⟩ : ∃ p, ps[k]? = some p := ⟨ps[k]'(by rw [HL.out]; exact hlt), List.getElem?_eq_getElem _⟩
      have hcell := rangeAt_below (hps k p hp) hB hb
      have hcell' := rangeAt_below (hps' k p hp) hB hb'
      obtain ⟨x, y⟩ := p
      have c0 : ∀ w', Below wr.heap.size wr w' → w'.cell? ⟨b, o + k * 2, none⟩ = some (.int .u8 x) := fun w' h => (rangeAt_below hcell h (Nat.lt_of_lt_of_le hb hB.size)) 0 _ rfl
      have c1 : ∀ w', Below wr.heap.size wr w' → w'.cell? ⟨b, o + k * 2 + 1, none⟩ = some (.int .u8 y) := fun w' h => (rangeAt_below hcell h (Nat.lt_of_lt_of_le hb hB.size)) 1 _ rfl
      have d0 : ∀ w', Below wr.heap.size wr w' → w'.cell? ⟨b', o' + k * 2, none⟩ = some (.int .u8 x) := fun w' h => (rangeAt_below hcell' h (Nat.lt_of_lt_of_le hb' hB.size)) 0 _ rfl
      have d1 : ∀ w', Below wr.heap.size wr w' → w'.cell? ⟨b', o' + k * 2 + 1, none⟩ = some (.int .u8 y) := fun w' h => (rangeAt_below hcell' h (Nat.lt_of_lt_of_le hb' hB.size)) 1 _ rfl
      have hi : (k : Int) < n := by omega
      have h0 : (0 : Int) ≤ k := by omega
      clear hcell hcell' hps hps' hA hA'
      go_wp2
      go_region_held3 (fun w' => Below wr.heap.size wr w') (first | exact (Below.refl _ _).drew | (refine Below.trans (by assumption) (Below.mono (by assumption) ?_); exact Below.size (by assumption))) (first | (go_at_call 159; refine (eqByteA2_same _ _ _).mono ?_; rintro e w1 ⟨rfl, hb1⟩))
      have hB1 : Below w.heap.size w w1 := hB.trans ((by assumption : Below wr.heap.size wr w1).mono hB.size)
      clear c0 c1 d0 d1
      go_wp2
      exact ⟨⟨k + 1, by omega, by go_num, hB1⟩, by simp [intOf]; omega⟩
    · go_wp2
      go_ret
      exact ⟨rfl, hB⟩

/-- The mark of the pair at place j, from number k on. -/
def mkA2 (k : Int) (j : Nat) : Dub := ((k + 2 * j) % 256, (k + 2 * j + 1) % 256)
def marksA2 (k : Int) (n : Nat) : List Dub := (List.range n).map (mkA2 k)
theorem marksA2_len (k : Int) (n : Nat) : (marksA2 k n).length = n := by simp [marksA2]
theorem marksA2_get {k : Int} {n j : Nat} (h : j < n) : (marksA2 k n)[j]? = some (mkA2 k j) := by simp [marksA2, List.getElem?_range h]
theorem mkA2_one (k : Int) (j i : Nat) (hi : i < 2) : oneOf (mkA2 k j).1 (mkA2 k j).2 i = (k + 2 * j + i) % 256 := by
  match i, hi with
  | 0, _ => simp [oneOf, mkA2]
  | 1, _ => simp [oneOf, mkA2]
theorem a2_all {w : World} {g o : Nat} {p : Dub} (h : ∀ k, k < 2 → w.cell? ⟨g, o + k, none⟩ = some (.int .u8 (oneOf p.1 p.2 k))) : w.rangeAt g o (a2c p) := by
  intro j v hv
  match j with
  | 0 => obtain rfl : Value.int .u8 p.1 = v := by simpa [a2c] using hv
         exact h 0 (by omega)
  | 1 => obtain rfl : Value.int .u8 p.2 = v := by simpa [a2c] using hv
         exact h 1 (by omega)
  | j + 2 => simp [a2c] at hv

set_option maxRecDepth 100000 in
set_option maxHeartbeats 4000000 in
theorem markByteA2S_any (A : Option Addr) (ps : List Dub) (c : Nat) (k : Int) (L : Nat) (w : World) (h0 : 0 ≤ k) (h1 : k ≤ 8388608) (hn : ps.length ≤ 2097152) (hP : A2In w L A ps) :
    Calls Try.prog 109 #[.slice A ps.length c, .int .i64 k] w fun e w' => e = .returned (.int .i64 (k + 2 * ps.length)) ∧ w.grownBy w' (blkR A ps) ∧ A2In w' L A (marksA2 k ps.length) := by
  generalize hL : ps.length = n at *
  have HL := hide hL
  clear hL
  by_cases hne : ps = []
  · have hn0 : n = 0 := by rw [← HL.out, hne]; rfl
    subst hn0
    go_enter Try.func109, Try.ntmps109
    go_wp2
    go_loop [1, 5] (fun r i => r = .int .i64 k ∧ i = .int .i64 0) (fun _ _ => 0)
    case atStart => exact ⟨rfl, rfl⟩
    case round =>
      obtain ⟨rfl, rfl⟩ := hrel
      go_wp2
      go_ret
      exact ⟨ret_int (by simp), grown_refl _ _, fun h => (h rfl).elim⟩
  · obtain ⟨b, o, rfl, hLb, hlt, _, ht⟩ := hP hne
    rw [HL.out] at ht
    rw [blkR_some hne]
    go_enter Try.func109, Try.ntmps109
    go_wp2
    go_loopw [1, 5] (fun r i wr => ∃ j : Nat, j ≤ n ∧ i = .int .i64 j ∧ r = .int .i64 (k + 2 * j) ∧ w.grownBy wr (some b) ∧ wr.there b o (n * 2) ∧ (∀ i', i' < j → wr.rangeAt b (o + i' * 2) (a2c (mkA2 k i'))))
      (fun _ i _ => n - (intOf i).toNat)
    case atStart => exact ⟨0, by omega, rfl, by simp, grown_refl _ _, ht, fun i hi => by omega⟩
    case round =>
      obtain ⟨j, hj, rfl, rfl, hg, ht', hr⟩ := hrel
      by_cases hjn : j < n
      · have hi : (j : Int) < n := by omega
        have hi0 : (0 : Int) ≤ j := by omega
        obtain ⟨W1, hW1⟩ : ∃ W1, W1 = wr := ⟨_, rfl⟩
        subst hW1
        go_wp2
        go_loopw [1, 6] (fun r i wr => ∃ m : Nat, m ≤ 2 ∧ i = .int .i64 m ∧ r = .int .i64 (k + 2 * j + m) ∧ w.grownBy wr (some b) ∧ wr.there b o (n * 2) ∧ (∀ i', i' < j → wr.rangeAt b (o + i' * 2) (a2c (mkA2 k i'))) ∧ (∀ m', m' < m → wr.cell? ⟨b, o + j * 2 + m', none⟩ = some (.int .u8 (oneOf (mkA2 k j).1 (mkA2 k j).2 m'))))
          (fun _ i _ => 2 - (intOf i).toNat)
        case atStart => exact ⟨0, by omega, rfl, by simp, hg, ht', hr, fun m' hm' => by omega⟩
        case round =>
          obtain ⟨m, hm, rfl, rfl, hg', ht2, hr', hc⟩ := hrel
          by_cases hmn : m < 2
          · obtain ⟨v0, hv0, hf0⟩ := there_some ht2 (j := j * 2 + m) (by omega)
            simp only [← Nat.add_assoc] at hv0 hf0
            have hm1 : (m : Int) < 2 := by omega
            have hm0 : (0 : Int) ≤ m := by omega
            have HM := hide (mkA2_one k j m hmn)
            clear hg hr
            go_wp2
            refine ⟨⟨m + 1, by omega, by go_num, by congr 1; omega, grown_set hg' _ _, there_set ht2 _ _, fun i' hi' => rangeAt_off (hr' i' hi') (by right; right; simp [a2c]; omega) _, fun m' hm' => ?_⟩, by simp [intOf]; omega⟩
            by_cases e : m' = m
            · subst e; rw [World.cell?_setCell_same' _ _ _ (by rw [hv0]; rfl), HM.out]
            · rw [World.cell?_setCell_other _ _ _ _ (by intro h; injection h with _ h; omega)]; exact hc m' (by omega)
          · obtain rfl : m = 2 := by omega
            go_wp2
            refine ⟨⟨j + 1, by omega, by go_num, by congr 1; omega, hg', ht2, fun i' hi' => ?_⟩, by simp [intOf]; omega⟩
            by_cases e : i' = j
            · subst e; exact a2_all hc
            · exact hr' i' (by omega)
      · obtain rfl : j = n := by omega
        go_wp2
        go_ret
        refine ⟨rfl, hg, fun _ => ⟨b, o, rfl, hLb, Nat.lt_of_lt_of_le hlt hg.size, fun i p hp => ?_, by rw [marksA2_len]; exact ht'⟩⟩
        have hi := (List.getElem?_eq_some_iff.1 hp).1
        rw [marksA2_len] at hi
        rw [marksA2_get hi] at hp
        injection hp with hp
        subst hp
        exact hr i hi

set_option maxRecDepth 100000 in
set_option maxHeartbeats 4000000 in
theorem heldByteA2S_any (A : Option Addr) (n : Nat) (c : Nat) (k : Int) (w : World) (h0 : 0 ≤ k) (h1 : k ≤ 8388608) (hn : n ≤ 2097152) (hP : A2At w w.heap.size A (marksA2 k n)) :
    Calls Try.prog 111 #[.slice A n c, .int .i64 k] w fun e w' => e = .returned (.int .i64 (k + 2 * n)) ∧ w = w' := by
  go_enter Try.func111, Try.ntmps111
  go_wp2
  go_loop [1, 5] (fun r i => ∃ j : Nat, j ≤ n ∧ i = .int .i64 j ∧ r = .int .i64 (k + 2 * j))
    (fun _ i => n - (intOf i).toNat)
  case atStart => exact ⟨0, by omega, rfl, by simp⟩
  case round =>
    obtain ⟨j, hj, rfl, rfl⟩ := hrel
    by_cases hjn : j < n
    · obtain ⟨b, o, rfl, hb, hps⟩ := hP (by intro e; have := congrArg List.length e; rw [marksA2_len] at this; simp at this; omega)
      have hr := hps j _ (marksA2_get hjn)
      have hi : (j : Int) < n := by omega
      have hi0 : (0 : Int) ≤ j := by omega
      clear hps
      go_wp2
      go_loop [1, 6] (fun r i => ∃ m : Nat, m ≤ 2 ∧ i = .int .i64 m ∧ r = .int .i64 (k + 2 * j + m))
        (fun _ i => 2 - (intOf i).toNat)
      case atStart => exact ⟨0, by omega, rfl, by simp⟩
      case round =>
        obtain ⟨m, hm, rfl, rfl⟩ := hrel
        by_cases hmn : m < 2
        · have c0 : w.cell? ⟨b, o + j * 2 + m, none⟩ = some (.int .u8 ((k + 2 * j + m) % 256)) := by have := a2c_at hr hmn; rw [← mkA2_one k j m hmn]; exact this
          have hm1 : (m : Int) < 2 := by omega
          have hm0 : (0 : Int) ≤ m := by omega
          clear hr
          go_wp2
          exact ⟨⟨m + 1, by omega, by go_num, by congr 1; omega⟩, by simp [intOf]; omega⟩
        · obtain rfl : m = 2 := by omega
          clear hr
          go_wp2
          exact ⟨⟨j + 1, by omega, by go_num, by congr 1; omega⟩, by simp [intOf]; omega⟩
    · obtain rfl : j = n := by omega
      go_wp2
      go_ret
      exact ⟨rfl, rfl⟩
end Go.Proofs.Ytgklhdacnklhdaa
