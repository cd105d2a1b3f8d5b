/- Signs in memory: their copies, how many they are, whether two lists are equal, marks. -/
import Derived.Test.YtgklhdacnklhdaaLay
namespace Go.Proofs.Ytgklhdacnklhdaa
open Go.RowKit


def sgc (p : Dub) : List Value := [.int .u8 p.1, .int .i16 p.2]
abbrev SgAt := RowsAt 2 sgc
abbrev SgIn := RowsIn 2 sgc

set_option maxHeartbeats 400000 in
theorem szSignS_any (A : Option Addr) (n c : Nat) (l : Int) (w : World) (h0 : -1 ≤ l) (h1 : l ≤ 1048576) (hn : n ≤ maxLen) :
    Calls Try.prog 96 #[.slice A n c, .int .i64 l] w fun e w' => e = .returned (.int .i64 (szL l n)) ∧ w = w' := by
  unfold maxLen at hn
  go_enter Try.func96, Try.ntmps96
  go_wp2
  all_goals (go_ret; exact ⟨ret_int (by unfold szL; split <;> omega), rfl⟩)

set_option maxHeartbeats 1000000 in
theorem toSign_any (a b : Int) (w : World) :
    Calls Try.prog 154 #[.agg #[.int .u8 a, .int .i16 b]] w fun e w' => e = .returned (.agg #[.int .u8 a, .int .i16 b]) ∧ Below w.heap.size w w' := by
  go_enter Try.func154, Try.ntmps154
  go_wp2
  exact bodyPost_ret (v := .agg #[.int .u8 a, .int .i16 b]) (by simp [results, Try.results154, go_sem]) rfl ⟨rfl, (((Below.refl _ _).alloc (Nat.le_refl _) _).alloc (by simp) _).alloc (by simp only [World.size_alloc]; omega) _⟩

theorem Try.infoSign : (Try.prog.info? 143).map (fun i => (i.zero, i.size, i.bytes)) = some (some (.agg #[.int .u8 0, .int .i16 0]), 2, 4) := by kernel_rfl

set_option maxHeartbeats 1000000 in
theorem toSignS_any (A : Option Addr) (ps : List Dub) (c : Nat) (w : World) (hA : SgAt w w.heap.size A ps) (hn : ps.length ≤ 1048576) :
    Calls Try.prog 99 #[.slice A ps.length c] w fun e w' => ∃ A', e = .returned (.slice A' ps.length ps.length) ∧ SgIn w' w.heap.size A' ps ∧ Below w.heap.size w w' := by
  obtain ⟨i0, hi0, hz0, hz1, hz2⟩ := info_parts Try.infoSign
  have hmk := fun W => run_make_rowN (P := Try.prog) 67 143 i0 _ Try.underlying67 hi0 hz0 .i64 .i64 ps.length ps.length (Nat.le_refl _) (by rw [hz2]; omega) (by omega) W
  generalize hL : ps.length = n at *
  have HL := hide hL
  clear hL
  go_enter Try.func99, Try.ntmps99
  go_wp2
  go_loopw [4] (fun i wr => ∃ k : Nat, k ≤ n ∧ i = .int .i64 k ∧ Below w.heap.size w wr ∧ w.heap.size < wr.heap.size ∧ wr.there w.heap.size 0 (n * 2) ∧ (∀ j p, j < k → ps[j]? = some p → wr.rangeAt w.heap.size (j * 2) (sgc p)))
    (fun i _ => n - (intOf i).toNat)
  case atStart =>
    refine ⟨0, by omega, rfl, (Below.refl _ _).alloc (Nat.le_refl _) _, by simp, there_newg rfl (by simp [madeCells]), fun j p hj => by omega⟩
  case round =>
    obtain ⟨k, hk, rfl, hB, hsz, ht, hr⟩ := hrel
    by_cases hlt : k < n
    · obtain ⟨b, o, rfl, hb, hps⟩ := hA (by intro e; rw [e] at HL; have := HL.out; simp at this; omega)
      obtain ⟨p, hp⟩ : ∃ p, ps[k]? = some p := ⟨ps[k]'(by rw [HL.out]; exact hlt), List.getElem?_eq_getElem _⟩
      have hcell := rangeAt_below (hps k p hp) hB hb
      obtain ⟨x, y⟩ := p
      have c0 := hcell 0 _ rfl
      have c1 := hcell 1 _ rfl
      simp only [Nat.add_zero] at c0
      clear hcell hps hmk
      go_wp2_with fail
      refine (toSign_any _ _ _).mono ?_
      rintro e w1 ⟨rfl, hb1⟩
      have ht1 := there_below ht hb1 hsz
      obtain ⟨v0, hv0, hf0⟩ := there_some ht1 (j := k * 2) (by omega)
      obtain ⟨v1, hv1, hf1⟩ := there_some ht1 (j := k * 2 + 1) (by omega)
      simp only [Nat.zero_add, ← Nat.add_assoc] at hv0 hv1 hf0 hf1
      have hB1 := hB.trans (hb1.mono hB.size)
      clear c0 c1
      go_wp2
      have hr1 : ∀ (j : Nat) (p : Dub), j < k → ps[j]? = some p → w1.rangeAt w.heap.size (j * 2) (sgc p) := fun j p hj hq => rangeAt_below (hr j p hj hq) hb1 hsz
      refine ⟨⟨k + 1, by omega, by go_num, (hB1.setCell (p := ⟨w.heap.size, k * 2, none⟩) (Nat.le_refl _) _).setCell (p := ⟨w.heap.size, k * 2 + 1, none⟩) (Nat.le_refl _) _, ?_, there_set (there_set ht1 _ _) _ _, ?_⟩, by simp [intOf]; omega⟩
      · have := hb1.size
        simp only [World.setCell, Array.size_modify]
        omega
      · intro j q hj hq
        by_cases e : j = k
        · subst e
          rw [hp] at hq
          injection hq with hq
          subst hq
          exact two_stored hv0 hv1 _ _
        · exact rangeAt_off (rangeAt_off (hr1 j q (by omega) hq) (by right; right; simp [sgc]; omega) _) (by right; right; simp [sgc]; omega) _
    · have hk' : k = n := by omega
      subst hk'
      have hA' : SgIn wr w.heap.size (some ⟨w.heap.size, 0, none⟩) ps := fun hne => ⟨w.heap.size, 0, rfl, Nat.le_refl _, hsz, fun j p hp => by
        rw [Nat.zero_add]; exact hr j p (by have := (List.getElem?_eq_some_iff.1 hp).1; rw [HL.out] at this; exact this) hp, by rw [HL.out]; exact ht⟩
      clear hr ht
      go_wp2
      go_ret
      exact ⟨_, rfl, hA', hB⟩

set_option maxHeartbeats 1000000 in
theorem eqSign_same (a b : Int) (w : World) :
    Calls Try.prog 158 #[.agg #[.int .u8 a, .int .i16 b], .agg #[.int .u8 a, .int .i16 b]] w fun e w' => e = .returned (.bool true) ∧ Below w.heap.size w w' := by
  go_enter Try.func158, Try.ntmps158
  go_wp2
  go_ret
  exact ⟨rfl, ((Below.refl _ _).alloc (Nat.le_refl _) _).alloc (by simp) _⟩

set_option maxHeartbeats 1000000 in
theorem eqSignS_same (A A' : Option Addr) (ps : List Dub) (c c' : Nat) (w : World) (hn : ps.length ≤ maxLen) (hA : SgAt w w.heap.size A ps) (hA' : SgAt w w.heap.size A' ps) :
    Calls Try.prog 103 #[.slice A ps.length c, .slice A' ps.length c'] w fun e w' => e = .returned (.bool true) ∧ Below w.heap.size w w' := by
  unfold maxLen at hn
  generalize hL : ps.length = n at *
  have HL := hide hL
  clear hL
  go_enter Try.func103, Try.ntmps103
  go_wp2
  go_loopw [5] (fun i wr => ∃ k : Nat, k ≤ n ∧ i = .int .i64 k ∧ Below w.heap.size w wr)
    (fun i _ => n - (intOf i).toNat)
  case atStart => exact ⟨0, by omega, rfl, Below.refl _ _⟩
  case round =>
    obtain ⟨k, hk, rfl, hB⟩ := hrel
    by_cases hlt : k < n
    · have hne : ps ≠ [] := by intro e; rw [e] at HL; have := HL.out; simp at this; omega
      obtain ⟨b, o, rfl, hb, hps⟩ := hA hne
      obtain ⟨b', o', rfl, hb', hps'⟩ := hA' hne
      obtain ⟨p, hp⟩ : ∃ p, ps[k]? = some p := ⟨ps[k]'(by rw [HL.out]; exact hlt), List.getElem?_eq_getElem _⟩
      have hcell := rangeAt_below (hps k p hp) hB hb
      have hcell' := rangeAt_below (hps' k p hp) hB hb'
      obtain ⟨x, y⟩ := p
      have c0 : ∀ w', Below wr.heap.size wr w' → w'.cell? ⟨b, o + k * 2, none⟩ = some (.int .u8 x) := fun w' h => (rangeAt_below hcell h (Nat.lt_of_lt_of_le hb hB.size)) 0 _ rfl
      have c1 : ∀ w', Below wr.heap.size wr w' → w'.cell? ⟨b, o + k * 2 + 1, none⟩ = some (.int .i16 y) := fun w' h => (rangeAt_below hcell h (Nat.lt_of_lt_of_le hb hB.size)) 1 _ rfl
      have d0 : ∀ w', Below wr.heap.size wr w' → w'.cell? ⟨b', o' + k * 2, none⟩ = some (.int .u8 x) := fun w' h => (rangeAt_below hcell' h (Nat.lt_of_lt_of_le hb' hB.size)) 0 _ rfl
      have d1 : ∀ w', Below wr.heap.size wr w' → w'.cell? ⟨b', o' + k * 2 + 1, none⟩ = some (.int .i16 y) := fun w' h => (rangeAt_below hcell' h (Nat.lt_of_lt_of_le hb' hB.size)) 1 _ rfl
      have hi : (k : Int) < n := by omega
      have h0 : (0 : Int) ≤ k := by omega
      clear hcell hcell' hps hps' hA hA'
      go_wp2
      go_region_held3 (fun w' => Below wr.heap.size wr w') (first | exact (Below.refl _ _).drew | (refine Below.trans (by assumption) (Below.mono (by assumption) ?_); exact Below.size (by assumption))) (first | (go_at_call 158; refine (eqSign_same _ _ _).mono ?_; rintro e w1 ⟨rfl, hb1⟩))
      have hB1 : Below w.heap.size w w1 := hB.trans ((by assumption : Below wr.heap.size wr w1).mono hB.size)
      clear c0 c1 d0 d1
      go_wp2
      exact ⟨⟨k + 1, by omega, by go_num, hB1⟩, by simp [intOf]; omega⟩
    · go_wp2
      go_ret
      exact ⟨rfl, hB⟩

/-- The mark of the sign at place j, from number k on. -/
def mkSg (k : Int) (j : Nat) : Dub := ((k + 2 * j) % 256, IntKind.i16.wrap (k + 2 * j + 1))
def marksSg (k : Int) (n : Nat) : List Dub := (List.range n).map (mkSg k)
theorem marksSg_len (k : Int) (n : Nat) : (marksSg k n).length = n := by simp [marksSg]
theorem marksSg_get {k : Int} {n j : Nat} (h : j < n) : (marksSg k n)[j]? = some (mkSg k j) := by simp [marksSg, List.getElem?_range h]

set_option maxRecDepth 100000 in
set_option maxHeartbeats 4000000 in
theorem markSignS_any (A : Option Addr) (ps : List Dub) (c : Nat) (k : Int) (L : Nat) (w : World) (h0 : 0 ≤ k) (h1 : k ≤ 8388608) (hn : ps.length ≤ 2097152) (hP : SgIn w L A ps) :
    Calls Try.prog 108 #[.slice A ps.length c, .int .i64 k] w fun e w' => e = .returned (.int .i64 (k + 2 * ps.length)) ∧ w.grownBy w' (blkR A ps) ∧ SgIn w' L A (marksSg k ps.length) := by
  generalize hL : ps.length = n at *
  have HL := hide hL
  clear hL
  by_cases hne : ps = []
  · have hn0 : n = 0 := by rw [← HL.out, hne]; rfl
    subst hn0
    go_enter Try.func108, Try.ntmps108
    go_wp2
    go_loop [1, 5] (fun r i => r = .int .i64 k ∧ i = .int .i64 0) (fun _ _ => 0)
    case atStart => exact ⟨rfl, rfl⟩
    case round =>
      obtain ⟨rfl, rfl⟩ := hrel
      go_wp2
      go_ret
      exact ⟨ret_int (by simp), grown_refl _ _, fun h => (h rfl).elim⟩
  · obtain ⟨b, o, rfl, hLb, hlt, _, ht⟩ := hP hne
    rw [HL.out] at ht
    rw [blkR_some hne]
    go_enter Try.func108, Try.ntmps108
    go_wp2
    go_loopw [1, 5] (fun r i wr => ∃ j : Nat, j ≤ n ∧ i = .int .i64 j ∧ r = .int .i64 (k + 2 * j) ∧ w.grownBy wr (some b) ∧ wr.there b o (n * 2) ∧ (∀ i', i' < j → wr.rangeAt b (o + i' * 2) (sgc (mkSg k i'))))
      (fun _ i _ => n - (intOf i).toNat)
    case atStart => exact ⟨0, by omega, rfl, by simp, grown_refl _ _, ht, fun i hi => by omega⟩
    case round =>
      obtain ⟨j, hj, rfl, rfl, hg, ht', hr⟩ := hrel
      by_cases hjn : j < n
      · obtain ⟨v0, hv0, hf0⟩ := there_some ht' (j := j * 2) (by omega)
        obtain ⟨v1, hv1, hf1⟩ := there_some ht' (j := j * 2 + 1) (by omega)
        simp only [← Nat.add_assoc] at hv0 hv1 hf0 hf1
        have hi : (j : Int) < n := by omega
        have hi0 : (0 : Int) ≤ j := by omega
        go_wp2
        refine ⟨⟨j + 1, by omega, by go_num, by congr 1; omega, grown_set (grown_set hg _ _) _ _, there_set (there_set ht' _ _) _ _, ?_⟩, by simp [intOf]; omega⟩
        intro i' hi'
        by_cases e : i' = j
        · subst e
          exact two_stored hv0 hv1 _ _
        · refine rangeAt_off (rangeAt_off (hr i' (by omega)) ?_ _) ?_ _ <;> (right; right; simp [sgc]; omega)
      · obtain rfl : j = n := by omega
        go_wp2
        go_ret
        refine ⟨rfl, hg, fun _ => ⟨b, o, rfl, hLb, Nat.lt_of_lt_of_le hlt hg.size, fun i p hp => ?_, by rw [marksSg_len]; exact ht'⟩⟩
        have hi := (List.getElem?_eq_some_iff.1 hp).1
        rw [marksSg_len] at hi
        rw [marksSg_get hi] at hp
        injection hp with hp
        subst hp
        exact hr i hi

set_option maxRecDepth 100000 in
set_option maxHeartbeats 4000000 in
theorem heldSignS_any (A : Option Addr) (n : Nat) (c : Nat) (k : Int) (w : World) (h0 : 0 ≤ k) (h1 : k ≤ 8388608) (hn : n ≤ 2097152) (hP : SgAt w w.heap.size A (marksSg k n)) :
    Calls Try.prog 110 #[.slice A n c, .int .i64 k] w fun e w' => e = .returned (.int .i64 (k + 2 * n)) ∧ w = w' := by
  go_enter Try.func110, Try.ntmps110
  go_wp2
  go_loop [1, 5] (fun r i => ∃ j : Nat, j ≤ n ∧ i = .int .i64 j ∧ r = .int .i64 (k + 2 * j))
    (fun _ i => n - (intOf i).toNat)
  case atStart => exact ⟨0, by omega, rfl, by simp⟩
  case round =>
    obtain ⟨j, hj, rfl, rfl⟩ := hrel
    by_cases hjn : j < n
    · obtain ⟨b, o, rfl, hb, hps⟩ := hP (by intro e; have := congrArg List.length e; rw [marksSg_len] at this; simp at this; omega)
      have hr := hps j _ (marksSg_get hjn)
      have c0 : w.cell? ⟨b, o + j * 2, none⟩ = some (.int .u8 ((k + 2 * j) % 256)) := hr 0 _ rfl
      have c1 : w.cell? ⟨b, o + j * 2 + 1, none⟩ = some (.int .i16 (IntKind.i16.wrap (k + 2 * j + 1))) := hr 1 _ rfl
      have hi : (j : Int) < n := by omega
      have hi0 : (0 : Int) ≤ j := by omega
      clear hps hr
      go_wp2
      exact ⟨⟨j + 1, by omega, by go_num, by congr 1; omega⟩, by simp [intOf]; omega⟩
    · obtain rfl : j = n := by omega
      go_wp2
      go_ret
      exact ⟨rfl, rfl⟩
end Go.Proofs.Ytgklhdacnklhdaa
