/- How big a face is, and its copy in the program's own type. -/
import Derived.Test.YtikndeloeeppaaaFace0
import Derived.LoopTactic
namespace Go.Proofs.Ytikndeloeeppaaa
open Go.RowKit

/-- What a size leaves. -/
def szL (l : Int) (n : Nat) : Int := if l - n < 0 then -1 else l - n
set_option maxHeartbeats 400000 in
theorem szPairS_any (A : Option Addr) (n c : Nat) (l : Int) (w : World) (h0 : -1 ≤ l) (h1 : l ≤ 1048576) (hn : n ≤ maxLen) :
    Calls Try.prog 80 #[.slice A n c, .int .i64 l] w fun e w' => e = .returned (.int .i64 (szL l n)) ∧ w = w' := by
  unfold maxLen at hn
  go_enter Try.func80, Try.ntmps80
  go_wp2
  all_goals (go_ret; exact ⟨ret_int (by unfold szL; split <;> omega), rfl⟩)
set_option maxHeartbeats 400000 in
theorem szFace_any (F : Fc) (hF : F.ok) (A : Option Addr) (c : Nat) (l : Int) (w : World) (h0 : -1 ≤ l) (h1 : l ≤ 1048576) :
    Calls Try.prog 23 #[.agg (fc F (.slice A F.ps.length c)).toArray, .int .i64 l] w fun e w' => e = .returned (.int .i64 (szL l F.ps.length)) ∧ Below w.heap.size w w' := by
  have hc := rangeAt_cell (rangeAt_new w (fc F (.slice A F.ps.length c)) 26) (fc_sl hF.len _)
  have hb : -1 ≤ szL l F.ps.length ∧ szL l F.ps.length ≤ 1048576 := by unfold szL; split <;> omega
  have hn := hF.n
  have hs := (Below.refl w.heap.size w).alloc (Nat.le_refl _) (.cells (fc F (.slice A F.ps.length c)).toArray 26)
  go_enter Try.func23, Try.ntmps23
  go_wp2_with (go_at_call 80; refine (szPairS_any _ _ _ _ _ h0 h1 hn).mono ?_; rintro e w' ⟨rfl, rfl⟩)
  all_goals (go_ret; exact ⟨ret_int (by omega), hs⟩)

/-- k numbers have been copied, the rest is 0. -/
def part (W : List Int) (k : Nat) : List Int := W.take k ++ List.replicate (26 - k) 0
theorem part_len {W : List Int} (h : W.length = 26) {k : Nat} (hk : k ≤ 26) : (part W k).length = 26 := by simp [part, h]; omega
theorem part_all {W : List Int} (h : W.length = 26) : part W 26 = W := by simp [part, ← h]
theorem part_succ {W : List Int} (h : W.length = 26) {k : Nat} (hk : k < 26) : (part W k).set k (W.getD k 0) = part W (k + 1) := by
  apply List.ext_getElem
  · rw [List.length_set, part_len h (by omega), part_len h (by omega)]
  · intro i h1 h2
    simp only [part, List.getElem_set, List.getElem_append, List.length_take, List.getElem_take, List.getElem_replicate, h]
    by_cases e : k = i
    · subst e
      have : k < min (k + 1) 26 := by omega
      simp [this, List.getD, h, hk]
    · rw [if_neg e]
      by_cases h3 : i < min k 26
      · have : i < min (k + 1) 26 := by omega
        simp [h3, this]
      · have : ¬ i < min (k + 1) 26 := by omega
        simp [h3, this]
theorem wc_set (W : List Int) (k : Nat) (v : Int) : (wc W).set k (.int .i8 v) = wc (W.set k v) := by simp [wc]

set_option maxHeartbeats 1000000 in
theorem toInt8A26_any (W : List Int) (hW : W.length = 26) (w : World) :
    Calls Try.prog 85 #[.agg (wc W).toArray] w fun e w' => e = .returned (.agg (wc W).toArray) ∧ Below w.heap.size w w' := by
  have HW := hide hW
  clear hW
  go_enter Try.func85, Try.ntmps85
  go_wp2
  go_loopw [4] (fun i wr => ∃ k : Nat, k ≤ 26 ∧ i = .int .i64 k ∧ Below w.heap.size w wr ∧ wr.rangeAt w.heap.size 0 (wc W) ∧ wr.there (w.heap.size + 1) 0 26 ∧ wr.rangeAt (w.heap.size + 1 + 1) 0 (wc (part W k)) ∧ wr.there (w.heap.size + 1 + 1) 0 26)
    (fun i _ => 26 - (intOf i).toNat)
  case atStart =>
    refine ⟨0, by omega, rfl, ?_, ?_, ?_, ?_, ?_⟩
    · exact (((Below.refl _ _).alloc (Nat.le_refl _) _).alloc (by simp) _).alloc (by simp only [World.size_alloc]; omega) _
    · exact World.rangeAt_alloc (World.rangeAt_alloc (rangeAt_new _ _ _) _) _
    · exact World.there_alloc (there_newg (by simp) rfl) _
    · exact rangeAt_newg (by simp) (by simp [part, wc])
    · exact there_newg (by simp) rfl
  case round =>
    obtain ⟨k, hk, rfl, hB, hr, ht1, hr2, ht2⟩ := hrel
    by_cases hlt : k < 26
    · have hc := rangeAt_cell hr (wc_get (by rw [HW.out]; exact hlt))
      have hc2 := rangeAt_cell hr2 (wc_get (k := k) (by rw [part_len HW.out hk]; exact hlt))
      have hf2 := (ht2 k hlt).2
      simp only [Nat.zero_add] at hf2
      go_wp2
      refine ⟨⟨k + 1, by omega, by go_num, hB.setCell (p := ⟨w.heap.size + 1 + 1, k, none⟩) (by show w.heap.size ≤ w.heap.size + 1 + 1; omega) _, rangeAt_far hr (by show w.heap.size + 1 + 1 ≠ w.heap.size; omega) _, there_set ht1 _ _, ?_, there_set ht2 _ _⟩, by simp [intOf]; omega⟩
      rw [← part_succ HW.out hlt, ← wc_set]
      exact rangeAt_set hr2 k _ (by rw [wc_length, part_len HW.out hk]; exact hlt)
    · obtain rfl : k = 26 := by omega
      rw [part_all HW.out] at hr2
      have hi : (wc W).length = 26 := by rw [wc_length]; exact HW.out
      have HI := hide hi
      clear hi
      go_wp2_with (first
        | (refine wpList_load_mid rfl 23 (.tmp 3) rfl _ 0 rfl (wc W) _ hr2 Try.underlying23 rfl (by rw [HI.out]; kernel_rfl) ?_)
        | (refine wpList_store_mid rfl 23 (.tmp 2) (.tmp 14) rfl _ 0 _ rfl rfl (by simpa [HI.out] using ht1) (by simp only [List.size_toArray]; rw [HI.out]; kernel_rfl) (wc_one W) ?_))
      refine bodyPost_ret (results_mid rfl _ _ (w.heap.size + 1) 0 (wc W) _ rfl (World.rangeAt_setCells_same _ _ _ _ (by rw [HI.out]; exact ht1)) Try.underlying23 rfl (by rw [HI.out]; kernel_rfl)) rfl ⟨rfl, ?_⟩
      exact below_setCells _ _ _ _ hB (by omega)

/-! ### A pair -/
set_option maxHeartbeats 1000000 in
theorem toPair_any (a b c : Int) (w : World) :
    Calls Try.prog 26 #[.agg #[.int .u8 a, .int .u8 b, .int .i8 c]] w fun e w' => e = .returned (.agg #[.int .u8 a, .int .u8 b, .int .i8 c]) ∧ Below w.heap.size w w' := by
  go_enter Try.func26, Try.ntmps26
  go_wp2
  exact bodyPost_ret (v := .agg #[.int .u8 a, .int .u8 b, .int .i8 c]) (by simp [results, Try.results26, go_sem]) rfl ⟨rfl, (((Below.refl _ _).alloc (Nat.le_refl _) _).alloc (by simp) _).alloc (by simp only [World.size_alloc]; omega) _⟩

theorem Try.infoPair : (Try.prog.info? 36).map (fun i => (i.zero, i.size, i.bytes)) = some (some (.agg #[.int .u8 0, .int .u8 0, .int .i8 0]), 3, 3) := by kernel_rfl

set_option maxHeartbeats 1000000 in
theorem toPairS_any (A : Option Addr) (ps : List (Int × Int × Int)) (c : Nat) (w : World) (hA : PairsAt w w.heap.size A ps) (hn : ps.length ≤ 1048576) :
    Calls Try.prog 86 #[.slice A ps.length c] w fun e w' => ∃ A', e = .returned (.slice A' ps.length ps.length) ∧ PairsIn w' w.heap.size A' ps ∧ Below w.heap.size w w' := by
  obtain ⟨i0, hi0, hz0, hz1, hz2⟩ := info_parts Try.infoPair
  have hmk := fun W => run_make_rowN (P := Try.prog) 30 36 i0 _ Try.underlying30 hi0 hz0 .i64 .i64 ps.length ps.length (Nat.le_refl _) (by rw [hz2]; omega) (by omega) W
  generalize hL : ps.length = n at *
  have HL := hide hL
  clear hL
  go_enter Try.func86, Try.ntmps86
  go_wp2
  go_loopw [4] (fun i wr => ∃ k : Nat, k ≤ n ∧ i = .int .i64 k ∧ Below w.heap.size w wr ∧ w.heap.size < wr.heap.size ∧ wr.there w.heap.size 0 (n * 3) ∧ (∀ j p, j < k → ps[j]? = some p → wr.rangeAt w.heap.size (j * 3) (pc p)))
    (fun i _ => n - (intOf i).toNat)
  case atStart =>
    refine ⟨0, by omega, rfl, (Below.refl _ _).alloc (Nat.le_refl _) _, by simp, there_newg rfl (by simp [madeCells]), fun j p hj => by omega⟩
  case round =>
    obtain ⟨k, hk, rfl, hB, hsz, ht, hr⟩ := hrel
    by_cases hlt : k < n
    · obtain ⟨b, o, rfl, hb, hps⟩ := hA (by intro e; rw [e] at HL; have := HL.out; simp at this; omega)
      obtain ⟨p, hp⟩ : ∃ p, ps[k]? = some p := ⟨ps[k]'(by rw [HL.out]; exact hlt), List.getElem?_eq_getElem _⟩
      have hcell := rangeAt_below (hps k p hp) hB hb
      obtain ⟨x, y, z⟩ := p
      have c0 := hcell 0 _ rfl
      have c1 := hcell 1 _ rfl
      have c2 := hcell 2 _ rfl
      simp only [Nat.add_zero] at c0
      clear hcell hps hmk
      go_wp2_with fail
      refine (toPair_any _ _ _ _).mono ?_
      rintro e w1 ⟨rfl, hb1⟩
      have ht1 := there_below ht hb1 hsz
      obtain ⟨v0, hv0, hf0⟩ := there_some ht1 (j := k * 3) (by omega)
      obtain ⟨v1, hv1, hf1⟩ := there_some ht1 (j := k * 3 + 1) (by omega)
      obtain ⟨v2, hv2, hf2⟩ := there_some ht1 (j := k * 3 + 2) (by omega)
      simp only [Nat.zero_add, ← Nat.add_assoc] at hv0 hv1 hv2 hf0 hf1 hf2
      have hB1 := hB.trans (hb1.mono hB.size)
      clear c0 c1 c2
      go_wp2
      have hr1 : ∀ (j : Nat) (p : Int × Int × Int), j < k → ps[j]? = some p → w1.rangeAt w.heap.size (j * 3) (pc p) := fun j p hj hq => rangeAt_below (hr j p hj hq) hb1 hsz
      refine ⟨⟨k + 1, by omega, by go_num, ((hB1.setCell (p := ⟨w.heap.size, k * 3, none⟩) (Nat.le_refl _) _).setCell (p := ⟨w.heap.size, k * 3 + 1, none⟩) (Nat.le_refl _) _).setCell (p := ⟨w.heap.size, k * 3 + 2, none⟩) (Nat.le_refl _) _, ?_, there_set (there_set (there_set ht1 _ _) _ _) _ _, ?_⟩, by simp [intOf]; omega⟩
      · have := hb1.size
        simp only [World.setCell, Array.size_modify]
        omega
      · intro j q hj hq
        by_cases e : j = k
        · subst e
          rw [hp] at hq
          injection hq with hq
          subst hq
          exact pair_stored hv0 hv1 hv2 _ _ _
        · exact rangeAt_off (rangeAt_off (rangeAt_off (hr1 j q (by omega) hq) (by right; right; simp [pc]; omega) _) (by right; right; simp [pc]; omega) _) (by right; right; simp [pc]; omega) _
    · have hk' : k = n := by omega
      subst hk'
      have hA' : PairsIn wr w.heap.size (some ⟨w.heap.size, 0, none⟩) ps := fun hne => ⟨w.heap.size, 0, rfl, Nat.le_refl _, hsz, fun j p hp => by
        rw [Nat.zero_add]; exact hr j p (by have := (List.getElem?_eq_some_iff.1 hp).1; rw [HL.out] at this; exact this) hp, by rw [HL.out]; exact ht⟩
      clear hr ht
      go_wp2
      go_ret
      exact ⟨_, rfl, hA', hB⟩
end Go.Proofs.Ytikndeloeeppaaa
