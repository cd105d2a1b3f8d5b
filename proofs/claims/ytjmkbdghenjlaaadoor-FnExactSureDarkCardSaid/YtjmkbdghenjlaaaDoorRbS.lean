/- Lists of rubbings: their copies, how many they are, whether two lists are equal. -/
import Derived.Test.YtjmkbdghenjlaaaDoorRbH
import Derived.Test.YtjmkbdghenjlaaaDoorFlat
namespace Go.Proofs.YtjmkbdghenjlaaaDoor
open Go Go.RowKit

set_option maxHeartbeats 400000 in
theorem szRubbingS_any (A : Option Addr) (n c : Nat) (l : Int) (w : World) (h0 : -1 ≤ l) (h1 : l ≤ 1048576) (hn : n ≤ maxLen) :
    Calls Tryd.prog 9 #[.slice A n c, .int .i64 l] w fun e w' => e = .returned (.int .i64 (szL l n)) ∧ w = w' := by
  unfold maxLen at hn
  go_enter Tryd.func9, Tryd.ntmps9
  go_wp2
  all_goals (go_ret; exact ⟨ret_int (by unfold szL; split <;> omega), rfl⟩)

theorem Tryd.infoRubS : (Tryd.prog.info? 26).map (fun i => (i.zero, i.size, i.bytes)) = some (some (.agg #[.int .u16 0, .int .u16 0, .int .u16 0, .int .u16 0, .int .u16 0, .int .u16 0, .int .u16 0, .int .u16 0]), 8, 16) := by kernel_rfl
theorem lrub_info {R : List Nat} (h : R.length = 8) : (Tryd.prog.info? 25).map (·.size) = some (rwc R).length := by rw [rwc_length, h]; kernel_rfl

set_option maxRecDepth 100000 in
set_option maxHeartbeats 4000000 in
theorem toRubbingS_any (A : Option Addr) (Rs : List (List Nat)) (c : Nat) (w : World) (hA : RbsAt w w.heap.size A Rs) (hn : Rs.length ≤ 1048576) (hR : ∀ R ∈ Rs, rok R) :
    Calls Tryd.prog 11 #[.slice A Rs.length c] w fun e w' => ∃ A', e = .returned (.slice A' Rs.length Rs.length) ∧ RbsIn w' w.heap.size A' Rs ∧ Below w.heap.size w w' := by
  obtain ⟨i0, hi0, hz0, hz1, hz2⟩ := info_parts Tryd.infoRubS
  have hmk := fun W => run_make_rowN (P := Tryd.prog) 29 26 i0 _ Tryd.underlying29 hi0 hz0 .i64 .i64 Rs.length Rs.length (Nat.le_refl _) (by rw [hz2]; omega) (by omega) W
  have HT := hide (fun R (h : R ∈ Rs) W => toRubbing_any R (hR R h) W)
  have HLN := hide (fun R (h : R ∈ Rs) => (hR R h).1)
  have HA := hide hA
  obtain ⟨n, hN⟩ : ∃ n, Rs.length = n := ⟨_, rfl⟩
  have HL := hide hN
  rw [hN] at hn hmk ⊢
  clear hN hA hR
  go_enter Tryd.func11, Tryd.ntmps11
  go_wp2
  go_loopw [4] (fun i wr => ∃ k : Nat, k ≤ n ∧ i = .int .i64 k ∧ Below w.heap.size w wr ∧ w.heap.size < wr.heap.size ∧ wr.there w.heap.size 0 (n * 8) ∧ Hid (∀ j p, j < k → Rs[j]? = some p → wr.rangeAt w.heap.size (j * 8) (rwc p)))
    (fun i _ => n - (intOf i).toNat)
  case atStart =>
    refine ⟨0, by omega, rfl, (Below.refl _ _).alloc (Nat.le_refl _) _, by simp, there_newg rfl (by simp [madeCells]), hide (fun j p hj => by omega)⟩
  case round =>
    obtain ⟨k, hk, rfl, hB, hsz, ht, HRW⟩ := hrel
    by_cases hlt : k < n
    · obtain ⟨b, o, rfl, hb, hps⟩ := HA.out (by intro e; rw [e] at HL; have := HL.out; simp at this; omega)
      obtain ⟨p, hp⟩ : ∃ p, Rs[k]? = some p := ⟨Rs[k]'(by rw [HL.out]; exact hlt), List.getElem?_eq_getElem _⟩
      have hr := rangeAt_below (hps k p hp) hB hb
      have hmem := List.mem_of_getElem? hp
      have HC := hide (HT.out p hmem)
      have HLP := hide (HLN.out p hmem)
      have HP := hide hp
      have hi : (k : Int) < n := by omega
      have h0 : (0 : Int) ≤ k := by omega
      clear hps hmk hp hmem
      go_wp2_with (refine wpList_load_mid rfl 25 (.tmp 18) rfl b (o + k * 8) rfl (rwc p) _ hr Tryd.underlying25 rfl (lrub_info HLP.out) ?_)
      refine (HC.out _).mono ?_
      rintro e w1 ⟨rfl, hb1⟩
      have ht1 := there_below ht hb1 hsz
      have tk : w1.there w.heap.size (k * 8) (rwc p).toArray.size := by
        simp only [List.size_toArray]; rw [rwc_length, HLP.out]
        intro j hj
        have := ht1 (k * 8 + j) (by omega)
        rw [Nat.zero_add] at this
        exact this
      have hB1 := hB.trans (hb1.mono hB.size)
      have HR1 := hide (fun (j : Nat) (q : List Nat) (hj : j < k) (hq : Rs[j]? = some q) => rangeAt_below (HRW.out j q hj hq) hb1 hsz)
      have hs1 := hb1.size
      clear hr ht hb1
      go_wp2_with (refine wpList_store_mid rfl 26 (.tmp 21) (.tmp 20) rfl w.heap.size (k * 8) (rwc p).toArray rfl rfl tk (rub_info HLP.out) (rwc_one _) ?_)
      refine ⟨⟨k + 1, by omega, by go_num, below_setCells _ _ _ _ hB1 (Nat.le_refl _), by rw [size_setCells]; omega, World.there_setCells ht1 _ _ _, hide (fun j q hj hq => ?_)⟩, by simp [intOf]; omega⟩
      by_cases e : j = k
      · subst e
        rw [HP.out] at hq
        injection hq with hq
        subst hq
        exact World.rangeAt_setCells_same _ _ _ _ (by simpa using tk)
      · refine World.rangeAt_setCells_apart (HR1.out j q (by omega) hq) _ _ _ (.inr (.inl ?_))
        rw [rwc_length, HLN.out q (List.mem_of_getElem? hq)]; omega
    · have hk' : k = n := by omega
      subst hk'
      have HA' : Hid (RbsIn wr w.heap.size (some ⟨w.heap.size, 0, none⟩) Rs) := hide (fun hne => ⟨w.heap.size, 0, rfl, Nat.le_refl _, hsz, fun j p hp => by
        rw [Nat.zero_add]; exact HRW.out j p (by have := (List.getElem?_eq_some_iff.1 hp).1; rw [HL.out] at this; exact this) hp, by rw [HL.out]; exact ht⟩)
      clear ht HRW
      go_wp2
      go_ret
      exact ⟨_, rfl, HA'.out, hB⟩

theorem over_rowO {W : World} {b o : Nat} {cs : List Value} (hc : W.rangeAt b o cs) (hlt : b < W.heap.size) : ∀ w', (∃ s : Over W, w' = s.w) → w'.rangeAt b o cs := fun w' ⟨s, hs⟩ j v hv => by
  rw [hs, s.h.cell (p := ⟨b, o + j, none⟩) hlt]; exact hc j v hv

set_option maxRecDepth 100000 in
set_option maxHeartbeats 4000000 in
theorem eqRubbingS_same (A A' : Option Addr) (Rs : List (List Nat)) (c c' : Nat) (w : World) (hn : Rs.length ≤ maxLen) (hR : ∀ R ∈ Rs, rok R) (hA : RbsAt w w.heap.size A Rs) (hA' : RbsAt w w.heap.size A' Rs) :
    Calls Tryd.prog 14 #[.slice A Rs.length c, .slice A' Rs.length c'] w fun e w' => e = .returned (.bool true) ∧ Below w.heap.size w w' := by
  unfold maxLen at hn
  have HE := hide (fun R (h : R ∈ Rs) W => eqRubbing_same R (hR R h).1 W)
  have HLN := hide (fun R (h : R ∈ Rs) => (hR R h).1)
  have HA := hide hA
  have HA2 := hide hA'
  obtain ⟨n, hN⟩ : ∃ n, Rs.length = n := ⟨_, rfl⟩
  have HL := hide hN
  rw [hN] at hn ⊢
  clear hN hA hA' hR
  go_enter Tryd.func14, Tryd.ntmps14
  go_wp2
  go_loopw [5] (fun i wr => ∃ k : Nat, k ≤ n ∧ i = .int .i64 k ∧ Below w.heap.size w wr)
    (fun i _ => n - (intOf i).toNat)
  case atStart => exact ⟨0, by omega, rfl, Below.refl _ _⟩
  case round =>
    obtain ⟨k, hk, rfl, hB⟩ := hrel
    by_cases hlt : k < n
    · have hne : Rs ≠ [] := by intro e; rw [e] at HL; have := HL.out; simp at this; omega
      obtain ⟨b, o, rfl, hb, hps⟩ := HA.out hne
      obtain ⟨b', o', rfl, hb', hps'⟩ := HA2.out hne
      obtain ⟨p, hp⟩ : ∃ p, Rs[k]? = some p := ⟨Rs[k]'(by rw [HL.out]; exact hlt), List.getElem?_eq_getElem _⟩
      have hmem := List.mem_of_getElem? hp
      have hbs := hB.size
      have HROW := hide (over_rowO (rangeAt_below (hps k p hp) hB hb) (by omega))
      have HROW2 := hide (over_rowO (rangeAt_below (hps' k p hp) hB hb') (by omega))
      have HC := hide (HE.out p hmem)
      have HLP := hide (HLN.out p hmem)
      have hi : (k : Int) < n := by omega
      have h0 : (0 : Int) ≤ k := by omega
      clear hps hps' hp hmem
      go_wp2
      refine wp_region_over (by kernel_rfl) (by kernel_rfl) ?_
      repeat (first | (refine wpQuiet_load_row rfl 26 (.tmp 19) rfl b (o + k * 8) rfl _ _ HROW.out Tryd.underlying26 rfl (rub_info' HLP.out) ?_; simp only [Act.put, List.setIfInBounds_toArray, List.set_cons_zero, List.set_cons_succ]) | (refine wpQuiet_load_row rfl 26 (.tmp 23) rfl b' (o' + k * 8) rfl _ _ HROW2.out Tryd.underlying26 rfl (rub_info' HLP.out) ?_; simp only [Act.put, List.setIfInBounds_toArray, List.set_cons_zero, List.set_cons_succ]) | go_big_quiet_step ((go_at_call 13; exact over_call (HC.out _))))
      refine wpQuiet_nil ?_
      intro w1 hb1
      go_wp2
      exact ⟨⟨k + 1, by omega, by go_num, hB.trans (hb1.mono hbs)⟩, by simp [intOf]; omega⟩
    · go_wp2
      go_ret
      exact ⟨rfl, hB⟩
end Go.Proofs.YtjmkbdghenjlaaaDoor
