/- A rubbing that is read from its text, of the program: what panics, and what is recovered. -/
import Derived.Test.YtjmkbdghenjlaaaRdI
import Derived.Tactics2
import Derived.Defers
import Derived.Recover
import Derived.Laws.Pointers
import Derived.WalkLawsBesides
namespace Go.Proofs.Ytjmkbdghenjlaaa
open Go Go.RowKit

theorem bytes_eqD {a b : ByteArray} : (a.toList == b.toList) = true ↔ a = b := by
  rw [beq_iff_eq, ByteArray.toList_eq, ByteArray.toList_eq]
  exact ⟨fun h => (ba_ext h).trans (ba_ext rfl).symm, fun h => by rw [h]⟩
theorem rt_str {s : ByteArray} (h : okT (splitT s.data.toList)) : rtB (rdR s.data.toList) = s := by
  unfold rtB
  rw [ok_text h]
theorem rt_nostr {s : ByteArray} (h : ¬ okT (splitT s.data.toList)) : rtB (rdR s.data.toList) ≠ s := fun e => no_text h (by
  have := congrArg (fun b : ByteArray => b.data.toList) e
  simpa [rtB] using this)

set_option maxRecDepth 100000 in
set_option maxHeartbeats 4000000 in
theorem mustRead_ok (s : ByteArray) (hs : s.size ≤ 1048576) (h : okT (splitT s.data.toList)) (w : World) :
    Calls Try.prog 27 #[.string s] w fun e w' => e = .returned (.agg (rwc (rdR s.data.toList)).toArray) ∧ Below w.heap.size w w' := by
  obtain ⟨W0, hW0⟩ : ∃ W0, W0 = w.alloc (.cells #[.int .u16 0, .int .u16 0, .int .u16 0, .int .u16 0, .int .u16 0, .int .u16 0, .int .u16 0, .int .u16 0] 26) := ⟨_, rfl⟩
  have b0 : Below w.heap.size w W0 := by rw [hW0]; exact (Below.refl _ _).alloc (Nat.le_refl _) _
  have s0 : W0.heap.size = w.heap.size + 1 := by rw [hW0]; simp
  have t0 : W0.there w.heap.size 0 8 := by rw [hW0]; exact there_newg rfl rfl
  have HL := hide (likelyRubbing_any s hs W0)
  have HW0 := hide hW0
  have HOK := hide (show rok (rdR s.data.toList) from rubF_ok _)
  have HT := hide (fun W => implRubbingText_any (rdR s.data.toList) (rubF_ok _) W)
  have HE := hide (rt_str h)
  rw [HE.out] at HT
  clear hW0 h
  generalize rdR s.data.toList = R at *
  go_enter Try.func27, Try.ntmps27
  repeat (first | (rw [← HW0.out]) | go_step)
  refine HL.out.mono ?_
  rintro e w1 ⟨rfl, hb1⟩
  have ht1 := there_below t0 hb1 (by omega)
  have hB1 := b0.trans (hb1.mono b0.size)
  obtain ⟨w2, hW2, r2, b2, s2, t20⟩ := stored_rub w1 R HOK.out.1
  have HW2 := hide hW2
  have hB2 := hB1.trans (b2.mono hB1.size)
  have ht2 := there_below ht1 b2 (by have := hb1.size; omega)
  clear hW2 hb1 t0 ht1
  go_wp2_with (first
    | (refine wpList_store_mid rfl 26 (.tmp 3) (.tmp 5) rfl w1.heap.size 0 _ rfl rfl t20 (rub_info HOK.out.1) (rwc_one _) ?_; rw [← HW2.out])
    | (refine wpList_load_mid rfl 26 (.tmp 3) rfl w1.heap.size 0 rfl (rwc R) _ r2 Try.underlying26 rfl (rub_info' HOK.out.1) ?_))
  refine (HT.out _).mono ?_
  rintro e w3 ⟨rfl, hb3⟩
  have r3 := rangeAt_below r2 hb3 s2
  have ht3 := there_below ht2 hb3 (by have := hB1.size; omega)
  have ht3' : w3.there w.heap.size 0 (rwc R).toArray.size := by simp only [List.size_toArray]; rw [rwc_length, HOK.out.1]; exact ht3
  have hB3 := hB2.trans (hb3.mono hB2.size)
  clear hb3 r2 ht2 ht3
  go_wp2_with (first
    | (refine wpList_load_mid rfl 26 (.tmp 3) rfl w1.heap.size 0 rfl (rwc R) _ r3 Try.underlying26 rfl (rub_info' HOK.out.1) ?_)
    | (refine wpList_store_mid rfl 26 (.tmp 2) (.tmp 12) rfl w.heap.size 0 (rwc R).toArray rfl rfl ht3' (rub_info HOK.out.1) (rwc_one _) ?_))
  refine bodyPost_ret (results_mid rfl _ _ w.heap.size 0 (rwc R) _ rfl (World.rangeAt_setCells_same _ _ _ _ ht3') Try.underlying26 rfl (rub_info' HOK.out.1)) rfl ⟨rfl, ?_⟩
  exact below_setCells _ _ _ _ hB3 (Nat.le_refl _)

set_option maxRecDepth 100000 in
set_option maxHeartbeats 4000000 in
theorem mustRead_no (s : ByteArray) (hs : s.size ≤ 1048576) (h : ¬ okT (splitT s.data.toList)) (w : World) :
    Calls Try.prog 27 #[.string s] w fun e w' => e = .panicked [{ v := .iface 76 (.string s), recovered := false }] ∧ Below w.heap.size w w' := by
  obtain ⟨W0, hW0⟩ : ∃ W0, W0 = w.alloc (.cells #[.int .u16 0, .int .u16 0, .int .u16 0, .int .u16 0, .int .u16 0, .int .u16 0, .int .u16 0, .int .u16 0] 26) := ⟨_, rfl⟩
  have b0 : Below w.heap.size w W0 := by rw [hW0]; exact (Below.refl _ _).alloc (Nat.le_refl _) _
  have HL := hide (likelyRubbing_any s hs W0)
  have HW0 := hide hW0
  have HOK := hide (show rok (rdR s.data.toList) from rubF_ok _)
  have HT := hide (fun W => implRubbingText_any (rdR s.data.toList) (rubF_ok _) W)
  have hne := rt_nostr h
  have hq : ((rtB (rdR s.data.toList)).toList == s.toList) = false := by
    cases hq : ((rtB (rdR s.data.toList)).toList == s.toList)
    · rfl
    · exact absurd (bytes_eqD.1 hq) hne
  clear hW0 h
  generalize rdR s.data.toList = R at *
  generalize rtB R = tx at *
  go_enter Try.func27, Try.ntmps27
  repeat (first | (rw [← HW0.out]) | go_step)
  refine HL.out.mono ?_
  rintro e w1 ⟨rfl, hb1⟩
  have hB1 := b0.trans (hb1.mono b0.size)
  obtain ⟨w2, hW2, r2, b2, s2, t20⟩ := stored_rub w1 R HOK.out.1
  have HW2 := hide hW2
  have hB2 := hB1.trans (b2.mono hB1.size)
  clear hW2 hb1
  go_wp2_with (first
    | (refine wpList_store_mid rfl 26 (.tmp 3) (.tmp 5) rfl w1.heap.size 0 _ rfl rfl t20 (rub_info HOK.out.1) (rwc_one _) ?_; rw [← HW2.out])
    | (refine wpList_load_mid rfl 26 (.tmp 3) rfl w1.heap.size 0 rfl (rwc R) _ r2 Try.underlying26 rfl (rub_info' HOK.out.1) ?_))
  refine (HT.out _).mono ?_
  rintro e w3 ⟨rfl, hb3⟩
  have hB3 := hB2.trans (hb3.mono hB2.size)
  clear hb3 r2
  go_wp2
  exact ⟨rfl, rfl, hB3⟩
end Go.Proofs.Ytjmkbdghenjlaaa
