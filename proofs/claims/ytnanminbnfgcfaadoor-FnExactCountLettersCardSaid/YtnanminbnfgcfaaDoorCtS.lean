/- CountLetters: the model's. -/
import Derived.Test.YtnanminbnfgcfaaDoorCtP
import Derived.Test.YtnanminbnfgcfaaDoorChM
namespace Go.Proofs.YtnanminbnfgcfaaDoor
open Go Go.RowKit

set_option maxRecDepth 100000 in
set_option maxHeartbeats 8000000 in
theorem specCountLetters_any (s : ByteArray) (hs : s.size ≤ maxLen) (w : World) :
    Calls Tryd.prog 12 #[.string s] w (IntsBack (clR s.data.toList) (clC s.data.toList) w) := by
  have HT := hide (fun W => l01Text_any s W hs)
  unfold maxLen at hs
  cases hv : vtext s.data.toList
  · obtain ⟨e1, e2⟩ := cl_no hv
    rw [e1, e2]
    rw [hv] at HT
    go_enter Tryd.func12, Tryd.ntmps12
    go_wp2_with (go_at_call 41; refine (HT.out _).mono ?_; rintro e w1 ⟨rfl, rfl⟩)
    go_ret2
    exact ⟨_, 0, rfl, IntsIn.empty _ _ _, by first | exact (Below.refl _ _) | exact (Below.refl _ _).alloc (Nat.le_refl _) _⟩
  · obtain ⟨e1, e2⟩ := cl_ok hv
    rw [e1, e2]
    rw [hv] at HT
    have hs60 : s.size ≤ 60 := by have := (vtext_true.1 hv).1; simpa using this
    have HGOOD := hide (vtext_true.1 hv).2
    have hL : s.data.toList.length = s.size := by simp
    have HL := hide hL
    have HF := hide (ctF_M s.data.toList s.size hL)
    have HLN := hide (ctF_len s.data.toList)
    have HBD := hide (ctM_bd s.data.toList)
    have HML := hide (ctM_len s.data.toList)
    clear hv hL e1 e2
    go_enter Tryd.func12, Tryd.ntmps12
    go_wp2_with (go_at_call 41; refine (HT.out _).mono ?_; rintro e w1 ⟨rfl, rfl⟩)
    rw [made26]
    have hr0 := rangeAt_new w (icc ct0) 2
    have ht0 : (w.alloc (.cells (icc ct0).toArray 2)).there w.heap.size 0 26 := there_newg rfl (by simp [icc, ct0])
    have hb0 : Below w.heap.size w (w.alloc (.cells (icc ct0).toArray 2)) := (Below.refl _ _).alloc (Nat.le_refl _) _
    have hz0 : w.heap.size < (w.alloc (.cells (icc ct0).toArray 2)).heap.size := by simp
    generalize (w.alloc (.cells (icc ct0).toArray 2)) = W0 at *
    go_wp2
    go_loopw [5] (fun i wr => ∃ k : Nat, k ≤ s.size ∧ i = .int .i64 k ∧ wr.rangeAt w.heap.size 0 (icc (ctM s.data.toList k)) ∧ wr.there w.heap.size 0 26 ∧ Below w.heap.size w wr ∧ w.heap.size < wr.heap.size)
      (fun i _ => s.size - (intOf i).toNat)
    case atStart => exact ⟨0, Nat.zero_le _, rfl, hr0, ht0, hb0, hz0⟩
    case round =>
      obtain ⟨k, hk, rfl, hr, ht, hB, hzz⟩ := hrel
      clear hr0 ht0 hb0 hz0
      by_cases hlt : k < s.size
      · have hget : s.data.toList[k]? = some s[k] := by
          have h' : k < s.data.toList.length := by simpa using hlt
          rw [List.getElem?_eq_getElem h']; rfl
        have hg := HGOOD.out k (by rw [HL.out]; exact hlt)
        have hbx := byteAt_get s k hlt
        have hi : (k : Int) < s.size := by omega
        have hk0 : (0 : Int) ≤ k := by omega
        cases h32 : ((s[k].toNat : Int) == 32)
        · have hne : ((s[k].toNat : Int) != 32) = true := by simp [bne, h32]
          have hn32 : s[k] ≠ 32 := by intro e; rw [e] at h32; simp at h32
          have hcp : cap (s[k].toNat : Int) = true := by
            rcases hg with ⟨h, _⟩ | h
            · rw [← hbx] at h; rw [h] at h32; simp at h32
            · rwa [← hbx] at h
          obtain ⟨h65, h90⟩ := cap_true.1 hcp
          obtain ⟨j, hj⟩ : ∃ j : Nat, s[k].toNat = j + 65 := ⟨s[k].toNat - 65, by omega⟩
          have hj26 : j < 26 := by omega
          obtain ⟨y, hy⟩ : ∃ y, (ctM s.data.toList k).getD j 0 = y := ⟨_, rfl⟩
          have HTS : Hid (ctM s.data.toList (k + 1) = (ctM s.data.toList k).set j (y + 1)) := hide (by rw [ctM_letter hget hn32]; unfold bmp; rw [hj, Nat.add_sub_cancel, hy])
          have c1 : wr.cell? ⟨w.heap.size, j, none⟩ = some (.int .i64 y) := by rw [← hy]; exact rangeAt_cell hr (icc_get (by rw [HML.out]; exact hj26))
          have f1 := (ht j hj26).2
          simp only [Nat.zero_add] at f1
          obtain ⟨v1, v2⟩ := HBD.out k j
          rw [hy] at v1 v2
          have e1 : (s[k].toNat : Int) - 65 = j := by omega
          have hji : (j : Int) < 26 := by omega
          have hj0 : (0 : Int) ≤ j := by omega
          have hwr : IntKind.u8.wrap (j : Int) = j := by simp [IntKind.wrap, IntKind.bits, IntKind.signed]; omega
          have HR := hide hr
          have HTH := hide ht
          clear hget hg hbx hn32 hcp hj hy h32 hr ht
          go_wp2
          refine ⟨⟨k + 1, by omega, by go_num, ?_, there_set HTH.out _ _, hB.setCell (p := ⟨w.heap.size, j, none⟩) (Nat.le_refl _) _, by rw [size_setCell]; exact hzz⟩, by simp [intOf]; omega⟩
          rw [HTS.out, ← icc_set]
          exact rangeAt_set HR.out j _ (by rw [icc_len, HML.out]; exact hj26)
        · have hne : ((s[k].toNat : Int) != 32) = false := by simp [bne, h32]
          have he32 : s[k] = 32 := UInt8.toNat_inj.1 (by have := eq_of_beq h32; show s[k].toNat = 32; omega)
          have HTS : Hid (ctM s.data.toList (k + 1) = ctM s.data.toList k) := hide (ctM_blank hget he32)
          have HR := hide hr
          have HTH := hide ht
          clear hget hg hbx he32 h32 hr ht
          go_wp2
          exact ⟨⟨k + 1, by omega, by go_num, by rw [HTS.out]; exact HR.out, HTH.out, hB, hzz⟩, by simp [intOf]; omega⟩
      · obtain rfl : k = s.size := by omega
        rw [HF.out] at hr
        have HI := hide (ints_of_range (Nat.le_refl _) hzz hr (by rw [HLN.out]; exact ht))
        clear hr ht
        go_wp2
        go_ret2
        exact ⟨_, 26, by rw [HLN.out]; rfl, HI.out, hB⟩
end Go.Proofs.YtnanminbnfgcfaaDoor
