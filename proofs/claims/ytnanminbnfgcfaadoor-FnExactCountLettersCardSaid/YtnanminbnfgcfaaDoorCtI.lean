/- CountLetters: the program's. -/
import Derived.Test.YtnanminbnfgcfaaDoorCtS
namespace Go.Proofs.YtnanminbnfgcfaaDoor
open Go Go.RowKit

set_option maxRecDepth 100000 in
set_option maxHeartbeats 8000000 in
theorem implCountLetters_any (s : ByteArray) (hs : s.size ≤ maxLen) (w : World) (hG : Glob w) :
    Calls Tryd.prog 13 #[.string s] w (IntsBack (clR s.data.toList) (clC s.data.toList) w) := by
  have HT := hide (fun W => implValidText_any s W hs)
  unfold maxLen at hs
  cases hv : vtext s.data.toList
  · obtain ⟨e1, e2⟩ := cl_no hv
    rw [e1, e2]
    rw [hv] at HT
    clear hG
    go_enter Tryd.func13, Tryd.ntmps13
    go_wp2_with (go_at_call 33; refine (HT.out _).mono ?_; rintro e w1 ⟨rfl, hb1⟩)
    go_ret2
    exact ⟨_, 0, rfl, IntsIn.empty _ _ _, hb1⟩
  · obtain ⟨e1, e2⟩ := cl_ok hv
    rw [e1, e2]
    rw [hv] at HT
    have hs60 : s.size ≤ 60 := by have := (vtext_true.1 hv).1; simpa using this
    have hcap : ∀ b ∈ lettL s.data.toList, 65 ≤ b.toNat ∧ b.toNat ≤ 90 := fun b hb => lett_cap hv hb
    have HCAP := hide hcap
    have HL := hide (fun W hW => lettersOf_any s W (by omega) hW)
    have HA := hide (ctF_K s.data.toList)
    have HLN := hide (ctF_len s.data.toList)
    have hlen := lettL_len s.data.toList
    have hll : (lettL s.data.toList).length ≤ 60 := by
      have : s.data.toList.length = s.size := by simp
      omega
    have HGW := hide hG
    generalize lettL s.data.toList = M at HL HA hll HCAP
    clear hv hG hlen hs60 hcap e1 e2
    go_enter Tryd.func13, Tryd.ntmps13
    go_wp2_with (go_at_call 33; refine (HT.out _).mono ?_; rintro e w1 ⟨rfl, hb1⟩)
    rw [made26]
    have hr0 := rangeAt_new w1 (icc ct0) 2
    have ht0 : (w1.alloc (.cells (icc ct0).toArray 2)).there w1.heap.size 0 26 := there_newg rfl (by simp [icc, ct0])
    have hb0 : Below w1.heap.size w1 (w1.alloc (.cells (icc ct0).toArray 2)) := (Below.refl _ _).alloc (Nat.le_refl _) _
    have hz0 : w1.heap.size < (w1.alloc (.cells (icc ct0).toArray 2)).heap.size := by simp
    have hB0 := hb1.trans (hb0.mono hb1.size)
    have hzw := hb1.size
    have hG0 := hide (HGW.out.below hB0)
    generalize (w1.alloc (.cells (icc ct0).toArray 2)) = W0 at *
    go_wp2_with fail
    refine (HL.out W0 hG0.out).mono ?_
    rintro e w2 ⟨rfl, hb2⟩
    have hr2 := rangeAt_below hr0 hb2 hz0
    have ht2 : w2.there w1.heap.size 0 26 := there_below ht0 hb2 hz0
    have hB2 := hB0.trans (hb2.mono hB0.size)
    have hz2' := hb2.size
    have hME : (⟨M.toArray⟩ : ByteArray).data.toList = M := rfl
    obtain ⟨W2, c2, hcv, hb3, hcells, hlt2⟩ := bytes_new2 ⟨M.toArray⟩ w2
    have hMS : (⟨M.toArray⟩ : ByteArray).size = M.length := by simp [ByteArray.size]
    rw [hMS] at hcv
    rw [hME] at hcells
    have hB3 := hB2.trans (hb3.mono hB2.size)
    have hr3 := rangeAt_below hr2 hb3 (by omega)
    have ht3 : W2.there w1.heap.size 0 26 := there_below ht2 hb3 (by omega)
    have hsz := hb3.size
    have HCE := hide hcells
    clear hcells hr0 hr2 ht0 ht2 hb1 hb0 hB0 hb2 hB2 hb3 hME hMS hG0 HL HT HGW
    generalize hn : M.length = n at *
    have HN := hide hn
    clear hn
    go_wp2
    go_loopw [15] (fun i wr => ∃ k : Nat, k ≤ n ∧ i = .int .i64 k ∧ wr.rangeAt w1.heap.size 0 (icc (ctK M k)) ∧ wr.there w1.heap.size 0 26 ∧ Below w.heap.size w wr ∧ W2.heap.size ≤ wr.heap.size ∧ (∀ j, j < n → wr.cell? ⟨w2.heap.size, j, none⟩ = some (.int .u8 (byteAt M j))))
      (fun i _ => n - (intOf i).toNat)
    case atStart => exact ⟨0, Nat.zero_le _, rfl, hr3, ht3, hB3, Nat.le_refl _, fun j hj => (HCE.out j (by rw [HN.out]; exact hj)).1⟩
    case round =>
      obtain ⟨k, hk, rfl, hr, ht, hB, hzz, hce⟩ := hrel
      clear hr3 ht3 hB3 hcv
      by_cases hlt : k < n
      · obtain ⟨b, hb⟩ : ∃ b, M[k]? = some b := ⟨M[k]'(by rw [HN.out]; exact hlt), List.getElem?_eq_getElem _⟩
        have hbx : byteAt M k = (b.toNat : Int) := by simp [byteAt, List.getD, hb]
        obtain ⟨h65, h90⟩ := HCAP.out b (List.mem_of_getElem? hb)
        have c0 : wr.cell? ⟨w2.heap.size, k, none⟩ = some (.int .u8 (b.toNat : Int)) := by rw [← hbx]; exact hce k hlt
        have hcp : cap (b.toNat : Int) = true := cap_true.2 (by omega)
        have HI := hide (fun W => index_any (b.toNat : Int) W hcp)
        obtain ⟨j, hj⟩ : ∃ j : Nat, b.toNat = j + 65 := ⟨b.toNat - 65, by omega⟩
        have hj26 : j < 26 := by omega
        obtain ⟨y, hy⟩ : ∃ y, (ctK M k).getD j 0 = y := ⟨_, rfl⟩
        have c1 : wr.cell? ⟨w1.heap.size, j, none⟩ = some (.int .i64 y) := by rw [← hy]; exact rangeAt_cell hr (icc_get (by rw [ctK_len]; exact hj26))
        have f1 := (ht j hj26).2
        simp only [Nat.zero_add] at f1
        have HTS : Hid (ctK M (k + 1) = (ctK M k).set j (y + 1)) := hide (by rw [ctK_succ hb]; unfold bmp; rw [hj, Nat.add_sub_cancel, hy])
        obtain ⟨v1, v2⟩ := ctK_bd M k j
        rw [hy] at v1 v2
        have e1 : (b.toNat : Int) - 65 = j := by omega
        rw [e1] at HI
        generalize (b.toNat : Int) = x at c0 HI
        have hi : (k : Int) < n := by omega
        have hk0 : (0 : Int) ≤ k := by omega
        have hji : (j : Int) < 26 := by omega
        have hj0 : (0 : Int) ≤ j := by omega
        have HR := hide hr
        have HTH := hide ht
        have HCC := hide hce
        clear hb hbx h65 h90 hcp hj e1 hy hr ht hce
        go_wp2_with (go_at_call 42; refine (HI.out _).mono ?_; rintro e w' ⟨rfl, rfl⟩)
        refine ⟨⟨k + 1, by omega, by go_num, ?_, there_set HTH.out _ _, hB.setCell (p := ⟨w1.heap.size, j, none⟩) hzw _, by rw [size_setCell]; exact hzz, fun i hi => ?_⟩, by simp [intOf]; omega⟩
        · rw [HTS.out, ← icc_set]
          exact rangeAt_set HR.out j _ (by rw [icc_len, ctK_len]; exact hj26)
        · rw [World.cell?_setCell_other _ _ _ _ (by intro he; injection he with he _; omega)]
          exact HCC.out i hi
      · obtain rfl : k = n := by omega
        have e : ctK M k = ctF s.data.toList := HA.out
        rw [e] at hr
        have HI := hide (ints_of_range hzw (by omega) hr (by rw [HLN.out]; exact ht))
        clear hr ht hce e
        go_wp2
        go_ret2
        exact ⟨_, 26, by rw [HLN.out]; rfl, HI.out, hB⟩
end Go.Proofs.YtnanminbnfgcfaaDoor
