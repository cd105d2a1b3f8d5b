/- A rubbing that is read from its text, of the program: the only one that can have it. -/
import Derived.Test.YtjmkbdghenjlaaaRdA
import Derived.Test.YtjmkbdghenjlaaaRtI
import Derived.Shelf.Abstract
namespace Go.Proofs.Ytjmkbdghenjlaaa
open Go Go.RowKit

set_option maxRecDepth 100000 in
set_option maxHeartbeats 4000000 in
theorem likely1_any (s : ByteArray) (hs : s.size ≤ 1048576) (b : Nat) (x y : Nat) (hx : x < 16) (hy : y < 8) (w : World) (hb : w.cell? ⟨b, 0, none⟩ = some (.string s)) :
    Calls Try.prog 48 #[.int .i64 x, .int .i64 y, .pointer (some ⟨b, 0, none⟩)] w fun e w' => e = .returned (.bool (rdF s.data.toList x y)) ∧ Below w.heap.size w w' := by
  have hw1 := IntWalk.i64_in ((y : Int) * 17) ⟨by omega, by omega⟩
  have hw2 := IntWalk.i64_in ((y : Int) * 17 + x) ⟨by omega, by omega⟩
  have h0 : (0 : Int) ≤ (y : Int) * 17 + x := by omega
  obtain ⟨k, hk⟩ : ∃ k : Nat, y * 17 + x = k := ⟨_, rfl⟩
  have hki : (y : Int) * 17 + x = (k : Int) := by omega
  have HF : Hid (rdF s.data.toList x y = (s.data.toList[k]? == some 35)) := hide (by unfold rdF; rw [hk])
  rw [hki] at hw2 h0
  by_cases hlt : k < s.size
  · have hd : decide ((k : Int) < s.size) = true := by simpa using hlt
    have hd' : (k : Int) < s.size := by omega
    have hv : s.data.toList[k]? = some s[k] := by rw [List.getElem?_eq_getElem (by simpa using hlt)]; rfl
    have HV := hide hv
    by_cases h35 : s[k] = 35
    · have hq : ((s[k].toNat : Int) == 35) = true := by rw [h35]; rfl
      have HR : Hid (rdF s.data.toList x y = true) := hide (by rw [HF.out, HV.out, h35]; rfl)
      clear hv h35 hk HF HV
      go_enter Try.func48, Try.ntmps48
      go_wp2
      go_ret
      exact ⟨ret_bool HR.out.symm, Below.refl _ _⟩
    · have hq : ((s[k].toNat : Int) == 35) = false := by
        cases hq : ((s[k].toNat : Int) == 35)
        · rfl
        · exact absurd (UInt8.toNat_inj.1 (by have : (s[k].toNat : Int) = 35 := by simpa using hq
                                              show s[k].toNat = 35; omega)) h35
      have HR : Hid (rdF s.data.toList x y = false) := hide (by rw [HF.out, HV.out]; simpa using h35)
      clear hv h35 hk HF HV
      go_enter Try.func48, Try.ntmps48
      go_wp2
      go_ret
      first | exact ⟨ret_bool HR.out.symm, Below.refl _ _⟩ | exact ⟨ret_bool (hq.trans HR.out.symm), Below.refl _ _⟩
  · have hd : decide ((k : Int) < s.size) = false := by simp; omega
    have HR : Hid (rdF s.data.toList x y = false) := hide (by
      rw [HF.out, List.getElem?_eq_none (by simpa using hlt)]; rfl)
    have hd2 : decide (k < s.size) = false := by simpa using hlt
    clear hk HF
    go_enter Try.func48, Try.ntmps48
    go_wp2
    all_goals first | (exfalso; omega) | (go_ret; exact ⟨ret_bool HR.out.symm, Below.refl _ _⟩)

set_option maxRecDepth 100000 in
set_option maxHeartbeats 4000000 in
theorem likelyRubbing_any (s : ByteArray) (hs : s.size ≤ 1048576) (w : World) :
    Calls Try.prog 39 #[.string s] w fun e w' => e = .returned (.agg (rwc (rdR s.data.toList)).toArray) ∧ Below w.heap.size w w' := by
  obtain ⟨W0, hW0⟩ : ∃ W0, W0 = (w.alloc (.cells #[.string s] 9)).alloc (.cells #[.int .u16 0, .int .u16 0, .int .u16 0, .int .u16 0, .int .u16 0, .int .u16 0, .int .u16 0, .int .u16 0] 26) := ⟨_, rfl⟩
  have b0 : Below w.heap.size w W0 := by rw [hW0]; exact ((Below.refl _ _).alloc (Nat.le_refl _) _).alloc (by simp) _
  have s0 : W0.heap.size = w.heap.size + 2 := by rw [hW0]; simp
  have c0 : W0.cell? ⟨w.heap.size, 0, none⟩ = some (.string s) := by rw [hW0]; exact World.rangeAt_alloc (rangeAt_new' w #[.string s] 9) _ 0 _ rfl
  have t0 : W0.there (w.heap.size + 1) 0 8 := by rw [hW0]; exact there_newg (by simp) rfl
  have HRO := hide (rubbingOf_any 48 (enters_of Try.func48 (by kernel_rfl) rfl) #[.pointer (some ⟨w.heap.size, 0, none⟩)] (rdF s.data.toList) W0 (fun x y hx hy W hW => likely1_any s hs w.heap.size x y hx hy W ((hW.cell (p := ⟨w.heap.size, 0, none⟩) (by show w.heap.size < W0.heap.size; omega)).trans c0)))
  have HW0 := hide hW0
  have HOK := hide (show rok (rdR s.data.toList) from rubF_ok _)
  clear hW0 c0
  change Hid (Calls _ _ _ _ fun e w' => e = .returned (.agg (rwc (rdR s.data.toList)).toArray) ∧ _) at HRO
  generalize rdR s.data.toList = R at *
  go_enter Try.func39, Try.ntmps39
  repeat (first | (rw [← HW0.out]) | go_step)
  refine HRO.out.mono ?_
  rintro e w1 ⟨rfl, hb1⟩
  have ht1 := there_below t0 hb1 (by omega)
  have ht : w1.there (w.heap.size + 1) 0 (rwc R).toArray.size := by simp only [List.size_toArray]; rw [rwc_length, HOK.out.1]; exact ht1
  have hB := b0.trans (hb1.mono b0.size)
  clear hb1 t0 ht1
  go_wp2_with (refine wpList_store_mid rfl 26 (.tmp 2) (.tmp 4) rfl (w.heap.size + 1) 0 (rwc R).toArray rfl rfl ht (rub_info HOK.out.1) (rwc_one _) ?_)
  refine bodyPost_ret (results_mid rfl _ _ (w.heap.size + 1) 0 (rwc R) _ rfl (World.rangeAt_setCells_same _ _ _ _ ht) Try.underlying26 rfl (rub_info' HOK.out.1)) rfl ⟨rfl, ?_⟩
  exact below_setCells _ _ _ _ hB (by omega)
end Go.Proofs.Ytjmkbdghenjlaaa
