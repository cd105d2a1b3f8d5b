/- Strokes and chisels: their copies in the program's own types, and whether they are as they have to be. -/
import Derived.Test.YtngondeaeipcfaaDoorChP
import Derived.Test.YtngondeaeipcfaaDoorArrEq
import Derived.LoopTactic
namespace Go.Proofs.YtngondeaeipcfaaDoor
open Go.RowKit

set_option maxHeartbeats 1000000 in
theorem toStrokes_any (S : List Int) (hS : S.length = 26) (w : World) :
    Calls Tryd.prog 48 #[.agg (wc S).toArray] w fun e w' => e = .returned (.agg (wc S).toArray) ∧ Below w.heap.size w w' := by
  have HW := hide hS
  clear hS
  go_enter Tryd.func48, Tryd.ntmps48
  go_wp2
  go_loopw [4] (fun i wr => ∃ k : Nat, k ≤ 26 ∧ i = .int .i64 k ∧ Below w.heap.size w wr ∧ wr.rangeAt w.heap.size 0 (wc S) ∧ wr.there (w.heap.size + 1) 0 26 ∧ wr.rangeAt (w.heap.size + 1 + 1) 0 (wc (part S k)) ∧ wr.there (w.heap.size + 1 + 1) 0 26)
    (fun i _ => 26 - (intOf i).toNat)
  case atStart =>
    refine ⟨0, by omega, rfl, ?_, ?_, ?_, ?_, ?_⟩
    · exact (((Below.refl _ _).alloc (Nat.le_refl _) _).alloc (by simp) _).alloc (by simp only [World.size_alloc]; omega) _
    · exact World.rangeAt_alloc (World.rangeAt_alloc (rangeAt_new _ _ _) _) _
    · exact World.there_alloc (there_newg (by simp) rfl) _
    · exact rangeAt_newg (by simp) (by simp [part, wc])
    · exact there_newg (by simp) rfl
  case round =>
    obtain ⟨k, hk, rfl, hB, hr, ht1, hr2, ht2⟩ := hrel
    by_cases hlt : k < 26
    · have hc := rangeAt_cell hr (wc_get (by rw [HW.out]; exact hlt))
      have hc2 := rangeAt_cell hr2 (wc_get (k := k) (by rw [part_len HW.out hk]; exact hlt))
      have hf2 := (ht2 k hlt).2
      simp only [Nat.zero_add] at hf2
      go_wp2
      refine ⟨⟨k + 1, by omega, by go_num, hB.setCell (p := ⟨w.heap.size + 1 + 1, k, none⟩) (by show w.heap.size ≤ w.heap.size + 1 + 1; omega) _, rangeAt_far hr (by show w.heap.size + 1 + 1 ≠ w.heap.size; omega) _, there_set ht1 _ _, ?_, there_set ht2 _ _⟩, by simp [intOf]; omega⟩
      rw [← part_succ HW.out hlt, ← wc_set]
      exact rangeAt_set hr2 k _ (by rw [wc_length, part_len HW.out hk]; exact hlt)
    · obtain rfl : k = 26 := by omega
      rw [part_all HW.out] at hr2
      have hi : (wc S).length = 26 := by rw [wc_length]; exact HW.out
      have HI := hide hi
      clear hi
      go_wp2_with (first
        | (refine wpList_load_mid rfl 80 (.tmp 3) rfl _ 0 rfl (wc S) _ hr2 Tryd.underlying80 rfl (by rw [HI.out]; kernel_rfl) ?_)
        | (refine wpList_store_mid rfl 80 (.tmp 2) (.tmp 14) rfl _ 0 _ rfl rfl (by simpa [HI.out] using ht1) (by simp only [List.size_toArray]; rw [HI.out]; kernel_rfl) (wc_one S) ?_))
      refine bodyPost_ret (results_mid rfl _ _ (w.heap.size + 1) 0 (wc S) _ rfl (World.rangeAt_setCells_same _ _ _ _ (by rw [HI.out]; exact ht1)) Tryd.underlying80 rfl (by rw [HI.out]; kernel_rfl)) rfl ⟨rfl, ?_⟩
      exact below_setCells _ _ _ _ hB (by omega)

set_option maxHeartbeats 1000000 in
theorem toChisel_any (a b : Int) (w : World) :
    Calls Tryd.prog 49 #[.agg #[.int .i16 a, .int .i8 b]] w fun e w' => e = .returned (.agg #[.int .i16 a, .int .i8 b]) ∧ Below w.heap.size w w' := by
  go_enter Tryd.func49, Tryd.ntmps49
  go_wp2
  exact bodyPost_ret (v := .agg #[.int .i16 a, .int .i8 b]) (by simp [results, Tryd.results49, go_sem]) rfl ⟨rfl, (((Below.refl _ _).alloc (Nat.le_refl _) _).alloc (by simp) _).alloc (by simp only [World.size_alloc]; omega) _⟩

/-- The model: strokes at an address. -/
theorem wc_at {S : List Int} (hx : ∀ x ∈ S, i8ok x) (k : Nat) : -128 ≤ S.getD k 0 ∧ S.getD k 0 ≤ 127 := by
  by_cases h : k < S.length
  · rw [List.getD_eq_getElem?_getD, List.getElem?_eq_getElem h, Option.getD_some]; exact hx _ (List.getElem_mem h)
  · rw [List.getD_eq_getElem?_getD, List.getElem?_eq_none (by omega)]; exact ⟨by decide, by decide⟩
set_option maxRecDepth 100000 in
set_option maxHeartbeats 2000000 in
theorem l05Strokes_any (S : List Int) (hS : S.length = 26) (hx : ∀ x ∈ S, i8ok x) (b : Nat) (w : World) (hr : w.rangeAt b 0 (wc S)) :
    Calls Tryd.prog 155 #[.pointer (some ⟨b, 0, none⟩)] w fun e w' => e = .returned (.bool (vstr S)) ∧ w = w' := by
  have HW := hide hS
  have HX := hide hx
  clear hx
  generalize hR : vstr S = R
  have HS := hide hR
  clear hR hS
  go_enter Tryd.func155, Tryd.ntmps155
  go_wp2
  go_loop [3] (fun i => ∃ k : Nat, k ≤ 26 ∧ i = .int .i64 k ∧ Hid (∀ j, j < k → inB (S.getD j 0) 1 30 = true)) (fun i => 26 - (intOf i).toNat)
  case atStart => exact ⟨0, by omega, rfl, hide (fun j hj => by omega)⟩
  case round =>
    obtain ⟨k, hk, rfl, hall⟩ := hrel
    by_cases hlt : k < 26
    · have hc := rangeAt_cell hr (wc_get (k := k) (by rw [HW.out]; exact hlt))
      have hi : (k : Int) < 26 := by omega
      have h0 : (0 : Int) ≤ k := by omega
      obtain ⟨wk1, wk2⟩ := wc_at HX.out k
      obtain ⟨x, hxx⟩ : ∃ x, S.getD k 0 = x := ⟨_, rfl⟩
      have HXX := hide hxx
      rw [hxx] at hc wk1 wk2
      clear hxx
      cases hv : inB x 1 30
      · go_wp2_with (go_at_call 131; refine (l00In_any _ _ _ _).mono ?_; rintro e w' ⟨rfl, rfl⟩; simp only [hv])
        go_ret
        exact ⟨ret_bool (by rw [← HS.out]; exact (vstr_false HW.out hlt (by rw [HXX.out]; exact hv)).symm), rfl⟩
      · go_wp2_with (go_at_call 131; refine (l00In_any _ _ _ _).mono ?_; rintro e w' ⟨rfl, rfl⟩; simp only [hv])
        exact ⟨⟨k + 1, by omega, by go_num, hide (fun j hj => by
          by_cases e : j = k
          · subst e; rw [HXX.out]; exact hv
          · exact hall.out j (by omega))⟩, by simp [intOf]; omega⟩
    · obtain rfl : k = 26 := by omega
      have HA := hide (vstr_true HW.out hall.out)
      clear hall
      go_wp2
      go_ret
      exact ⟨ret_bool (by rw [← HS.out, HA.out]), rfl⟩

set_option maxHeartbeats 2000000 in
theorem l05Chisel_any (h p : Int) (hh : -32768 ≤ h ∧ h ≤ 32767) (hp : i8ok p) (b : Nat) (w : World) (hr : w.rangeAt b 0 [.int .i16 h, .int .i8 p]) :
    Calls Tryd.prog 156 #[.pointer (some ⟨b, 0, none⟩)] w fun e w' => e = .returned (.bool (vchi h p)) ∧ w = w' := by
  have c0 := rangeAt_cell (k := 0) hr rfl
  have c1 := rangeAt_cell (k := 1) hr rfl
  obtain ⟨h1, h2⟩ := hh
  obtain ⟨p1, p2⟩ := hp
  have HV := hide (show vchi h p = (inB h 30 1000 && inB p 0 100) from rfl)
  clear hr
  cases hv : inB h 30 1000
  · go_enter Tryd.func156, Tryd.ntmps156
    go_wp2_with (go_at_call 131; refine (l00In_any _ _ _ _).mono ?_; rintro e w' ⟨rfl, rfl⟩; simp only [hv])
    go_ret
    exact ⟨ret_bool (by rw [HV.out, hv]; rfl), rfl⟩
  · cases hv2 : inB p 0 100
    · go_enter Tryd.func156, Tryd.ntmps156
      go_wp2_with (go_at_call 131; refine (l00In_any _ _ _ _).mono ?_; rintro e w' ⟨rfl, rfl⟩; simp only [hv, hv2])
      go_ret
      exact ⟨ret_bool (by rw [HV.out, hv, hv2]; rfl), rfl⟩
    · go_enter Tryd.func156, Tryd.ntmps156
      go_wp2_with (go_at_call 131; refine (l00In_any _ _ _ _).mono ?_; rintro e w' ⟨rfl, rfl⟩; simp only [hv, hv2])
      go_ret
      exact ⟨ret_bool (by rw [HV.out, hv, hv2]; rfl), rfl⟩

set_option maxHeartbeats 2000000 in
theorem implValidChisel_any (h : Int) (hh : -32768 ≤ h ∧ h ≤ 32767) (p : Int) (hp : i8ok p) (w : World) :
    Calls Tryd.prog 162 #[.agg #[.int .i16 h, .int .i8 p]] w fun e w' => e = .returned (.bool (vchi h p)) ∧ Below w.heap.size w w' := by
  obtain ⟨h1, h2⟩ := hh
  obtain ⟨p1, p2⟩ := hp
  have hb : Below w.heap.size w (w.alloc (.cells #[.int .i16 h, .int .i8 p] 82)) := (Below.refl _ _).alloc (Nat.le_refl _) _
  have HB := hide hb
  have HV := hide (show vchi h p = (inB h 30 1000 && inB p 0 100) from rfl)
  clear hb
  cases hv : inB h 30 1000
  · go_enter Tryd.func162, Tryd.ntmps162
    go_wp2_with (go_at_call 124; refine (between_any _ _ _ _).mono ?_; rintro e w' ⟨rfl, rfl⟩; simp only [hv])
    go_ret
    exact ⟨ret_bool (by rw [HV.out, hv]; rfl), HB.out⟩
  · cases hv2 : inB p 0 100
    · go_enter Tryd.func162, Tryd.ntmps162
      go_wp2_with (go_at_call 124; refine (between_any _ _ _ _).mono ?_; rintro e w' ⟨rfl, rfl⟩; simp only [hv, hv2])
      go_ret
      exact ⟨ret_bool (by rw [HV.out, hv, hv2]; rfl), HB.out⟩
    · go_enter Tryd.func162, Tryd.ntmps162
      go_wp2_with (go_at_call 124; refine (between_any _ _ _ _).mono ?_; rintro e w' ⟨rfl, rfl⟩; simp only [hv, hv2])
      go_ret
      exact ⟨ret_bool (by rw [HV.out, hv, hv2]; rfl), HB.out⟩
end Go.Proofs.YtngondeaeipcfaaDoor
