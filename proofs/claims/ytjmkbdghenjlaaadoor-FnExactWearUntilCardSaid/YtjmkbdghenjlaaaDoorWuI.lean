/- WearUntil of the program. -/
import Derived.Test.YtjmkbdghenjlaaaDoorWuK
import Derived.Test.YtjmkbdghenjlaaaDoorErrT
namespace Go.Proofs.YtjmkbdghenjlaaaDoor
open Go Go.RowKit
open Go.Maps (Keyed IsMap Tidy)

theorem grown_setCells {w0 : World} (b : Nat) : ∀ (vs : List Value) (o : Nat) (w : World), w0.grownBy w (some b) → w0.grownBy (w.setCells b o vs) (some b)
  | [], _, _, h => h
  | v :: vs, o, w, h => by
    unfold World.setCells
    exact grown_setCells b vs _ _ (grown_set h o v)
/-- What stands after k rounds, L the ones that have been seen. -/
def wuS (R : List Nat) (need bound : Int) (k : Nat) (T : List Nat) (L : List (List Nat)) : Prop :=
  (T ∉ L ∧ k + cntN T 8 ≤ 128 ∧ (∀ X ∈ L, cntN T 8 < cntN X 8) ∧ wuG need bound T k = wuG need bound R 0) ∨ (T ∈ L ∧ k ≤ 128 ∧ bound < ((cntN T 8 : Nat) : Int) ∧ wuG need bound R 0 = (0, 6))
theorem wuS_zero (R : List Nat) (need bound : Int) : wuS R need bound 0 R [] := .inl ⟨by simp, by have := cntN_le R 8; omega, by simp, rfl⟩
theorem wuS_k {R : List Nat} {need bound : Int} {k : Nat} {T : List Nat} {L : List (List Nat)} (h : wuS R need bound k T L) : k ≤ 128 := by
  rcases h with ⟨_, h, _⟩ | ⟨_, h, _⟩ <;> omega
theorem wuS_few {R : List Nat} {need bound : Int} {k : Nat} {T : List Nat} {L : List (List Nat)} (h : wuS R need bound k T L) (hc : ((cntN T 8 : Nat) : Int) ≤ bound) : wuG need bound R 0 = ((k : Int), 0) := by
  rcases h with ⟨_, _, _, h⟩ | ⟨_, _, h, _⟩
  · rw [← h]; exact wuG_few _ hc
  · omega
theorem wuS_seen {R : List Nat} {need bound : Int} {k : Nat} {T : List Nat} {L : List (List Nat)} (h : wuS R need bound k T L) (hm : T ∈ L) : wuG need bound R 0 = (0, 6) := by
  rcases h with ⟨h, _⟩ | ⟨_, _, _, h⟩
  · exact absurd hm h
  · exact h
theorem wuS_on {R : List Nat} {need bound : Int} {k : Nat} {T : List Nat} {L : List (List Nat)} (hT : rok T) (hb : 0 ≤ bound) (h : wuS R need bound k T L) (hc : ¬ ((cntN T 8 : Nat) : Int) ≤ bound) (hm : T ∉ L) : wuS R need bound (k + 1) (wsR T need) (T :: L) ∧ k < 128 := by
  rcases h with ⟨_, h1, h2, h3⟩ | ⟨h, _⟩
  · refine ⟨?_, by omega⟩
    by_cases e : wsR T need = T
    · rw [wuG_stays _ hc e] at h3
      rw [e]
      exact .inr ⟨by simp, by omega, by omega, h3.symm⟩
    · have hl := ws_less hT need e
      rw [wuG_on hT _ hc e] at h3
      refine .inl ⟨fun hx => ?_, by omega, fun X hX => ?_, h3⟩
      · rcases List.mem_cons.1 hx with hx | hx
        · exact e hx
        · have := h2 _ hx; omega
      · rcases List.mem_cons.1 hX with rfl | hX
        · exact hl
        · have := h2 _ hX; omega
  · exact absurd h hm
theorem SMap.made (w : World) : SMap (w.alloc (.map #[] 0)) w.heap.size 0 [] := ⟨.map [], World.ownsMap_made w Tryd.prog 26 (plainElem (H := Unit) Tryd.prog 4), Maps.tidy_empty, fun T _ => by simp [DataW.atKey]⟩
theorem SMap.store {w : World} {B N : Nat} {L : List (List Nat)} (h : SMap w B N L) {b : Nat} (hne : b ≠ B) (o : Nat) (vs : List Value) : SMap (w.setCells b o vs) B N L := by
  obtain ⟨D, h1, h2, h3⟩ := h
  exact ⟨D, World.ownsMap.kept h1 (grown_setCells b vs o w (grown_refl w (some b))) (fun e => hne (by injection e with e; exact e.symm)), h2, h3⟩

set_option maxRecDepth 100000 in
set_option maxHeartbeats 8000000 in
theorem implWearUntil_ok (R : List Nat) (hR : rok R) (need bound : Int) (w : World) (hg : ErrT w) (h1 : inB need 0 8 = true) (h2 : inB bound 0 9223372036854775807 = true) :
    Calls Tryd.prog 17 #[.agg (rwc R).toArray, .int .i64 need, .int .i64 bound] w fun e w' => e = .returned (.tuple #[.int .i64 (wuG need bound R 0).1, .int .i64 (wuG need bound R 0).2]) ∧ Below w.heap.size w w' := by
  have hmm := @run_makeMap Tryd.prog
  have hbd : 0 ≤ bound := (inB_true.1 h2).1
  have r0 : (w.alloc (.cells (rwc R).toArray 26)).rangeAt w.heap.size 0 (rwc R) := rangeAt_new _ _ _
  have t0 : (w.alloc (.cells (rwc R).toArray 26)).there w.heap.size 0 8 := there_newg rfl (by simp [rwc_length, hR.1])
  have hb0 : Below w.heap.size w (w.alloc (.cells (rwc R).toArray 26)) := (Below.refl _ _).alloc (Nat.le_refl _) _
  have s0 : w.heap.size < (w.alloc (.cells (rwc R).toArray 26)).heap.size := by simp
  have hg0 := hg.below hb0
  have HCD := hide (show erC [Er.none, Er.none] = 0 from rfl)
  clear hg
  go_enter Tryd.func17, Tryd.ntmps17
  go_wp2_with fail
  generalize (w.alloc (.cells (rwc R).toArray 26)) = W0 at *
  refine (rangeError_in need 0 8 h1 _).mono ?_
  rintro e w' ⟨rfl, rfl⟩
  go_wp2_with fail
  refine (rangeError_in bound 0 9223372036854775807 h2 _).mono ?_
  rintro e w' ⟨rfl, rfl⟩
  go_wp2_with fail
  have hb2 : Below W0.heap.size W0 (W0.alloc (.cells #[.nilIface, .nilIface] 77)) := (Below.refl _ _).alloc (Nat.le_refl _) _
  have HC := hide (codeOf_any (some ⟨W0.heap.size, 0, none⟩) [Er.none, Er.none] 2 (W0.alloc (.cells #[.nilIface, .nilIface] 77)) (by simp) (ersAt_new2 Er.none Er.none) (hg0.below hb2))
  rw [HCD.out] at HC
  refine HC.out.mono ?_
  rintro e w1 ⟨rfl, hb1⟩
  have hB1 := hb2.trans (hb1.mono hb2.size)
  have hr1 := rangeAt_below r0 hB1 s0
  have ht1 := there_below t0 hB1 s0
  have hBB := hb0.trans (hB1.mono hb0.size)
  have hz1 : w.heap.size < w1.heap.size := by have := hB1.size; omega
  clear hb2 HC hg0 r0 t0 hB1 hb1 HCD hb0 s0
  go_wp2
  go_loopw [9] (fun i wr => ∃ (k : Nat) (T : List Nat) (L : List (List Nat)), i = .int .i64 k ∧ rok T ∧ Hid (wuS R need bound k T L) ∧ SMap wr w1.heap.size k L ∧ Below w.heap.size w wr ∧ w1.heap.size < wr.heap.size ∧ wr.there w.heap.size 0 8 ∧ wr.rangeAt w.heap.size 0 (rwc T))
    (fun i _ => 130 - (intOf i).toNat)
  case atStart => exact ⟨0, R, [], rfl, hR, hide (wuS_zero R need bound), SMap.made w1, hBB.alloc (by omega) _, by simp, World.there_alloc ht1 _, World.rangeAt_alloc hr1 _⟩
  case round =>
    obtain ⟨k, T, L, rfl, hT, HS, hM, hB, hsz, ht, hr⟩ := hrel
    have HCN := hide (fun W => countDark_any T hT W)
    have HWE := hide (fun W => worn_any T hT need W)
    rw [wo_same hT] at HWE
    have HLT := hide hT.1
    have HI := hide (rub_info' hT.1)
    clear hr1 ht1 hBB hR
    go_wp2_with (refine wpList_load_mid rfl 26 (.tmp 3) rfl w.heap.size 0 rfl (rwc T) _ hr Tryd.underlying26 rfl HI.out ?_)
    refine (HCN.out _).mono ?_
    rintro e w2 ⟨rfl, hb2⟩
    have hB2 := hB.trans (hb2.mono hB.size)
    have hs2 := hb2.size
    have ht2 := there_below ht hb2 (by omega)
    have hr2 := rangeAt_below hr hb2 (by omega)
    have hM2 := hM.go hb2
    have hz2 : w1.heap.size < w2.heap.size := by omega
    have hne : w.heap.size ≠ w1.heap.size := by omega
    clear hb2 ht hr hM hB hs2 hsz HCN
    by_cases hc : ((cntN T 8 : Nat) : Int) ≤ bound
    · have e1 := hide (wuS_few HS.out hc)
      clear hM2 ht2 hr2 HS HWE
      have hc' : ¬ bound < ((cntN T 8 : Nat) : Int) := by omega
      go_wp2
      go_ret2
      exact ⟨by rw [e1.out]; rfl, hB2⟩
    · have hc' : bound < ((cntN T 8 : Nat) : Int) := by omega
      have hlk := hM2.look hT
      by_cases hm : T ∈ L
      · have e1 := hide (wuS_seen HS.out hm)
        have hdm : decide (T ∈ L) = true := by simpa using hm
        rw [hdm] at hlk
        clear hM2 ht2 HS HWE hm hdm
        go_wp2_with (refine wpList_load_mid rfl 26 (.tmp 3) rfl w.heap.size 0 rfl (rwc T) _ hr2 Tryd.underlying26 rfl HI.out ?_)
        go_ret2
        exact ⟨by rw [e1.out]; rfl, hB2⟩
      · have hdm : decide (T ∈ L) = false := by simpa using hm
        rw [hdm] at hlk
        have HN := hide (wuS_on hT hbd HS.out hc hm)
        have HLS := hide (wsR_ok T need)
        obtain ⟨D, hown, hD2, hD3⟩ := hM2
        have HAT := hide (at_seen hD2 hT hD3)
        have HTI := hide (hD2)
        have hkey := kR_of hT
        have hkk := wuS_k HS.out
        clear hdm hm hD2 hD3 HS
        generalize wsR T need = S at *
        go_wp2_with (first | (refine wpList_load_mid rfl 26 (.tmp 3) rfl w.heap.size 0 rfl (rwc T) _ hr2 Tryd.underlying26 rfl HI.out ?_) | (at_mapUpdate; refine wpList_mapUpdate_own _ rfl _ _ _ 84 rfl 26 4 rubKeyed Tryd.underlying84 _ w1.heap.size k _ rfl hown (by unfold maxLen; omega) _ _ _ rfl rfl hkey _ [] (plainElem_bool Tryd.underlying4 true) ?_))
        intro w3 hown3 hgrow3
        have hM3 : SMap w3 w1.heap.size (k + 1) (T :: L) := ⟨_, hown3, World.ownsMap.tidy hown3 rubKeyed, HAT.out⟩
        have hn2 : some w.heap.size ≠ some w1.heap.size := fun e => hne (by injection e)
        have hr3 := grown_row hgrow3 hr2 (by omega) hn2
        have ht3 := grown_there hgrow3 ht2 (by omega) hn2
        have hB3 := hB2.trans (grown_toBelow hgrow3 hB2.size (fun j hj => by cases hj; omega))
        have hs3 := hgrow3.size
        clear hown3 hgrow3 hown hr2 ht2 hB2 hkey HAT HTI hlk hn2
        go_wp2_with (refine wpList_load_mid rfl 26 (.tmp 3) rfl w.heap.size 0 rfl (rwc T) _ hr3 Tryd.underlying26 rfl HI.out ?_)
        refine (HWE.out _).mono ?_
        rintro e w4 ⟨rfl, hb4⟩
        have hB4 := hB3.trans (hb4.mono hB3.size)
        have hs4 := hb4.size
        have t4 : w4.there w.heap.size 0 (rwc S).toArray.size := by simp only [List.size_toArray]; rw [rwc_length, HLS.out.1]; exact there_below ht3 hb4 (by omega)
        have t5 := there_below ht3 hb4 (by omega)
        have hM4 := hM3.go hb4
        have hz4 : w1.heap.size < w4.heap.size := by omega
        clear hb4 hr3 ht3 hB3 hM3 hs3 hs4 HWE
        go_wp2_with (refine wpList_store_mid rfl 26 (.tmp 3) (.tmp 32) rfl w.heap.size 0 (rwc S).toArray rfl rfl t4 (rub_info HLS.out.1) (rwc_one _) ?_; simp only [List.toList_toArray])
        exact ⟨⟨k + 1, S, T :: L, by go_num, HLS.out, hide HN.out.1, hM4.store hne _ _, below_setCells _ _ _ _ hB4 (Nat.le_refl _), by rw [size_setCells]; exact hz4, World.there_setCells t5 _ _ _, World.rangeAt_setCells_same _ _ _ _ (by simpa using t4)⟩, by simp [intOf]; omega⟩
set_option maxRecDepth 100000 in
set_option maxHeartbeats 8000000 in
theorem implWearUntil_no1 (R : List Nat) (hR : R.length = 8) (need bound : Int) (w : World) (hg : ErrT w) (h1 : inB need 0 8 = false) (h2 : inB bound 0 9223372036854775807 = true) :
    Calls Tryd.prog 17 #[.agg (rwc R).toArray, .int .i64 need, .int .i64 bound] w fun e w' => e = .returned (.tuple #[.int .i64 0, .int .i64 2]) ∧ Below w.heap.size w w' := by
  have hb0 : Below w.heap.size w (w.alloc (.cells (rwc R).toArray 26)) := (Below.refl _ _).alloc (Nat.le_refl _) _
  have hg0 := hg.below hb0
  have HCD := hide (show erC [Er.R need, Er.none] = 2 from rfl)
  clear hg hR
  go_enter Tryd.func17, Tryd.ntmps17
  go_wp2_with fail
  generalize (w.alloc (.cells (rwc R).toArray 26)) = W0 at *
  refine (rangeError_out need 0 8 h1 _).mono ?_
  rintro e w' ⟨rfl, rfl⟩
  go_wp2_with fail
  refine (rangeError_in bound 0 9223372036854775807 h2 _).mono ?_
  rintro e w' ⟨rfl, rfl⟩
  go_wp2_with fail
  have hb2 : Below W0.heap.size W0 (W0.alloc (.cells #[.iface 130 (.int .i64 need), .nilIface] 77)) := (Below.refl _ _).alloc (Nat.le_refl _) _
  have HC := hide (codeOf_any (some ⟨W0.heap.size, 0, none⟩) [Er.R need, Er.none] 2 (W0.alloc (.cells #[.iface 130 (.int .i64 need), .nilIface] 77)) (by simp) (ersAt_new2 (Er.R need) (Er.none)) (hg0.below hb2))
  rw [HCD.out] at HC
  refine HC.out.mono ?_
  rintro e w1 ⟨rfl, hb1⟩
  have hBB := hb0.trans ((hb2.trans (hb1.mono hb2.size)).mono hb0.size)
  clear hb2 HC hg0 hb1 HCD hb0
  go_wp2
  go_ret2
  exact ⟨rfl, hBB⟩

set_option maxRecDepth 100000 in
set_option maxHeartbeats 8000000 in
theorem implWearUntil_no2 (R : List Nat) (hR : R.length = 8) (need bound : Int) (w : World) (hg : ErrT w) (h1 : inB need 0 8 = false) (h2 : inB bound 0 9223372036854775807 = false) :
    Calls Tryd.prog 17 #[.agg (rwc R).toArray, .int .i64 need, .int .i64 bound] w fun e w' => e = .returned (.tuple #[.int .i64 0, .int .i64 2]) ∧ Below w.heap.size w w' := by
  have hb0 : Below w.heap.size w (w.alloc (.cells (rwc R).toArray 26)) := (Below.refl _ _).alloc (Nat.le_refl _) _
  have hg0 := hg.below hb0
  have HCD := hide (show erC [Er.R need, Er.R bound] = 2 from rfl)
  clear hg hR
  go_enter Tryd.func17, Tryd.ntmps17
  go_wp2_with fail
  generalize (w.alloc (.cells (rwc R).toArray 26)) = W0 at *
  refine (rangeError_out need 0 8 h1 _).mono ?_
  rintro e w' ⟨rfl, rfl⟩
  go_wp2_with fail
  refine (rangeError_out bound 0 9223372036854775807 h2 _).mono ?_
  rintro e w' ⟨rfl, rfl⟩
  go_wp2_with fail
  have hb2 : Below W0.heap.size W0 (W0.alloc (.cells #[.iface 130 (.int .i64 need), .iface 130 (.int .i64 bound)] 77)) := (Below.refl _ _).alloc (Nat.le_refl _) _
  have HC := hide (codeOf_any (some ⟨W0.heap.size, 0, none⟩) [Er.R need, Er.R bound] 2 (W0.alloc (.cells #[.iface 130 (.int .i64 need), .iface 130 (.int .i64 bound)] 77)) (by simp) (ersAt_new2 (Er.R need) (Er.R bound)) (hg0.below hb2))
  rw [HCD.out] at HC
  refine HC.out.mono ?_
  rintro e w1 ⟨rfl, hb1⟩
  have hBB := hb0.trans ((hb2.trans (hb1.mono hb2.size)).mono hb0.size)
  clear hb2 HC hg0 hb1 HCD hb0
  go_wp2
  go_ret2
  exact ⟨rfl, hBB⟩

set_option maxRecDepth 100000 in
set_option maxHeartbeats 8000000 in
theorem implWearUntil_no3 (R : List Nat) (hR : R.length = 8) (need bound : Int) (w : World) (hg : ErrT w) (h1 : inB need 0 8 = true) (h2 : inB bound 0 9223372036854775807 = false) :
    Calls Tryd.prog 17 #[.agg (rwc R).toArray, .int .i64 need, .int .i64 bound] w fun e w' => e = .returned (.tuple #[.int .i64 0, .int .i64 2]) ∧ Below w.heap.size w w' := by
  have hb0 : Below w.heap.size w (w.alloc (.cells (rwc R).toArray 26)) := (Below.refl _ _).alloc (Nat.le_refl _) _
  have hg0 := hg.below hb0
  have HCD := hide (show erC [Er.none, Er.R bound] = 2 from rfl)
  clear hg hR
  go_enter Tryd.func17, Tryd.ntmps17
  go_wp2_with fail
  generalize (w.alloc (.cells (rwc R).toArray 26)) = W0 at *
  refine (rangeError_in need 0 8 h1 _).mono ?_
  rintro e w' ⟨rfl, rfl⟩
  go_wp2_with fail
  refine (rangeError_out bound 0 9223372036854775807 h2 _).mono ?_
  rintro e w' ⟨rfl, rfl⟩
  go_wp2_with fail
  have hb2 : Below W0.heap.size W0 (W0.alloc (.cells #[.nilIface, .iface 130 (.int .i64 bound)] 77)) := (Below.refl _ _).alloc (Nat.le_refl _) _
  have HC := hide (codeOf_any (some ⟨W0.heap.size, 0, none⟩) [Er.none, Er.R bound] 2 (W0.alloc (.cells #[.nilIface, .iface 130 (.int .i64 bound)] 77)) (by simp) (ersAt_new2 (Er.none) (Er.R bound)) (hg0.below hb2))
  rw [HCD.out] at HC
  refine HC.out.mono ?_
  rintro e w1 ⟨rfl, hb1⟩
  have hBB := hb0.trans ((hb2.trans (hb1.mono hb2.size)).mono hb0.size)
  clear hb2 HC hg0 hb1 HCD hb0
  go_wp2
  go_ret2
  exact ⟨rfl, hBB⟩

theorem implWearUntil_all (R : List Nat) (hR : rok R) (need bound : Int) (hx : bound ≤ 9223372036854775807) (w : World) (hg : ErrT w) :
    Calls Tryd.prog 17 #[.agg (rwc R).toArray, .int .i64 need, .int .i64 bound] w fun e w' => e = .returned (.tuple #[.int .i64 (wuT R need bound), .int .i64 (wuC R need bound)]) ∧ Below w.heap.size w w' := by
  cases h1 : inB need 0 8 <;> cases h2 : inB bound 0 9223372036854775807
  · rw [(wu_no (by rw [h1]; rfl) R).1, (wu_no (by rw [h1]; rfl) R).2]; exact implWearUntil_no2 R hR.1 need bound w hg h1 h2
  · rw [(wu_no (by rw [h1]; rfl) R).1, (wu_no (by rw [h1]; rfl) R).2]; exact implWearUntil_no1 R hR.1 need bound w hg h1 h2
  · have h3 : bound < 0 := by
      rcases Int.lt_or_le bound 0 with h | h
      · exact h
      · rw [inB_true.2 ⟨h, hx⟩] at h2; cases h2
    have h4 : (inB need 0 8 && !decide (bound < 0)) = false := by rw [h1]; simpa using h3
    rw [(wu_no h4 R).1, (wu_no h4 R).2]; exact implWearUntil_no3 R hR.1 need bound w hg h1 h2
  · have h3 := (inB_true.1 h2).1
    have h4 : (inB need 0 8 && !decide (bound < 0)) = true := by rw [h1]; simp; omega
    rw [(wu_yes h4 R).1, (wu_yes h4 R).2]; exact implWearUntil_ok R hR need bound w hg h1 h2
end Go.Proofs.YtjmkbdghenjlaaaDoor
