/- Dots that are dark in some rubbings at least, of the model. -/
import Derived.Test.YtjmkbdghenjlaaaDoorRbH
import Derived.Test.YtjmkbdghenjlaaaDoorCodeOf
namespace Go.Proofs.YtjmkbdghenjlaaaDoor
open Go Go.RowKit

set_option maxRecDepth 100000 in
set_option maxHeartbeats 4000000 in
theorem l07DarkO_any (R : List Nat) (hR : rok R) (b o : Nat) (x y : Int) (w : World) (hr : w.rangeAt b o (rwc R)) :
    Calls Tryd.prog 77 #[.pointer (some ⟨b, o, none⟩), .int .i64 x, .int .i64 y] w fun e w' => e = .returned (.bool (dk R x y)) ∧ w = w' := by
  cases hx : inB x 0 15
  · have HD := hide (dk_offx (R := R) (y := y) hx)
    go_enter Tryd.func77, Tryd.ntmps77
    go_wp2_with (go_at_call 38; refine (l00In_any _ _ _ _).mono ?_; rintro e w' ⟨rfl, rfl⟩; simp only [hx])
    go_ret
    exact ⟨ret_bool HD.out.symm, rfl⟩
  · cases hy : inB y 0 7
    · have HD := hide (dk_offy (R := R) (x := x) hy)
      go_enter Tryd.func77, Tryd.ntmps77
      go_wp2_with (go_at_call 38; refine (l00In_any _ _ _ _).mono ?_; rintro e w' ⟨rfl, rfl⟩; simp only [hx, hy])
      go_ret
      exact ⟨ret_bool HD.out.symm, rfl⟩
    · have HD := hide (dk_at (R := R) hx hy)
      obtain ⟨x1, x2⟩ := inB_true.1 hx
      obtain ⟨y1, y2⟩ := inB_true.1 hy
      obtain ⟨X, rfl⟩ := Int.eq_ofNat_of_zero_le x1
      obtain ⟨Y, rfl⟩ := Int.eq_ofNat_of_zero_le y1
      have hc : w.cell? ⟨b, o + Y, none⟩ = some (.int .u16 ((R.getD Y 0 : Nat) : Int)) := hr Y _ (rwc_get (k := Y) (by rw [hR.1]; omega))
      rw [Int.toNat_natCast, Int.toNat_natCast] at HD
      generalize R.getD Y 0 = n at *
      have HB := hide (bit_tmod n X)
      have hm : min (X : Int).toNat 16 = X := u16_min (by omega)
      have hs := u16_shr n X
      clear hr hR
      go_enter Tryd.func77, Tryd.ntmps77
      go_wp2_with (go_at_call 38; refine (l00In_any _ _ _ _).mono ?_; rintro e w' ⟨rfl, rfl⟩; simp only [hx, hy])
      go_ret
      exact ⟨ret_bool (by rw [HD.out, HB.out]), rfl⟩

set_option maxRecDepth 100000 in
set_option maxHeartbeats 16000000 in
theorem l07Sure_any (A : Option Addr) (Rs : List (List Nat)) (c : Nat) (need : Int) (w : World) (hn : Rs.length ≤ maxLen) (hR : ∀ R ∈ Rs, rok R) (hA : RbsAt w w.heap.size A Rs) :
    Calls Tryd.prog 39 #[.slice A Rs.length c, .int .i64 need] w fun e w' => e = .returned (.agg (rwc (dkIn Rs need)).toArray) ∧ Below w.heap.size w w' := by
  unfold maxLen at hn
  have HDK := hide (fun R (h : R ∈ Rs) b o x y W hr => l07DarkO_any R (hR R h) b o x y W hr)
  have HON := hide (fun x y k R h hb => @cntD_on Rs x y k R h hb)
  have HOF := hide (fun x y k R h hb => @cntD_off Rs x y k R h hb)
  have HLE := hide (fun x y => cntD_le Rs x y)
  have HV := hide (fun x y => show dkB Rs need x y = decide (need ≤ ((cntD Rs x y Rs.length : Nat) : Int)) from rfl)
  have HWS := hide (show dkIn Rs need = rubF (dkB Rs need) from rfl)
  have HA := hide hA
  obtain ⟨n, hN⟩ : ∃ n, Rs.length = n := ⟨_, rfl⟩
  have HN := hide hN
  rw [HWS.out]
  rw [hN] at hn HV ⊢
  generalize dkB Rs need = f at *
  clear hN hA hR HWS
  go_enter Tryd.func39, Tryd.ntmps39
  go_wp2
  go_loopw [6] (fun i wr => ∃ y : Nat, y ≤ 8 ∧ i = .int .i64 y ∧ Below w.heap.size w wr ∧ wr.there w.heap.size 0 8 ∧ wr.rangeAt (w.heap.size + 1) 0 (rwc (rubT f y 0)) ∧ wr.there (w.heap.size + 1) 0 8)
    (fun i _ => 8 - (intOf i).toNat)
  case atStart =>
    refine ⟨0, by omega, rfl, ?_, ?_, ?_, ?_⟩
    · exact ((Below.refl _ _).alloc (Nat.le_refl _) _).alloc (by simp) _
    · exact World.there_alloc (there_newg rfl rfl) _
    · exact rangeAt_newg (by simp) (by simp [rubT_zero, rwc])
    · exact there_newg (by simp) rfl
  case round =>
    obtain ⟨y, hy, rfl, hB, ht1, hr2, ht2⟩ := hrel
    obtain ⟨W1, hW1⟩ : ∃ W1, W1 = wr := ⟨_, rfl⟩
    subst hW1
    by_cases hlt : y < 8
    · have hiy : (y : Int) < 8 := by omega
      have h0y : (0 : Int) ≤ y := by omega
      go_wp2
      go_loopw [7] (fun i wr => ∃ x : Nat, x ≤ 16 ∧ i = .int .i64 x ∧ Below w.heap.size w wr ∧ wr.there w.heap.size 0 8 ∧ wr.rangeAt (w.heap.size + 1) 0 (rwc (rubT f y x)) ∧ wr.there (w.heap.size + 1) 0 8)
        (fun i _ => 16 - (intOf i).toNat)
      case atStart => exact ⟨0, by omega, rfl, hB, ht1, hr2, ht2⟩
      case round =>
        clear hB ht1 hr2 ht2
        obtain ⟨x, hx, rfl, hB, ht1, hr2, ht2⟩ := hrel
        obtain ⟨W2, hW2⟩ : ∃ W2, W2 = wr := ⟨_, rfl⟩
        subst hW2
        by_cases hltx : x < 16
        · have hix : (x : Int) < 16 := by omega
          have h0x : (0 : Int) ≤ x := by omega
          go_wp2
          go_loop [8, 9] (fun v i => ∃ k : Nat, k ≤ n ∧ i = .int .i64 k ∧ v = .int .i64 (cntD Rs x y k)) (fun _ i => n - (intOf i).toNat)
          case atStart => exact ⟨0, by omega, rfl, rfl⟩
          case round =>
            obtain ⟨k, hk, rfl, rfl⟩ := hrel
            have hle := HLE.out x y k
            by_cases hltk : k < n
            · obtain ⟨b, o, rfl, hb, hxs⟩ := HA.out (by intro e; rw [e] at HN; have := HN.out; simp at this; omega)
              obtain ⟨R, hRk⟩ : ∃ R, Rs[k]? = some R := ⟨Rs[k]'(by rw [HN.out]; exact hltk), List.getElem?_eq_getElem _⟩
              have hr := rangeAt_below (hxs k R hRk) hB hb
              have HC := hide (HDK.out R (List.mem_of_getElem? hRk) b (o + k * 8) (x : Int) (y : Int) W2 hr)
              have hki : (k : Int) < n := by omega
              have hk0 : (0 : Int) ≤ k := by omega
              have hdi := dk_in (R := R) hltx hlt
              clear hxs hr
              cases hbt : (R.getD y 0).testBit x
              · have HE := hide (HOF.out x y k R hRk hbt)
                rw [hdi, hbt] at HC
                clear hbt hRk hdi
                generalize cntD Rs x y k = q at *
                go_wp2_with (go_at_call 77; refine HC.out.mono ?_; rintro e w' ⟨rfl, rfl⟩)
                exact ⟨⟨k + 1, by omega, by go_num, by rw [HE.out]⟩, by simp [intOf]; omega⟩
              · have HE := hide (HON.out x y k R hRk hbt)
                rw [hdi, hbt] at HC
                clear hbt hRk hdi
                generalize cntD Rs x y k = q at *
                have hwq := IntWalk.i64_in ((q : Int) + 1) ⟨by omega, by omega⟩
                go_wp2_with (go_at_call 77; refine HC.out.mono ?_; rintro e w' ⟨rfl, rfl⟩)
                exact ⟨⟨k + 1, by omega, by go_num, by rw [HE.out]; rfl⟩, by simp [intOf]; omega⟩
            · obtain rfl : k = n := by omega
              have HVV := hide (HV.out x y)
              have hc := rangeAt_cell hr2 (rwc_get (k := y) (by rw [rubT_len]; exact hlt))
              rw [rubT_get f hlt] at hc
              have hf2 := (ht2 y hlt).2
              simp only [Nat.zero_add] at hf2
              have hmin : min (x : Int).toNat 16 = x := u16_min (by omega)
              have HOR := hide (u16_orbit (rowF_lt16 (fun x => f x y) hx) hltx)
              have HSE := hide (fun h => @rubT_set f y x hlt h)
              have HOE := hide (fun h => @rubT_off f y x h)
              cases hg : decide (need ≤ ((cntD Rs x y k : Nat) : Int))
              · have HO := hide (HOE.out (HVV.out.trans hg))
                generalize cntD Rs x y k = q at *
                go_wp2
                exact ⟨⟨x + 1, by omega, by go_num, hB, ht1, by rw [HO.out]; exact hr2, ht2⟩, by simp [intOf]; omega⟩
              · have HS := hide (HSE.out (HVV.out.trans hg))
                generalize cntD Rs x y k = q at *
                generalize rowF (fun x => f x y) x = m at *
                go_wp2
                refine ⟨⟨x + 1, by omega, by go_num, hB.setCell (p := ⟨w.heap.size + 1, y, none⟩) (by show w.heap.size ≤ w.heap.size + 1; omega) _, there_set ht1 _ _, ?_, there_set ht2 _ _⟩, by simp [intOf]; omega⟩
                rw [HOR.out, ← HS.out, ← rwc_set]
                exact rangeAt_set hr2 y _ (by rw [rwc_length, rubT_len]; exact hlt)
        · obtain rfl : x = 16 := by omega
          rw [rubT_next] at hr2
          go_wp2
          exact ⟨⟨y + 1, by omega, by go_num, hB, ht1, hr2, ht2⟩, by simp [intOf]; omega⟩
    · obtain rfl : y = 8 := by omega
      rw [rubT_all] at hr2
      have hi : (rwc (rubF f)).length = 8 := by rw [rwc_length]; exact rubF_len f
      have HI := hide hi
      clear hi
      go_wp2_with (first
        | (refine wpList_load_mid rfl 26 (.tmp 5) rfl _ 0 rfl (rwc (rubF f)) _ hr2 Tryd.underlying26 rfl (by rw [HI.out]; kernel_rfl) ?_)
        | (refine wpList_store_mid rfl 26 (.tmp 4) (.tmp 45) rfl _ 0 _ rfl rfl (by simpa [HI.out] using ht1) (by simp only [List.size_toArray]; rw [HI.out]; kernel_rfl) (rwc_one _) ?_))
      refine bodyPost_ret (results_mid rfl _ _ w.heap.size 0 (rwc (rubF f)) _ rfl (World.rangeAt_setCells_same _ _ _ _ (by rw [HI.out]; exact ht1)) Tryd.underlying26 rfl (by rw [HI.out]; kernel_rfl)) rfl ⟨rfl, ?_⟩
      exact below_setCells _ _ _ _ hB (Nat.le_refl _)
end Go.Proofs.YtjmkbdghenjlaaaDoor
