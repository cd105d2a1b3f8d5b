/- Rubbings: their copies in the program's own type, whether they are equal, their dots, and how many are dark, of both. · Rubbings of the program: rows, counts, dots in common. · Rubbings: rows of the model, dots in common of both, matches, and whether one may be worn. -/
import Derived.Test.YtngondeaeipcfaaDoorRbP
import Derived.Test.YtngondeaeipcfaaDoorArrEq
import Derived.LoopTactic
import Derived.Laws.ShiftsVar
import Derived.Lib.BitFns
import Derived.Test.YtngondeaeipcfaaDoorSumG
import Derived.StillTailTactics

namespace Go.Proofs.YtngondeaeipcfaaDoor
open Go Go.RowKit

def prtN (R : List Nat) (k : Nat) : List Nat := R.take k ++ List.replicate (8 - k) 0
theorem prtN_len {R : List Nat} (h : R.length = 8) {k : Nat} (hk : k ≤ 8) : (prtN R k).length = 8 := by simp [prtN, h]; omega
theorem prtN_all {R : List Nat} (h : R.length = 8) : prtN R 8 = R := by simp [prtN, ← h]
theorem prtN_succ {R : List Nat} (h : R.length = 8) {k : Nat} (hk : k < 8) : (prtN R k).set k (R.getD k 0) = prtN R (k + 1) := by
  apply List.ext_getElem
  · rw [List.length_set, prtN_len h (by omega), prtN_len h (by omega)]
  · intro i h1 h2
    have hi : i < 8 := by rw [prtN_len h (by omega)] at h2; exact h2
    simp only [prtN, List.getElem_set, List.getElem_append, List.length_take, List.getElem_take, List.getElem_replicate, h]
    by_cases e : k = i
    · subst e
      have : k < min (k + 1) 8 := by omega
      simp [this, List.getD, h, hk]
    · rw [if_neg e]
      by_cases h3 : i < min k 8
      · have : i < min (k + 1) 8 := by omega
        simp [h3, this]
      · have h4 : ¬ i < min (k + 1) 8 := by omega
        simp [h3, h4]

/-- A rubbing that has come back is laid in a variable. -/
theorem stored_rub (w : World) (R : List Nat) (hW : R.length = 8) : ∃ W5, W5 = (w.alloc (.cells #[.int .u16 0, .int .u16 0, .int .u16 0, .int .u16 0, .int .u16 0, .int .u16 0, .int .u16 0, .int .u16 0] 26)).setCells w.heap.size 0 (rwc R).toArray.toList ∧ W5.rangeAt w.heap.size 0 (rwc R) ∧
    Below w.heap.size w W5 ∧ w.heap.size < W5.heap.size ∧ (w.alloc (.cells #[.int .u16 0, .int .u16 0, .int .u16 0, .int .u16 0, .int .u16 0, .int .u16 0, .int .u16 0, .int .u16 0] 26)).there w.heap.size 0 (rwc R).toArray.size := by
  have t1 : (w.alloc (.cells #[.int .u16 0, .int .u16 0, .int .u16 0, .int .u16 0, .int .u16 0, .int .u16 0, .int .u16 0, .int .u16 0] 26)).there w.heap.size 0 8 := there_newg rfl rfl
  refine ⟨_, rfl, ?_, ?_, ?_, ?_⟩
  · exact World.rangeAt_setCells_same _ _ _ _ (by rw [rwc_length, hW]; exact t1)
  · exact below_setCells _ _ _ _ ((Below.refl _ _).alloc (Nat.le_refl _) _) (Nat.le_refl _)
  · rw [size_setCells]; simp
  · simp only [List.size_toArray]; rw [rwc_length, hW]; exact t1
theorem rub_info {R : List Nat} (h : R.length = 8) : (Tryd.prog.info? 26).map (·.size) = some (rwc R).toArray.size := by simp only [List.size_toArray]; rw [rwc_length, h]; kernel_rfl
theorem rub_info' {R : List Nat} (h : R.length = 8) : (Tryd.prog.info? 26).map (·.size) = some (rwc R).length := by rw [rwc_length, h]; kernel_rfl

/-! The model's dots. -/
set_option maxRecDepth 100000 in
set_option maxHeartbeats 4000000 in
theorem l07Dark_any (R : List Nat) (hR : rok R) (b : Nat) (x y : Int) (w : World) (hr : w.rangeAt b 0 (rwc R)) :
    Calls Tryd.prog 70 #[.pointer (some ⟨b, 0, none⟩), .int .i64 x, .int .i64 y] w fun e w' => e = .returned (.bool (dk R x y)) ∧ w = w' := by
  cases hx : inB x 0 15
  · have HD := hide (dk_offx (R := R) (y := y) hx)
    go_enter Tryd.func70, Tryd.ntmps70
    go_wp2_with (go_at_call 131; refine (l00In_any _ _ _ _).mono ?_; rintro e w' ⟨rfl, rfl⟩; simp only [hx])
    go_ret
    exact ⟨ret_bool HD.out.symm, rfl⟩
  · cases hy : inB y 0 7
    · have HD := hide (dk_offy (R := R) (x := x) hy)
      go_enter Tryd.func70, Tryd.ntmps70
      go_wp2_with (go_at_call 131; refine (l00In_any _ _ _ _).mono ?_; rintro e w' ⟨rfl, rfl⟩; simp only [hx, hy])
      go_ret
      exact ⟨ret_bool HD.out.symm, rfl⟩
    · have HD := hide (dk_at (R := R) hx hy)
      obtain ⟨x1, x2⟩ := inB_true.1 hx
      obtain ⟨y1, y2⟩ := inB_true.1 hy
      obtain ⟨X, rfl⟩ := Int.eq_ofNat_of_zero_le x1
      obtain ⟨Y, rfl⟩ := Int.eq_ofNat_of_zero_le y1
      have hc := rangeAt_cell hr (rwc_get (k := Y) (by rw [hR.1]; omega))
      rw [Int.toNat_natCast, Int.toNat_natCast] at HD
      generalize R.getD Y 0 = n at *
      have HB := hide (bit_tmod n X)
      have hm : min (X : Int).toNat 16 = X := u16_min (by omega)
      have hs := u16_shr n X
      clear hr hR
      go_enter Tryd.func70, Tryd.ntmps70
      go_wp2_with (go_at_call 131; refine (l00In_any _ _ _ _).mono ?_; rintro e w' ⟨rfl, rfl⟩; simp only [hx, hy])
      go_ret
      exact ⟨ret_bool (by rw [HD.out, HB.out]), rfl⟩

set_option maxRecDepth 100000 in
set_option maxHeartbeats 4000000 in
theorem l07Row_any (R : List Nat) (hR : rok R) (b : Nat) (y : Nat) (hy : y < 8) (w : World) (hr : w.rangeAt b 0 (rwc R)) :
    Calls Tryd.prog 132 #[.pointer (some ⟨b, 0, none⟩), .int .i64 y] w fun e w' => e = .returned (.int .i64 (bitN (R.getD y 0) 16)) ∧ w = w' := by
  have HDK := hide (fun x W h => l07Dark_any R hR b x (y : Int) W h)
  have HDI := hide (fun (x : Nat) (hx : x < 16) => dk_in (R := R) hx hy)
  clear hR
  generalize R.getD y 0 = n at *
  have HS := hide (fun k => show bitN n (k + 1) = bitN n k + (n.testBit k).toNat from rfl)
  have HL := hide (bitN_le n)
  go_enter Tryd.func132, Tryd.ntmps132
  go_wp2
  go_loop [5, 6] (fun v i => ∃ k : Nat, k ≤ 16 ∧ i = .int .i64 k ∧ v = .int .i64 (bitN n k)) (fun _ i => 16 - (intOf i).toNat)
  case atStart => exact ⟨0, by omega, rfl, rfl⟩
  case round =>
    obtain ⟨k, hk, rfl, rfl⟩ := hrel
    by_cases hlt : k < 16
    · have HD := hide (HDI.out k hlt)
      have HX := hide (HS.out k)
      have hl := HL.out k
      cases hb : n.testBit k
      · have HE := hide (HD.out.trans hb)
        have HV : Hid (bitN n (k + 1) = bitN n k) := hide (by rw [HX.out, hb]; rfl)
        go_wp2_with (go_at_call 70; refine (HDK.out _ _ hr).mono ?_; rintro e w' ⟨rfl, rfl⟩; rw [HE.out])
        exact ⟨⟨k + 1, by omega, by go_num, by rw [HV.out]⟩, by simp [intOf]; omega⟩
      · have HE := hide (HD.out.trans hb)
        have HV : Hid (bitN n (k + 1) = bitN n k + 1) := hide (by rw [HX.out, hb]; rfl)
        go_wp2_with (go_at_call 70; refine (HDK.out _ _ hr).mono ?_; rintro e w' ⟨rfl, rfl⟩; rw [HE.out])
        exact ⟨⟨k + 1, by omega, by go_num, by rw [HV.out]; rfl⟩, by simp [intOf]; omega⟩
    · obtain rfl : k = 16 := by omega
      go_wp2
      go_ret
      exact ⟨rfl, rfl⟩

set_option maxRecDepth 100000 in
set_option maxHeartbeats 4000000 in
theorem l07Count_any (R : List Nat) (hR : rok R) (b : Nat) (w : World) (hr : w.rangeAt b 0 (rwc R)) :
    Calls Tryd.prog 71 #[.pointer (some ⟨b, 0, none⟩)] w fun e w' => e = .returned (.int .i64 (cntN R 8)) ∧ w = w' := by
  have HRW := hide (fun y hy W h => l07Row_any R hR b y hy W h)
  have HS := hide (fun k => show cntN R (k + 1) = cntN R k + bitN (R.getD k 0) 16 from rfl)
  have HL := hide (cntN_le R)
  have HL2 := hide (fun k => bitN_le (R.getD k 0) 16)
  clear hR
  go_enter Tryd.func71, Tryd.ntmps71
  go_wp2
  go_loop [3, 4] (fun v i => ∃ k : Nat, k ≤ 8 ∧ i = .int .i64 k ∧ v = .int .i64 (cntN R k)) (fun _ i => 8 - (intOf i).toNat)
  case atStart => exact ⟨0, by omega, rfl, rfl⟩
  case round =>
    obtain ⟨k, hk, rfl, rfl⟩ := hrel
    by_cases hlt : k < 8
    · have HX := hide (HS.out k)
      have hl := HL.out k
      have hl2 := HL2.out k
      have HC := hide (HRW.out k hlt w hr)
      generalize bitN (R.getD k 0) 16 = q at *
      go_wp2_with (go_at_call 132; refine HC.out.mono ?_; rintro e w' ⟨rfl, rfl⟩)
      exact ⟨⟨k + 1, by omega, by go_num, by rw [HX.out]; rfl⟩, by simp [intOf]; omega⟩
    · obtain rfl : k = 8 := by omega
      go_wp2
      go_ret
      exact ⟨rfl, rfl⟩

set_option maxHeartbeats 2000000 in
theorem specCountDark_any (R : List Nat) (hR : rok R) (w : World) :
    Calls Tryd.prog 20 #[.agg (rwc R).toArray] w fun e w' => e = .returned (.int .i64 (cntN R 8)) ∧ Below w.heap.size w w' := by
  have hr := rangeAt_new w (rwc R) 26
  have hb : Below w.heap.size w (w.alloc (.cells (rwc R).toArray 26)) := (Below.refl _ _).alloc (Nat.le_refl _) _
  have HC := hide (l07Count_any R hR _ _ hr)
  have HB := hide hb
  clear hb hr hR
  go_enter Tryd.func20, Tryd.ntmps20
  go_wp2_with (go_at_call 71; refine HC.out.mono ?_; rintro e w1 ⟨rfl, rfl⟩)
  go_ret
  exact ⟨rfl, HB.out⟩

/-! The program's rows. -/
theorem pop_bits : ∀ n : Fin 256, Lib.onesCount n.val = bitN n.val 8 := by decide +kernel
theorem bitN_split (n : Nat) : ∀ k, bitN n (8 + k) = bitN (n % 256) 8 + bitN (n / 256) k
  | 0 => by
    show bitN n 8 = bitN (n % 256) 8 + 0
    have h : ∀ j, j ≤ 8 → bitN n j = bitN (n % 256) j := by
      intro j hj
      induction j with
      | zero => rfl
      | succ j ih =>
        rw [bitN, bitN, ih (by omega)]
        have : (n % 256).testBit j = n.testBit j := by
          have := Nat.testBit_mod_two_pow n 8 j
          simp only [Nat.reducePow] at this
          rw [this]; simp; omega
        rw [this]
    exact h 8 (Nat.le_refl _)
  | k + 1 => by
    have ih := bitN_split n k
    rw [show 8 + (k + 1) = (8 + k) + 1 from rfl, show bitN n (8 + k + 1) = bitN n (8 + k) + (n.testBit (8 + k)).toNat from rfl, ih, show bitN (n / 256) (k + 1) = bitN (n / 256) k + ((n / 256).testBit k).toNat from rfl]
    have : (n / 256).testBit k = n.testBit (8 + k) := by
      have := Nat.testBit_shiftRight n (i := 8) (j := k)
      rw [Nat.shiftRight_eq_div_pow] at this
      simpa using this
    rw [this, Nat.add_assoc]
theorem bitN_ones {n : Nat} (h : n < 65536) : (bitN n 16 : Int) = (Lib.onesCount (n / 256) : Int) + (Lib.onesCount (n % 256) : Int) := by
  have e1 := pop_bits ⟨n / 256, by omega⟩
  have e2 := pop_bits ⟨n % 256, by omega⟩
  have e3 := bitN_split n 8
  simp only at e1 e2
  rw [e1, e2, e3]; omega

theorem pop_at {p : Nat} (hp : p < 256) : ∀ h, (Lib.pop8tab[p]'h).toNat = Lib.onesCount p := by
  intro h
  have e := Lib.pop8_eq ⟨p, hp⟩
  simp only [Lib.pop8, Int.toNat_natCast] at e
  rw [getElem?_pos Lib.pop8tab p h, Option.getD_some] at e
  exact_mod_cast e

set_option maxRecDepth 100000 in
set_option maxHeartbeats 4000000 in
theorem onesCount16_any (n : Nat) (hn : n < 65536) (w : World) :
    Calls Tryd.prog 130 #[.int .u16 n] w fun e w' => e = .returned (.int .i64 (bitN n 16)) ∧ Below w.heap.size w w' := by
  have hO := bitN_ones hn
  obtain ⟨p, hp⟩ : ∃ p, n / 256 = p := ⟨_, rfl⟩
  obtain ⟨q, hq⟩ : ∃ q, n % 256 = q := ⟨_, rfl⟩
  have hp1 : p < 256 := by omega
  have hq1 : q < 256 := by omega
  have h1 : (n : Int) / 256 = (p : Int) := by omega
  have h2 : bits .and .u16 (n : Int) 255 = (q : Int) := by
    have e := u16_and_nat n 255 hn (by decide)
    rw [show (255 : Int) = ((255 : Nat) : Int) from rfl, e, nat_mask8, hq]
  have hsz : Lib.pop8tab.size = 256 := Lib.pop8tab_size
  have hp2 : (p : Int) < 256 := by omega
  have hq2 : (q : Int) < 256 := by omega
  have hp0 : (0 : Int) ≤ p := by omega
  have hq0 : (0 : Int) ≤ q := by omega
  rw [hp, hq] at hO
  have HO := hide hO
  have HP := hide (pop_at hp1)
  have HQ := hide (pop_at hq1)
  have l1 := Lib.onesCount_le8 ⟨p, hp1⟩
  have l2 := Lib.onesCount_le8 ⟨q, hq1⟩
  have HL := hide (And.intro l1 l2)
  clear hO hp hq l1 l2
  go_enter Tryd.func130, Tryd.ntmps130
  go_wp2
  go_region
  go_wp2
  go_ret
  refine ⟨ret_int ?_, (Below.refl _ _).drew⟩
  have hl := HL.out
  rw [HP.out, HQ.out, HO.out]
  omega
end Go.Proofs.YtngondeaeipcfaaDoor

namespace Go.Proofs.YtngondeaeipcfaaDoor
open Go Go.RowKit

theorem rw_info {R : List Nat} (h : R.length = 8) : (Tryd.prog.info? 26).map (·.size) = some (rwc R).length := by rw [rwc_length, h]; kernel_rfl
theorem drkT_all (R : List Nat) : drkT R 8 = drkL R := rfl
theorem drk_bd (R : List Nat) : ∀ x ∈ drkL R, 0 ≤ x ∧ x ≤ 10000000 := by
  intro x hx
  obtain ⟨y, _, rfl⟩ := List.mem_map.1 hx
  have := bitN_le (R.getD y 0) 16
  omega
theorem drk_sum (R : List Nat) : ∀ k, k ≤ 8 → sumT (drkL R) k = ((cntN R k : Nat) : Int)
  | 0, _ => rfl
  | k + 1, hk => by
    have e : (drkL R)[k]? = some ((bitN (R.getD k 0) 16 : Nat) : Int) := by
      have : k < 8 := by omega
      simp [drkL, this]
    rw [sumT_succ e, drk_sum R k (by omega), cntN]; omega

set_option maxRecDepth 100000 in
set_option maxHeartbeats 8000000 in
theorem darkRows_any (R : List Nat) (hR : rok R) (w : World) :
    Calls Tryd.prog 69 #[.agg (rwc R).toArray] w (IntsB (drkL R) w) := by
  obtain ⟨i0, hi0, hz0, hz1, hz2⟩ := info_parts Tryd.infoI64
  have HI := hide (rw_info hR.1)
  have HW := hide hR.1
  have HA := hide (rok_at hR)
  have hown0 := World.ownsRow_nil (w.alloc (.cells (rwc R).toArray 26)) (w.heap.size + 1) 2 1
  have hb0 : Below w.heap.size w (w.alloc (.cells (rwc R).toArray 26)) := (Below.refl _ _).alloc (Nat.le_refl _) _
  have r0 := rangeAt_new w (rwc R) 26
  have s0 : (w.alloc (.cells (rwc R).toArray 26)).heap.size = w.heap.size + 1 := by simp
  clear hR
  go_enter Tryd.func69, Tryd.ntmps69
  go_wp2_with (refine wpList_load_mid rfl 26 (.tmp 1) rfl _ 0 rfl (rwc R) _ r0 Tryd.underlying26 rfl HI.out ?_)
  generalize (w.alloc (.cells (rwc R).toArray 26)) = W0 at *
  go_loopw [3, 7] (fun br i wr => ∃ k : Nat, k ≤ 8 ∧ i = .int .i64 k ∧ wr.ownsRow (w.heap.size + 1) 2 1 br k ((drkT R k).map (.int .i64)) ∧ Below W0.heap.size W0 wr)
    (fun _ i _ => 8 - (intOf i).toNat)
  case atStart => exact ⟨0, by omega, rfl, hown0, Below.refl _ _⟩
  case round =>
    obtain ⟨k, hk, rfl, hown, hB⟩ := hrel
    obtain ⟨Ab, cbb, rfl, hcap, _⟩ := cellsIn_of_own hown (by omega)
    have hbs := hB.size
    have HOWN := hide hown
    clear hown
    by_cases hlt : k < 8
    · have hi : (k : Int) < 8 := by omega
      have h0 : (0 : Int) ≤ k := by omega
      have hix := run_index_agg (P := Tryd.prog) (t := 26) (k := k) (cs := (rwc R).toArray) Tryd.underlying26 (fun _ => by kernel_rfl) (fun _ => by kernel_rfl) hlt (by rw [List.getElem?_toArray]; exact rwc_get (k := k) (by rw [HW.out]; exact hlt))
      have HTU := hide (drkT_succ R k)
      have HC := hide (fun W => onesCount16_any (R.getD k 0) (HA.out k) W)
      generalize bitN (R.getD k 0) 16 = q at *
      generalize R.getD k 0 = n at *
      go_wp2_with fail
      refine (HC.out _).mono ?_
      rintro e w1 ⟨rfl, hb1⟩
      have hown3 := own_go HOWN.out hb1
      have hB3 := hB.trans (hb1.mono hbs)
      have hs3 := hB3.size
      clear hb1 HC
      go_wp2_with (at_builtin; refine wpList_append_own _ rfl (.tmp 10) (.tmp 13) 36 rfl (w.heap.size + 1) 2 i0 (.int .i64 0) 1 8 Tryd.underlying36 hi0 hz0 hz1 hz2 rfl (by decide) _ k _ rfl (hown3.alloc _) ⟨w1.heap.size, 0, none⟩ 1 1 [.int .i64 q] rfl rfl (one_cell _) (one_one rfl) ?h1 ?h2 ?h3 ?_)
      case h1 => unfold maxLen; omega
      case h2 => omega
      case h3 => first | omega | (simp; omega) | simp
      intro v' w4 hown4 hg4 _
      obtain ⟨A4, c4, rfl, _, _⟩ := cellsIn_of_own hown4 (by omega)
      have H4 := hide hown4
      have hg34 : w1.grownBy w4 _ := grown_trans (World.grownBy_alloc w1 _ _) hg4
      have hB4 := hB3.trans (grown_toBelow hg34 (by omega) (fun k hk => by have := (hown3.lt k hk).1; omega))
      clear hown4 hg4 hg34
      go_wp2
      refine ⟨⟨k + 1, by omega, by go_num, ?_, hB4⟩, by simp [intOf]; omega⟩
      rw [HTU.out, List.map_append]
      exact H4.out
    · obtain rfl : k = 8 := by omega
      obtain ⟨Ag, cg, e, _, hI⟩ := intsIn_of_own HOWN.out
      injection e with e1 e2 e3
      subst e1 e3
      have HI := hide hI
      clear hI
      go_wp2
      go_ret
      exact ⟨Ab, cbb, by rw [drkL_len]; rfl, by rw [drkL_len]; exact hcap, (drkT_all R ▸ HI.out).wider (by omega), hb0.trans (hB.mono hb0.size)⟩

set_option maxRecDepth 100000 in
set_option maxHeartbeats 4000000 in
theorem countDark_any (R : List Nat) (hR : rok R) (w : World) :
    Calls Tryd.prog 68 #[.agg (rwc R).toArray] w fun e w' => e = .returned (.int .i64 (cntN R 8)) ∧ Below w.heap.size w w' := by
  have HI := hide (rw_info hR.1)
  have hb0 : Below w.heap.size w (w.alloc (.cells (rwc R).toArray 26)) := (Below.refl _ _).alloc (Nat.le_refl _) _
  have r0 := rangeAt_new w (rwc R) 26
  have HD := hide (fun W => darkRows_any R hR W)
  have HS := hide (fun A c W h => sumOfG_any A (drkL R) c W (by rw [drkL_len]; omega) (drk_bd R) h)
  have HE := hide (drk_sum R 8 (Nat.le_refl _))
  have HLN := hide (drkL_len R)
  rw [drkL_len] at HS
  clear hR
  go_enter Tryd.func68, Tryd.ntmps68
  go_wp2_with (refine wpList_load_mid rfl 26 (.tmp 1) rfl _ 0 rfl (rwc R) _ r0 Tryd.underlying26 rfl HI.out ?_)
  refine (HD.out _).mono ?_
  rintro e w1 ⟨Q1, k1, rfl, hk1, hI1, hb1⟩
  rw [HLN.out]
  go_wp2_with (go_at_call 95; refine (HS.out _ _ _ hI1.at_).mono ?_; rintro e w2 ⟨rfl, rfl⟩)
  go_ret
  exact ⟨ret_int HE.out, hb0.trans (hb1.mono hb0.size)⟩

set_option maxRecDepth 100000 in
set_option maxHeartbeats 4000000 in
theorem implCountDark_any (R : List Nat) (hR : rok R) (w : World) :
    Calls Tryd.prog 17 #[.agg (rwc R).toArray] w fun e w' => e = .returned (.int .i64 (cntN R 8)) ∧ Below w.heap.size w w' := by
  have HI := hide (rw_info hR.1)
  have hb0 : Below w.heap.size w (w.alloc (.cells (rwc R).toArray 26)) := (Below.refl _ _).alloc (Nat.le_refl _) _
  have r0 := rangeAt_new w (rwc R) 26
  have HD := hide (fun W => countDark_any R hR W)
  clear hR
  go_enter Tryd.func17, Tryd.ntmps17
  go_wp2_with (refine wpList_load_mid rfl 26 (.tmp 1) rfl _ 0 rfl (rwc R) _ r0 Tryd.underlying26 rfl HI.out ?_)
  refine (HD.out _).mono ?_
  rintro e w1 ⟨rfl, hb1⟩
  go_wp2
  go_ret
  exact ⟨rfl, hb0.trans (hb1.mono hb0.size)⟩
end Go.Proofs.YtngondeaeipcfaaDoor

namespace Go.Proofs.YtngondeaeipcfaaDoor
open Go Go.RowKit

set_option maxRecDepth 100000 in
set_option maxHeartbeats 4000000 in
theorem implDarkRows_any (R : List Nat) (hR : rok R) (w : World) :
    Calls Tryd.prog 18 #[.agg (rwc R).toArray] w (IntsB (drkL R) w) := by
  have HI := hide (rw_info hR.1)
  have hb0 : Below w.heap.size w (w.alloc (.cells (rwc R).toArray 26)) := (Below.refl _ _).alloc (Nat.le_refl _) _
  have r0 := rangeAt_new w (rwc R) 26
  have HD := hide (fun W => darkRows_any R hR W)
  clear hR
  go_enter Tryd.func18, Tryd.ntmps18
  go_wp2_with (refine wpList_load_mid rfl 26 (.tmp 1) rfl _ 0 rfl (rwc R) _ r0 Tryd.underlying26 rfl HI.out ?_)
  refine (HD.out _).mono ?_
  rintro e w1 ⟨Q1, k1, rfl, hk1, hI1, hb1⟩
  go_wp2
  go_ret
  exact ⟨Q1, k1, rfl, hk1, hI1.wider hb0.size, hb0.trans (hb1.mono hb0.size)⟩

/-! dots in common -/
set_option maxRecDepth 100000 in
set_option maxHeartbeats 8000000 in
theorem common_any (R S : List Nat) (hR : rok R) (hS : rok S) (w : World) :
    Calls Tryd.prog 72 #[.agg (rwc R).toArray, .agg (rwc S).toArray] w fun e w' => e = .returned (.agg (rwc (cmnL R S)).toArray) ∧ Below w.heap.size w w' := by
  have HW := hide hR.1
  have HW2 := hide hS.1
  have HX := hide (rok_at hR)
  have HX2 := hide (rok_at hS)
  clear hR hS
  go_enter Tryd.func72, Tryd.ntmps72
  go_wp2
  go_loopw [6] (fun i wr => ∃ k : Nat, k ≤ 8 ∧ i = .int .i64 k ∧ Below w.heap.size w wr ∧ wr.rangeAt w.heap.size 0 (rwc (cmnT R S k)) ∧ wr.there w.heap.size 0 8 ∧ wr.rangeAt (w.heap.size + 1) 0 (rwc S) ∧ wr.there (w.heap.size + 1 + 1) 0 8)
    (fun i _ => 8 - (intOf i).toNat)
  case atStart =>
    refine ⟨0, by omega, rfl, ?_, ?_, ?_, ?_, ?_⟩
    · exact (((Below.refl _ _).alloc (Nat.le_refl _) _).alloc (by simp) _).alloc (by simp only [World.size_alloc]; omega) _
    · rw [cmnT_zero HW.out]; exact World.rangeAt_alloc (World.rangeAt_alloc (rangeAt_new _ _ _) _) _
    · exact World.there_alloc (World.there_alloc (there_newg rfl (by simp [HW.out, rwc_length])) _) _
    · exact World.rangeAt_alloc (rangeAt_newg (by simp) rfl) _
    · exact there_newg (by simp) rfl
  case round =>
    obtain ⟨k, hk, rfl, hB, hr, ht, hr2, ht2⟩ := hrel
    by_cases hlt : k < 8
    · have hc := rangeAt_cell hr (rwc_get (k := k) (by rw [cmnT_len]; exact hlt))
      rw [cmnT_get R S hlt] at hc
      have hc2 := rangeAt_cell hr2 (rwc_get (k := k) (by rw [HW2.out]; exact hlt))
      have hf := (ht k hlt).2
      simp only [Nat.zero_add] at hf
      have hbt := u16_and_nat (R.getD k 0) (S.getD k 0) (HX.out k) (HX2.out k)
      have HCS := hide (cmnT_set R S hlt)
      generalize R.getD k 0 = m at *
      generalize S.getD k 0 = n at *
      have hi : (k : Int) < 8 := by omega
      have h0 : (0 : Int) ≤ k := by omega
      go_wp2
      go_still_tail 8, (by kernel_rfl)
      go_wp2
      refine ⟨⟨k + 1, by omega, by go_num, (hB.setCell (p := ⟨w.heap.size, k, none⟩) (Nat.le_refl _) _).drew, ?_, there_set ht _ _, rangeAt_far hr2 (by show w.heap.size ≠ w.heap.size + 1; omega) _, there_set ht2 _ _⟩, by simp [intOf]; omega⟩
      rw [← HCS.out, ← rwc_set]
      exact rangeAt_set hr k _ (by rw [rwc_length, cmnT_len]; exact hlt)
    · obtain rfl : k = 8 := by omega
      rw [cmnT_all] at hr
      have hi : (rwc (cmnL R S)).length = 8 := by rw [rwc_length]; exact cmnL_len R S
      have HI := hide hi
      clear hi
      go_wp2_with (first
        | (refine wpList_load_mid rfl 26 (.tmp 2) rfl _ 0 rfl (rwc (cmnL R S)) _ hr Tryd.underlying26 rfl (by rw [HI.out]; kernel_rfl) ?_)
        | (refine wpList_store_mid rfl 26 (.tmp 4) (.tmp 18) rfl _ 0 _ rfl rfl (by simpa [HI.out] using ht2) (by simp only [List.size_toArray]; rw [HI.out]; kernel_rfl) (rwc_one _) ?_))
      refine bodyPost_ret (results_mid rfl _ _ (w.heap.size + 1 + 1) 0 (rwc (cmnL R S)) _ rfl (World.rangeAt_setCells_same _ _ _ _ (by rw [HI.out]; exact ht2)) Tryd.underlying26 rfl (by rw [HI.out]; kernel_rfl)) rfl ⟨rfl, ?_⟩
      exact below_setCells _ _ _ _ hB (by omega)

set_option maxRecDepth 100000 in
set_option maxHeartbeats 8000000 in
theorem implMatchOf_any (R : List Nat) (hR : rok R) (R2 : List Nat) (hR2 : rok R2) (w : World) :
    Calls Tryd.prog 21 #[.agg (rwc R).toArray, .agg (rwc R2).toArray] w fun e w' => e = .returned (.int .i64 (mtN R R2)) ∧ Below w.heap.size w w' := by
  have HI := hide (rw_info hR.1)
  have HI2 := hide (rw_info hR2.1)
  have hb0 : Below w.heap.size w ((w.alloc (.cells (rwc R).toArray 26)).alloc (.cells (rwc R2).toArray 26)) := ((Below.refl _ _).alloc (Nat.le_refl _) _).alloc (by simp) _
  have r0 : ((w.alloc (.cells (rwc R).toArray 26)).alloc (.cells (rwc R2).toArray 26)).rangeAt w.heap.size 0 (rwc R) := World.rangeAt_alloc (rangeAt_new _ _ _) _
  have r1 : ((w.alloc (.cells (rwc R).toArray 26)).alloc (.cells (rwc R2).toArray 26)).rangeAt (w.heap.size + 1) 0 (rwc R2) := rangeAt_newg (by simp) rfl
  have HC := hide (fun W => common_any R R2 hR hR2 W)
  have HD := hide (fun W => countDark_any (cmnL R R2) (cmnL_ok hR R2) W)
  have HE := hide (show mtN R R2 = cntN (cmnL R R2) 8 from rfl)
  have HB := hide hb0
  clear hR hR2 hb0
  go_enter Tryd.func21, Tryd.ntmps21
  go_wp2_with (first | (refine wpList_load_mid rfl 26 (.tmp 2) rfl _ 0 rfl (rwc R) _ r0 Tryd.underlying26 rfl HI.out ?_) | (refine wpList_load_mid rfl 26 (.tmp 3) rfl _ 0 rfl (rwc R2) _ r1 Tryd.underlying26 rfl HI2.out ?_))
  refine (HC.out _).mono ?_
  rintro e w1 ⟨rfl, hb1⟩
  go_wp2_with fail
  refine (HD.out _).mono ?_
  rintro e w2 ⟨rfl, hb2⟩
  go_wp2
  go_ret
  exact ⟨ret_int (by rw [HE.out]), HB.out.trans ((hb1.trans (hb2.mono hb1.size)).mono HB.out.size)⟩

set_option maxRecDepth 100000 in
set_option maxHeartbeats 8000000 in
theorem l07Match_any (R S : List Nat) (hR : rok R) (hS : rok S) (b c : Nat) (w : World) (hr : w.rangeAt b 0 (rwc R)) (hr2 : w.rangeAt c 0 (rwc S)) :
    Calls Tryd.prog 73 #[.pointer (some ⟨b, 0, none⟩), .pointer (some ⟨c, 0, none⟩)] w fun e w' => e = .returned (.int .i64 (mtN R S)) ∧ Below w.heap.size w w' := by
  have HW := hide hR.1
  have HW2 := hide hS.1
  have HX := hide (rok_at hR)
  have HX2 := hide (rok_at hS)
  have HC := hide (fun g W h => l07Count_any (cmnL R S) (cmnL_ok hR S) g W h)
  have HE := hide (show mtN R S = cntN (cmnL R S) 8 from rfl)
  clear hR hS
  go_enter Tryd.func73, Tryd.ntmps73
  go_wp2
  go_loopw [6] (fun i wr => ∃ k : Nat, k ≤ 8 ∧ i = .int .i64 k ∧ Below w.heap.size w wr ∧ wr.rangeAt w.heap.size 0 (rwc ((cmnL R S).take k ++ List.replicate (8 - k) 0)) ∧ wr.there w.heap.size 0 8)
    (fun i _ => 8 - (intOf i).toNat)
  case atStart => exact ⟨0, by omega, rfl, (Below.refl _ _).alloc (Nat.le_refl _) _, rangeAt_newg rfl (by simp [rwc]), there_newg rfl rfl⟩
  case round =>
    obtain ⟨k, hk, rfl, hB, hg, ht⟩ := hrel
    by_cases hlt : k < 8
    · have hc0 := rangeAt_cell hr (rwc_get (k := k) (by rw [HW.out]; exact hlt))
      have hc1 := rangeAt_cell hr2 (rwc_get (k := k) (by rw [HW2.out]; exact hlt))
      have hc := (hB.cell (p := ⟨b, k, none⟩) (World.block_lt_of_cell? w _ hc0)).trans hc0
      have hc2 := (hB.cell (p := ⟨c, k, none⟩) (World.block_lt_of_cell? w _ hc1)).trans hc1
      have hf := (ht k hlt).2
      simp only [Nat.zero_add] at hf
      obtain ⟨old, ho⟩ : ∃ old, wr.cell? ⟨w.heap.size, k, none⟩ = some old := ⟨_, rangeAt_cell hg (rwc_get (k := k) (by simp [cmnL]; omega))⟩
      have hbt := u16_and_nat (R.getD k 0) (S.getD k 0) (HX.out k) (HX2.out k)
      have HCS : Hid (((cmnL R S).take k ++ List.replicate (8 - k) 0).set k (R.getD k 0 &&& S.getD k 0) = (cmnL R S).take (k + 1) ++ List.replicate (8 - (k + 1)) 0) := hide (by
        rw [← cmnL_get R S hlt]; exact prtN_succ (cmnL_len R S) hlt)
      generalize R.getD k 0 = m at *
      generalize S.getD k 0 = n at *
      have hi : (k : Int) < 8 := by omega
      have h0 : (0 : Int) ≤ k := by omega
      clear hc0 hc1
      go_wp2
      go_still_tail 13, (by kernel_rfl)
      go_wp2
      refine ⟨⟨k + 1, by omega, by go_num, (hB.setCell (p := ⟨w.heap.size, k, none⟩) (Nat.le_refl _) _).drew, ?_, there_set ht _ _⟩, by simp [intOf]; omega⟩
      rw [← HCS.out, ← rwc_set]
      exact rangeAt_set hg k _ (by rw [rwc_length]; simp [cmnL]; omega)
    · obtain rfl : k = 8 := by omega
      have hg2 : wr.rangeAt w.heap.size 0 (rwc (cmnL R S)) := by
        have e : (cmnL R S).take 8 ++ List.replicate (8 - 8) 0 = cmnL R S := prtN_all (cmnL_len R S)
        rw [e] at hg; exact hg
      clear hg
      go_wp2_with (go_at_call 71; refine (HC.out _ _ hg2).mono ?_; rintro e w1 ⟨rfl, rfl⟩)
      go_ret
      exact ⟨ret_int (by rw [HE.out]), hB⟩

set_option maxRecDepth 100000 in
set_option maxHeartbeats 4000000 in
theorem specMatchOf_any (R : List Nat) (hR : rok R) (R2 : List Nat) (hR2 : rok R2) (w : World) :
    Calls Tryd.prog 22 #[.agg (rwc R).toArray, .agg (rwc R2).toArray] w fun e w' => e = .returned (.int .i64 (mtN R R2)) ∧ Below w.heap.size w w' := by
  have hb0 : Below w.heap.size w ((w.alloc (.cells (rwc R).toArray 26)).alloc (.cells (rwc R2).toArray 26)) := ((Below.refl _ _).alloc (Nat.le_refl _) _).alloc (by simp) _
  have r0 : ((w.alloc (.cells (rwc R).toArray 26)).alloc (.cells (rwc R2).toArray 26)).rangeAt w.heap.size 0 (rwc R) := World.rangeAt_alloc (rangeAt_new _ _ _) _
  have r1 : ((w.alloc (.cells (rwc R).toArray 26)).alloc (.cells (rwc R2).toArray 26)).rangeAt (w.heap.size + 1) 0 (rwc R2) := rangeAt_newg (by simp) rfl
  have HC := hide (l07Match_any R R2 hR hR2 _ _ _ r0 r1)
  have HB := hide hb0
  clear hR hR2 hb0 r0 r1
  go_enter Tryd.func22, Tryd.ntmps22
  go_wp2_with (go_at_call 73; refine HC.out.mono ?_; rintro e w1 ⟨rfl, hb1⟩)
  go_ret
  exact ⟨rfl, HB.out.trans (hb1.mono HB.out.size)⟩

/-! may be worn -/
theorem cast_eq {A B : List Nat} : decide (A.map (fun n : Nat => (n : Int)) = B.map (fun n : Nat => (n : Int))) = decide (A = B) := by
  rw [decide_eq_decide]
  exact List.map_inj_right (fun x y h => by exact_mod_cast h)
theorem rwc_ints (A : List Nat) : rwc A = (A.map (fun n : Nat => (n : Int))).map (Value.int .u16) := by simp [rwc, Function.comp_def]
theorem run_eql_rub (A B : List Nat) (hA : A.length = 8) (hB : B.length = 8) (w : World) :
    (binOp .eql 26 (.agg (rwc A).toArray) (.agg (rwc B).toArray)).run Tryd.prog w = .ok (.bool (decide (A = B))) w := by
  rw [rwc_ints, rwc_ints, ← cast_eq]
  exact run_eql_ints (P := Tryd.prog) (k := .u16) Tryd.underlying26 Tryd.underlying24 (fun _ => by kernel_rfl) _ _ (by simpa using hA) (by simpa using hB) w
theorem andNot_zero {o n : Nat} (ho : o < 65536) (hn : n < 65536) : n &&& (65535 - o) = 0 ↔ o &&& n = n := by
  have e : ∀ j, (65535 - o).testBit j = (decide (j < 16) && !o.testBit j) := fun j => by
    have := Nat.testBit_two_pow_sub_succ (n := 16) (x := o) (by simpa using ho) j
    have e2 : 65535 - o = 2 ^ 16 - (o + 1) := by omega
    rw [e2]; exact this
  constructor
  · intro h
    refine Nat.eq_of_testBit_eq fun j => ?_
    have h1 : (n &&& (65535 - o)).testBit j = false := by rw [h]; simp
    rw [Nat.testBit_and, e] at h1
    rw [Nat.testBit_and]
    by_cases hj : j < 16
    · revert h1; cases n.testBit j <;> cases o.testBit j <;> simp [hj]
    · rw [bit_lt hn (by omega)]; simp
  · intro h
    refine Nat.eq_of_testBit_eq fun j => ?_
    have h1 : (o &&& n).testBit j = n.testBit j := by rw [h]
    rw [Nat.testBit_and] at h1
    rw [Nat.testBit_and, e]
    revert h1; cases n.testBit j <;> cases o.testBit j <;> simp
theorem cmn_same {R S : List Nat} (hS : S.length = 8) (h : ∀ y, y < 8 → R.getD y 0 &&& S.getD y 0 = S.getD y 0) : decide (cmnL R S = S) = true := by
  rw [decide_eq_true_iff]
  apply List.ext_getElem
  · rw [cmnL_len, hS]
  · intro i h1 h2
    have hi : i < 8 := by rw [hS] at h2; exact h2
    have := h i hi
    simp only [cmnL, List.getElem_map, List.getElem_range]
    rw [this, List.getD_eq_getElem?_getD, List.getElem?_eq_getElem h2, Option.getD_some]
theorem cmn_other {R S : List Nat} {y : Nat} (hy : y < 8) (h : ¬ R.getD y 0 &&& S.getD y 0 = S.getD y 0) : decide (cmnL R S = S) = false := by
  rw [decide_eq_false_iff_not]
  intro e
  apply h
  rw [← cmnL_get R S hy, e]

set_option maxRecDepth 100000 in
set_option maxHeartbeats 4000000 in
theorem implMayBeWorn_any (R : List Nat) (hR : rok R) (R2 : List Nat) (hR2 : rok R2) (w : World) :
    Calls Tryd.prog 28 #[.agg (rwc R).toArray, .agg (rwc R2).toArray] w fun e w' => e = .returned (.bool (decide (cmnL R R2 = R2))) ∧ Below w.heap.size w w' := by
  have HI := hide (rw_info hR.1)
  have HI2 := hide (rw_info hR2.1)
  have hb0 : Below w.heap.size w ((w.alloc (.cells (rwc R).toArray 26)).alloc (.cells (rwc R2).toArray 26)) := ((Below.refl _ _).alloc (Nat.le_refl _) _).alloc (by simp) _
  have r0 : ((w.alloc (.cells (rwc R).toArray 26)).alloc (.cells (rwc R2).toArray 26)).rangeAt w.heap.size 0 (rwc R) := World.rangeAt_alloc (rangeAt_new _ _ _) _
  have r1 : ((w.alloc (.cells (rwc R).toArray 26)).alloc (.cells (rwc R2).toArray 26)).rangeAt (w.heap.size + 1) 0 (rwc R2) := rangeAt_newg (by simp) rfl
  have s0 : w.heap.size < ((w.alloc (.cells (rwc R).toArray 26)).alloc (.cells (rwc R2).toArray 26)).heap.size := by simp; omega
  have s1 : w.heap.size + 1 < ((w.alloc (.cells (rwc R).toArray 26)).alloc (.cells (rwc R2).toArray 26)).heap.size := by simp
  have HC := hide (fun W => common_any R R2 hR hR2 W)
  have hq := run_eql_rub (cmnL R R2) R2 (cmnL_len R R2) hR2.1
  have HB := hide hb0
  clear hR hR2 hb0
  go_enter Tryd.func28, Tryd.ntmps28
  go_wp2
  generalize ((w.alloc (.cells (rwc R).toArray 26)).alloc (.cells (rwc R2).toArray 26)) = W0 at *
  have HROW := hide (over_row r0 s0)
  have HROW2 := hide (over_row r1 s1)
  refine wp_region_over (by kernel_rfl) (by kernel_rfl) ?_
  repeat (first | (refine wpQuiet_load_row rfl 26 (.tmp 2) rfl _ 0 rfl _ _ HROW.out Tryd.underlying26 rfl HI.out ?_; simp only [Act.put, List.setIfInBounds_toArray, List.set_cons_zero, List.set_cons_succ]) | (refine wpQuiet_load_row rfl 26 (.tmp 3) rfl _ 0 rfl _ _ HROW2.out Tryd.underlying26 rfl HI2.out ?_; simp only [Act.put, List.setIfInBounds_toArray, List.set_cons_zero, List.set_cons_succ]) | go_big_quiet_step ((go_at_call 72; exact over_call (HC.out _))))
  refine wpQuiet_nil ?_
  intro w1 hb1
  go_wp2
  go_ret
  exact ⟨rfl, HB.out.trans (hb1.mono HB.out.size)⟩
end Go.Proofs.YtngondeaeipcfaaDoor
