/- Rubbings of the program: rows, counts, dots in common. -/
import Derived.Test.YtjmkbdghenjlaaaRbA
import Derived.Test.YtjmkbdghenjlaaaSumG
namespace Go.Proofs.Ytjmkbdghenjlaaa
open Go Go.RowKit

theorem rw_info {R : List Nat} (h : R.length = 8) : (Try.prog.info? 26).map (·.size) = some (rwc R).length := by rw [rwc_length, h]; kernel_rfl
theorem drkT_all (R : List Nat) : drkT R 8 = drkL R := rfl
theorem drk_bd (R : List Nat) : ∀ x ∈ drkL R, 0 ≤ x ∧ x ≤ 10000000 := by
  intro x hx
  obtain ⟨y, _, rfl⟩ := List.mem_map.1 hx
  have := bitN_le (R.getD y 0) 16
  omega
theorem drk_sum (R : List Nat) : ∀ k, k ≤ 8 → sumT (drkL R) k = ((cntN R k : Nat) : Int)
  | 0, _ => rfl
  | k + 1, hk => by
    have e : (drkL R)[k]? = some ((bitN (R.getD k 0) 16 : Nat) : Int) := by
      have : k < 8 := by omega
      simp [drkL, this]
    rw [sumT_succ e, drk_sum R k (by omega), cntN]; omega

set_option maxRecDepth 100000 in
set_option maxHeartbeats 8000000 in
theorem darkRows_any (R : List Nat) (hR : rok R) (w : World) :
    Calls Try.prog 42 #[.agg (rwc R).toArray] w (IntsB (drkL R) w) := by
  obtain ⟨i0, hi0, hz0, hz1, hz2⟩ := info_parts Try.infoI64
  have HI := hide (rw_info hR.1)
  have HW := hide hR.1
  have HA := hide (rok_at hR)
  have hown0 := World.ownsRow_nil (w.alloc (.cells (rwc R).toArray 26)) (w.heap.size + 1) 2 1
  have hb0 : Below w.heap.size w (w.alloc (.cells (rwc R).toArray 26)) := (Below.refl _ _).alloc (Nat.le_refl _) _
  have r0 := rangeAt_new w (rwc R) 26
  have s0 : (w.alloc (.cells (rwc R).toArray 26)).heap.size = w.heap.size + 1 := by simp
  clear hR
  go_enter Try.func42, Try.ntmps42
  go_wp2_with (refine wpList_load_mid rfl 26 (.tmp 1) rfl _ 0 rfl (rwc R) _ r0 Try.underlying26 rfl HI.out ?_)
  generalize (w.alloc (.cells (rwc R).toArray 26)) = W0 at *
  go_loopw [3, 7] (fun br i wr => ∃ k : Nat, k ≤ 8 ∧ i = .int .i64 k ∧ wr.ownsRow (w.heap.size + 1) 2 1 br k ((drkT R k).map (.int .i64)) ∧ Below W0.heap.size W0 wr)
    (fun _ i _ => 8 - (intOf i).toNat)
  case atStart => exact ⟨0, by omega, rfl, hown0, Below.refl _ _⟩
  case round =>
    obtain ⟨k, hk, rfl, hown, hB⟩ := hrel
    obtain ⟨Ab, cbb, rfl, hcap, _⟩ := cellsIn_of_own hown (by omega)
    have hbs := hB.size
    have HOWN := hide hown
    clear hown
    by_cases hlt : k < 8
    · have hi : (k : Int) < 8 := by omega
      have h0 : (0 : Int) ≤ k := by omega
      have hix := run_index_agg (P := Try.prog) (t := 26) (k := k) (cs := (rwc R).toArray) Try.underlying26 (fun _ => by kernel_rfl) (fun _ => by kernel_rfl) hlt (by rw [List.getElem?_toArray]; exact rwc_get (k := k) (by rw [HW.out]; exact hlt))
      have HTU := hide (drkT_succ R k)
      have HC := hide (fun W => onesCount16_any (R.getD k 0) (HA.out k) W)
      generalize bitN (R.getD k 0) 16 = q at *
      generalize R.getD k 0 = n at *
      go_wp2_with fail
      refine (HC.out _).mono ?_
      rintro e w1 ⟨rfl, hb1⟩
      have hown3 := own_go HOWN.out hb1
      have hB3 := hB.trans (hb1.mono hbs)
      have hs3 := hB3.size
      clear hb1 HC
      go_wp2_with (at_builtin; refine wpList_append_own _ rfl (.tmp 10) (.tmp 13) 79 rfl (w.heap.size + 1) 2 i0 (.int .i64 0) 1 8 Try.underlying79 hi0 hz0 hz1 hz2 rfl (by decide) _ k _ rfl (hown3.alloc _) ⟨w1.heap.size, 0, none⟩ 1 1 [.int .i64 q] rfl rfl (one_cell _) (one_one rfl) ?h1 ?h2 ?h3 ?_)
      case h1 => unfold maxLen; omega
      case h2 => omega
      case h3 => first | omega | (simp; omega) | simp
      intro v' w4 hown4 hg4 _
      obtain ⟨A4, c4, rfl, _, _⟩ := cellsIn_of_own hown4 (by omega)
      have H4 := hide hown4
      have hg34 : w1.grownBy w4 _ := grown_trans (World.grownBy_alloc w1 _ _) hg4
      have hB4 := hB3.trans (grown_toBelow hg34 (by omega) (fun k hk => by have := (hown3.lt k hk).1; omega))
      clear hown4 hg4 hg34
      go_wp2
      refine ⟨⟨k + 1, by omega, by go_num, ?_, hB4⟩, by simp [intOf]; omega⟩
      rw [HTU.out, List.map_append]
      exact H4.out
    · obtain rfl : k = 8 := by omega
      obtain ⟨Ag, cg, e, _, hI⟩ := intsIn_of_own HOWN.out
      injection e with e1 e2 e3
      subst e1 e3
      have HI := hide hI
      clear hI
      go_wp2
      go_ret
      exact ⟨Ab, cbb, by rw [drkL_len]; rfl, by rw [drkL_len]; exact hcap, (drkT_all R ▸ HI.out).wider (by omega), hb0.trans (hB.mono hb0.size)⟩

set_option maxRecDepth 100000 in
set_option maxHeartbeats 4000000 in
theorem countDark_any (R : List Nat) (hR : rok R) (w : World) :
    Calls Try.prog 31 #[.agg (rwc R).toArray] w fun e w' => e = .returned (.int .i64 (cntN R 8)) ∧ Below w.heap.size w w' := by
  have HI := hide (rw_info hR.1)
  have hb0 : Below w.heap.size w (w.alloc (.cells (rwc R).toArray 26)) := (Below.refl _ _).alloc (Nat.le_refl _) _
  have r0 := rangeAt_new w (rwc R) 26
  have HD := hide (fun W => darkRows_any R hR W)
  have HS := hide (fun A c W h => sumOfG_any A (drkL R) c W (by rw [drkL_len]; omega) (drk_bd R) h)
  have HE := hide (drk_sum R 8 (Nat.le_refl _))
  have HLN := hide (drkL_len R)
  rw [drkL_len] at HS
  clear hR
  go_enter Try.func31, Try.ntmps31
  go_wp2_with (refine wpList_load_mid rfl 26 (.tmp 1) rfl _ 0 rfl (rwc R) _ r0 Try.underlying26 rfl HI.out ?_)
  refine (HD.out _).mono ?_
  rintro e w1 ⟨Q1, k1, rfl, hk1, hI1, hb1⟩
  rw [HLN.out]
  go_wp2_with (go_at_call 41; refine (HS.out _ _ _ hI1.at_).mono ?_; rintro e w2 ⟨rfl, rfl⟩)
  go_ret
  exact ⟨ret_int HE.out, hb0.trans (hb1.mono hb0.size)⟩

end Go.Proofs.Ytjmkbdghenjlaaa
