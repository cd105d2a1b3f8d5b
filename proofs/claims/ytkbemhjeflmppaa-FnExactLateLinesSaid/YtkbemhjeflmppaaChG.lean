/- LateLines, of both. -/
import Derived.Test.YtkbemhjeflmppaaChF
namespace Go.Proofs.Ytkbemhjeflmppaa
open Go Go.RowKit

set_option maxRecDepth 100000 in
set_option maxHeartbeats 4000000 in
theorem indicesI_any (A : Option Addr) (n c : Nat) (w : World) (hn : n ≤ 1048576) :
    Calls Try.prog 70 #[.slice A n c] w (IntsB (idxL n) w) := by
  obtain ⟨i0, hi0, hz0, hz1, hz2⟩ := info_parts Try.infoI64
  have hmk := fun W => run_make_rowN (P := Try.prog) 35 2 i0 _ Try.underlying35 hi0 hz0 .i64 .i64 n n (Nat.le_refl _) (by rw [hz2]; omega) (by omega) W
  go_enter Try.func70, Try.ntmps70
  go_wp2
  go_loopw [10] (fun i wr => ∃ k : Nat, k ≤ n ∧ i = .int .i64 k ∧ Below w.heap.size w wr ∧ w.heap.size < wr.heap.size ∧ wr.there w.heap.size 0 n ∧ (∀ j, j < k → wr.cell? ⟨w.heap.size, j, none⟩ = some (.int .i64 (j : Int))))
    (fun i _ => n - (intOf i).toNat)
  case atStart =>
    exact ⟨0, by omega, rfl, (Below.refl _ _).alloc (Nat.le_refl _) _, by simp, there_newg rfl (by simp [madeCells, hz1]), fun j hj => by omega⟩
  case round =>
    obtain ⟨k, hk, rfl, hB, hsz, ht, hr⟩ := hrel
    by_cases hlt : k < n
    · obtain ⟨v0, hv0, hf0⟩ := there_some ht (j := k) hlt
      simp only [Nat.zero_add] at hv0 hf0
      have hi : (k : Int) < n := by omega
      have h0 : (0 : Int) ≤ k := by omega
      have HR := hide hr
      clear hr hmk
      go_wp2
      refine ⟨⟨k + 1, by omega, by go_num, hB.setCell (p := ⟨w.heap.size, k, none⟩) (Nat.le_refl _) _, by rw [size_setCell]; exact hsz, there_set ht _ _, fun j hj => ?_⟩, by simp [intOf]; omega⟩
      by_cases e : j = k
      · subst e; exact World.cell?_setCell_same' _ _ _ (by rw [hv0]; rfl)
      · rw [World.cell?_setCell_other _ _ _ _ (by intro he; injection he with _ he; exact e he.symm)]
        exact HR.out j (by omega)
    · obtain rfl : k = n := by omega
      have hI : IntsIn wr w.heap.size (some ⟨w.heap.size, 0, none⟩) (idxL k) := fun _ => ⟨w.heap.size, 0, rfl, Nat.le_refl _, hsz, fun j x hx => by
        have hj := (List.getElem?_eq_some_iff.1 hx).1
        rw [idxL_len] at hj
        rw [idxL_get hj] at hx
        injection hx with hx
        rw [Nat.zero_add, ← hx]
        exact hr j hj, by rw [idxL_len]; exact ht⟩
      have HI := hide hI
      have HIL := hide (idxL_len k)
      clear hr ht hI
      go_wp2
      go_ret
      exact ⟨_, k, by rw [HIL.out]; rfl, by rw [HIL.out]; omega, HI.out, hB⟩

set_option maxRecDepth 100000 in
set_option maxHeartbeats 4000000 in
theorem l05Rising_any (n : Nat) (w : World) (hn : n ≤ 60) :
    Calls Try.prog 67 #[.int .i64 n] w (IntsB (idxL n) w) := by
  obtain ⟨i0, hi0, hz0, hz1, hz2⟩ := info_parts Try.infoI64
  go_enter Try.func67, Try.ntmps67
  go_wp2
  go_loopw [3, 4] (fun br i wr => ∃ k : Nat, k ≤ n ∧ i = .int .i64 k ∧ wr.ownsRow w.heap.size 2 1 br k ((idxL k).map (.int .i64)) ∧ Below w.heap.size w wr)
    (fun _ i _ => n - (intOf i).toNat)
  case atStart => exact ⟨0, Nat.zero_le _, rfl, World.ownsRow_made w _ 0 (Nat.le_refl _) (by unfold maxLen; omega) rfl, (Below.refl _ _).alloc (Nat.le_refl _) _⟩
  case round =>
    obtain ⟨k, hk, rfl, hown, hB⟩ := hrel
    obtain ⟨Ab, cbb, rfl, hcap, _⟩ := cellsIn_of_own hown (by omega)
    have hbs := hB.size
    have HOWN := hide hown
    have HTU := hide (idxL_succ k)
    clear hown
    by_cases hlt : k < n
    · have hi : (k : Int) < n := by omega
      go_wp2_with (at_builtin; refine wpList_append_own _ rfl (.tmp 11) (.tmp 13) 35 rfl w.heap.size 2 i0 (.int .i64 0) 1 8 Try.underlying35 hi0 hz0 hz1 hz2 rfl (by decide) _ k _ rfl (HOWN.out.alloc _) ⟨wr.heap.size, 0, none⟩ 1 1 [.int .i64 (k : Int)] rfl rfl (one_cell _) (one_one rfl) ?h1 ?h2 ?h3 ?_)
      case h1 => unfold maxLen; omega
      case h2 => omega
      case h3 => first | omega | (simp; omega) | simp
      intro v' w4 hown4 hg4 _
      obtain ⟨A4, c4, rfl, _, _⟩ := cellsIn_of_own hown4 (by omega)
      have H4 := hide hown4
      have hg34 : wr.grownBy w4 _ := grown_trans (World.grownBy_alloc wr _ _) hg4
      have hB4 := hB.trans (grown_toBelow hg34 (by omega) (fun k hk => (HOWN.out.lt k hk).1))
      clear hown4 hg4 hg34
      go_wp2
      refine ⟨⟨k + 1, by omega, by go_num, ?_, hB4⟩, by simp [intOf]; omega⟩
      rw [HTU.out, List.map_append]
      exact H4.out
    · obtain rfl : k = n := by omega
      obtain ⟨Ag, cg, e, _, hI⟩ := intsIn_of_own HOWN.out
      injection e with e1 e2 e3
      subst e1 e3
      have HI := hide hI
      have HL := hide (idxL_len k)
      clear hI
      go_wp2
      go_ret
      exact ⟨Ab, cbb, by rw [HL.out]; rfl, by rw [HL.out]; exact hcap, HI.out, hB⟩

def dueB (x : Int) : Bool := inB x 0 1200000
/-- Dues are as told. -/
def duB (ts ds : List Int) : Bool := decide (ds.length = ts.length) && ds.all dueB

set_option maxRecDepth 100000 in
set_option maxHeartbeats 4000000 in
theorem l05Dues_any (A : Option Addr) (ts : List Int) (c : Nat) (D : Option Addr) (ds : List Int) (cd : Nat) (w : World) (hn : ds.length ≤ maxLen) (hD : IntsAt w w.heap.size D ds) :
    Calls Try.prog 65 #[.slice A ts.length c, .slice D ds.length cd] w fun e w' => e = .returned (.bool (duB ts ds)) ∧ w = w' := by
  unfold maxLen at hn
  generalize hS : duB ts ds = S
  have HS := hide (show (decide (ds.length = ts.length) && ds.all dueB) = S from hS)
  clear hS
  go_enter Try.func65, Try.ntmps65
  go_wp2
  go_loop [5] (fun i => ∃ k : Nat, k ≤ ds.length ∧ i = .int .i64 k ∧ Hid (∀ j x, j < k → ds[j]? = some x → dueB x = true)) (fun i => ds.length - (intOf i).toNat)
  case atStart => exact ⟨0, Nat.zero_le _, rfl, hide (fun j x hj => by omega)⟩
  case round =>
    obtain ⟨k, hk, rfl, hg⟩ := hrel
    by_cases hlt : k < ds.length
    · obtain ⟨b, o, rfl, hb, hxs⟩ := hD (by intro e; rw [e] at hlt; simp at hlt)
      obtain ⟨x, hxk⟩ : ∃ x, ds[k]? = some x := ⟨ds[k]'hlt, List.getElem?_eq_getElem _⟩
      have hc := hxs k x hxk
      have HX := hide hxk
      have hi : (k : Int) < ds.length := by omega
      have h0 : (0 : Int) ≤ k := by omega
      have HB := hide (show dueB x = inB x 0 1200000 from rfl)
      clear hxs hxk
      cases hb : inB x 0 1200000
      · go_wp2_with (go_at_call 116; refine (l00In_any _ _ _ _).mono ?_; rintro e w' ⟨rfl, rfl⟩; simp only [hb])
        go_ret
        refine ⟨ret_bool ?_, rfl⟩
        rw [← HS.out, all_false_of HX.out (by rw [HB.out]; exact hb), Bool.and_false]
      · go_wp2_with (go_at_call 116; refine (l00In_any _ _ _ _).mono ?_; rintro e w' ⟨rfl, rfl⟩; simp only [hb])
        exact ⟨⟨k + 1, by omega, by go_num, hide (fun j y hj hy => by
          by_cases e : j = k
          · subst e; rw [HX.out] at hy; injection hy with hy; subst hy; rw [HB.out]; exact hb
          · exact hg.out j y (by omega) hy)⟩, by simp [intOf]; omega⟩
    · obtain rfl : k = ds.length := by omega
      have HA := hide (all_true_of (p := dueB) (xs := ds) (fun j x hj => hg.out j x hj))
      clear hg
      go_wp2
      go_ret
      refine ⟨ret_bool ?_, rfl⟩
      rw [← HS.out, HA.out, Bool.and_true]
      rw [Bool.eq_iff_iff]
      simp
      omega

set_option maxHeartbeats 1000000 in
theorem checkDues1_any (x : Int) (w : World) :
    Calls Try.prog 119 #[.int .i64 x] w fun e w' => e = .returned (.bool (dueB x)) ∧ Below w.heap.size w w' := by
  have HT := hide (show dueB x = inB x 0 1200000 from rfl)
  go_enter Try.func119, Try.ntmps119
  go_wp2_with (go_at_call 59; refine (between_any _ _ _ _).mono ?_; rintro e w' ⟨rfl, rfl⟩)
  go_ret
  exact ⟨ret_bool HT.out.symm, Below.refl _ _⟩

set_option maxRecDepth 100000 in
set_option maxHeartbeats 4000000 in
theorem checkDues_any (A : Option Addr) (ts : List Int) (c : Nat) (D : Option Addr) (ds : List Int) (cd : Nat) (most : Int) (w : World) (hn : ts.length ≤ maxLen) (hnd : ds.length ≤ maxLen) (hA : IntsAt w w.heap.size A ts) (hD : IntsAt w w.heap.size D ds) :
    Calls Try.prog 68 #[.slice A ts.length c, .slice D ds.length cd, .int .i64 most] w fun e w' => e = .returned (.int .i64 (tmC ts (duB ts ds) most)) ∧ Below w.heap.size w w' := by
  have HC := hide (areAllI_any _ (enters_of Try.func119 (by kernel_rfl) rfl) dueB D ds cd w hnd hD (fun x _ W _ => checkDues1_any x W))
  have HT := hide (fun b W h => checkTimes_any A ts c b most W hn h)
  have HA := hide hA
  have HDB := hide (show duB ts ds = (decide (ds.length = ts.length) && ds.all dueB) from rfl)
  unfold maxLen at hn hnd
  obtain ⟨S, hS⟩ : ∃ S, duB ts ds = S := ⟨_, rfl⟩
  have HS := hide hS
  rw [hS]
  clear hS hA hD
  by_cases he : ds.length = ts.length
  · have hd : ((ds.length : Int) == (ts.length : Int)) = true := by simp; omega
    have HE : Hid (S = ds.all dueB) := hide (by rw [← HS.out, HDB.out]; simp [he])
    rw [← HE.out] at HC
    clear he
    go_enter Try.func68, Try.ntmps68
    go_wp2_with (first | (go_at_call 118; refine HC.out.mono ?_; rintro e w1 ⟨rfl, hb1⟩) | (go_at_call 62; refine (HT.out _ _ (HA.out.go hb1)).mono ?_; rintro e w2 ⟨rfl, hb2⟩))
    go_ret
    exact ⟨rfl, hb1.trans (hb2.mono hb1.size)⟩
  · have hd : ((ds.length : Int) == (ts.length : Int)) = false := by simp; omega
    have HE : Hid (S = false) := hide (by rw [← HS.out, HDB.out]; simp [he])
    rw [HE.out]
    clear he
    go_enter Try.func68, Try.ntmps68
    go_wp2_with (go_at_call 62; refine (HT.out _ _ HA.out).mono ?_; rintro e w2 ⟨rfl, hb2⟩)
    go_ret
    exact ⟨rfl, hb2⟩

/-! LateLines -/
def llC (ts ds : List Int) : Int := tmC ts (duB ts ds) 12
def llR (ts ds : List Int) : List Int := if llC ts ds = 0 then ltT ts ds (idxL ts.length) ts.length else []
theorem llR_len (ts ds : List Int) : (llR ts ds).length ≤ 1048577 := by
  unfold llR
  split
  · rename_i h
    have := (tm_zero h).2.2
    have := ltT_len ts ds (idxL ts.length) ts.length
    omega
  · simp
theorem ll_bad {ts ds : List Int} (h : llC ts ds ≠ 0) : llR ts ds = [] := if_neg h
theorem ll_ok {ts ds : List Int} (h : llC ts ds = 0) : llR ts ds = ltT ts ds (idxL ts.length) ts.length ∧ ds.length = ts.length ∧ (∀ x ∈ ts, 1 ≤ x ∧ x ≤ 100000) ∧ ts.length ≤ 12 ∧ ∀ x ∈ idxL ts.length, 0 ≤ x ∧ x < ts.length := by
  obtain ⟨h1, h2, h3⟩ := tm_zero h
  unfold duB at h1
  simp only [Bool.and_eq_true, decide_eq_true_eq] at h1
  refine ⟨if_pos h, h1.1, h2, by omega, fun x hx => ?_⟩
  obtain ⟨k, hk, rfl⟩ := idxL_mem hx
  omega

set_option maxRecDepth 100000 in
set_option maxHeartbeats 4000000 in
theorem specLateLines_any (A : Option Addr) (ts : List Int) (c : Nat) (hn : ts.length ≤ maxLen) (D : Option Addr) (ds : List Int) (cd : Nat) (hnd : ds.length ≤ maxLen) (w : World) (hA : IntsAt w w.heap.size A ts) (hD : IntsAt w w.heap.size D ds) :
    Calls Try.prog 25 #[.slice A ts.length c, .slice D ds.length cd] w (IntsBack (llR ts ds) (llC ts ds) w) := by
  have HDU := hide (l05Dues_any A ts c D ds cd w hnd hD)
  have HT := hide (l05Times_any A ts c (duB ts ds) 12 w (by omega) hn hA)
  change Hid (Calls _ _ _ _ fun e w' => e = .returned (.int .i64 (llC ts ds)) ∧ w = w') at HT
  by_cases h : llC ts ds = 0
  · obtain ⟨e, hl, ht, hn12, ho⟩ := ll_ok h
    have HL := hide (fun O co W (hW : Below w.heap.size w W) hO => l05Late_any A ts c D ds cd O (idxL ts.length) co W hl ht ho (by rw [idxL_len]; exact hn12) hn12 (hA.go hW) (hD.go hW) hO)
    have HR := hide (fun W => l05Rising_any ts.length W (by omega))
    rw [idxL_len] at HL
    have HIL := hide (idxL_len ts.length)
    rw [e]
    rw [h] at HT ⊢
    unfold maxLen at hn hnd
    generalize duB ts ds = S at *
    clear hA hD h e hl ht ho hnd
    go_enter Try.func25, Try.ntmps25
    go_wp2_with (first | (go_at_call 65; refine HDU.out.mono ?_; rintro e w' ⟨rfl, rfl⟩) | (go_at_call 60; refine HT.out.mono ?_; rintro e w' ⟨rfl, rfl⟩) | (go_at_call 67; refine (HR.out _).mono ?_; rintro e w1 ⟨Q1, k1, rfl, hk1, hI1, hb1⟩; rw [HIL.out]) | (go_at_call 66; refine (HL.out Q1 k1 _ hb1 hI1.at_).mono ?_; rintro e w2 ⟨Q2, k2, rfl, hk2, hI2, hb2⟩))
    go_ret2
    exact ⟨Q2, k2, rfl, hI2.wider hb1.size, hb1.trans (hb2.mono hb1.size)⟩
  · rw [ll_bad h]
    generalize llC ts ds = C at *
    have hC : (C != 0) = true := by simpa using h
    unfold maxLen at hn hnd
    generalize duB ts ds = S at *
    clear hA hD h
    go_enter Try.func25, Try.ntmps25
    go_wp2_with (first | (go_at_call 65; refine HDU.out.mono ?_; rintro e w' ⟨rfl, rfl⟩) | (go_at_call 60; refine HT.out.mono ?_; rintro e w' ⟨rfl, rfl⟩))
    go_ret2
    exact ⟨_, _, rfl, IntsIn.empty _ _ _, (Below.refl _ _).alloc (Nat.le_refl _) _⟩

set_option maxRecDepth 100000 in
set_option maxHeartbeats 4000000 in
theorem implLateLines_any (A : Option Addr) (ts : List Int) (c : Nat) (hn : ts.length ≤ maxLen) (D : Option Addr) (ds : List Int) (cd : Nat) (hnd : ds.length ≤ maxLen) (w : World) (hA : IntsAt w w.heap.size A ts) (hD : IntsAt w w.heap.size D ds) :
    Calls Try.prog 26 #[.slice A ts.length c, .slice D ds.length cd] w (IntsBack (llR ts ds) (llC ts ds) w) := by
  have HT := hide (checkDues_any A ts c D ds cd 12 w hn hnd hA hD)
  change Hid (Calls _ _ _ _ fun e w' => e = .returned (.int .i64 (llC ts ds)) ∧ Below w.heap.size w w') at HT
  by_cases h : llC ts ds = 0
  · obtain ⟨e, hl, ht, hn12, ho⟩ := ll_ok h
    have HL := hide (fun O co W (hW : Below w.heap.size w W) hO => lateIn_any A ts c D ds cd O (idxL ts.length) co W hl ht ho (by rw [idxL_len]; exact hn12) hn12 (hA.go hW) (hD.go hW) hO)
    have HR := hide (fun W => indicesI_any A ts.length c W (by omega))
    rw [idxL_len] at HL
    have HIL := hide (idxL_len ts.length)
    rw [e]
    rw [h] at HT ⊢
    unfold maxLen at hn hnd
    clear hA hD h e hl ht ho hnd
    go_enter Try.func26, Try.ntmps26
    go_wp2_with (first | (go_at_call 68; refine HT.out.mono ?_; rintro e w0 ⟨rfl, hb0⟩) | (go_at_call 70; refine (HR.out _).mono ?_; rintro e w1 ⟨Q1, k1, rfl, hk1, hI1, hb1⟩; have hB1 := hb0.trans (hb1.mono hb0.size); rw [HIL.out]) | (go_at_call 69; refine (HL.out Q1 k1 _ hB1 hI1.at_).mono ?_; rintro e w2 ⟨Q2, k2, rfl, hk2, hI2, hb2⟩))
    go_ret2
    exact ⟨Q2, k2, rfl, hI2.wider hB1.size, hB1.trans (hb2.mono hB1.size)⟩
  · rw [ll_bad h]
    generalize llC ts ds = C at *
    have hC : (C != 0) = true := by simpa using h
    unfold maxLen at hn hnd
    clear hA hD h
    go_enter Try.func26, Try.ntmps26
    go_wp2_with (go_at_call 68; refine HT.out.mono ?_; rintro e w0 ⟨rfl, hb0⟩)
    go_ret2
    exact ⟨_, _, rfl, IntsIn.empty _ _ _, hb0⟩
end Go.Proofs.Ytkbemhjeflmppaa
