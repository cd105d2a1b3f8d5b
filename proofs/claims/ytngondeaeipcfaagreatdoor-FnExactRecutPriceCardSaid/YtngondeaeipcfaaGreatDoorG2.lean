/- How big a face is, and its copy in the program's own type. · A face is copied: toFace. · Two faces are held against each other: eqFace. · Marks are laid into a face's pairs, and are found there. · Cells at an address, whatever they are. · Lists of numbers in memory: their copies, whether two are equal, their marks. -/
import Derived.Test.YtngondeaeipcfaaGreatDoorG1
import Derived.LoopTactic
import Derived.Deep.QuietTactic
import Derived.BigQuiet
import Derived.Outline
import Derived.Deep.RegionHeld3
import Derived.Laws.AppendOwn
import Derived.OwnWalk
import Derived.Laws.OwnMore
import Derived.Below
import Derived.Sort.EncStr
import Derived.WalkKit

namespace Go.Proofs.YtngondeaeipcfaaGreatDoor
open Go.RowKit

/-- What a size leaves. -/
def szL (l : Int) (n : Nat) : Int := if l - n < 0 then -1 else l - n
set_option maxHeartbeats 400000 in
theorem szPairS_any (A : Option Addr) (n c : Nat) (l : Int) (w : World) (h0 : -1 ≤ l) (h1 : l ≤ 1048576) (hn : n ≤ maxLen) :
    Calls Tryz.prog 198 #[.slice A n c, .int .i64 l] w fun e w' => e = .returned (.int .i64 (szL l n)) ∧ w = w' := by
  unfold maxLen at hn
  go_enter Tryz.func198, Tryz.ntmps198
  go_wp2
  all_goals (go_ret; exact ⟨ret_int (by unfold szL; split <;> omega), rfl⟩)
set_option maxHeartbeats 400000 in
theorem szFace_any (F : Fc) (hF : F.ok) (A : Option Addr) (c : Nat) (l : Int) (w : World) (h0 : -1 ≤ l) (h1 : l ≤ 1048576) :
    Calls Tryz.prog 97 #[.agg (fc F (.slice A F.ps.length c)).toArray, .int .i64 l] w fun e w' => e = .returned (.int .i64 (szL l F.ps.length)) ∧ Below w.heap.size w w' := by
  have hc := rangeAt_cell (rangeAt_new w (fc F (.slice A F.ps.length c)) 97) (fc_sl hF.len _)
  have hb : -1 ≤ szL l F.ps.length ∧ szL l F.ps.length ≤ 1048576 := by unfold szL; split <;> omega
  have hn := hF.n
  have hs := (Below.refl w.heap.size w).alloc (Nat.le_refl _) (.cells (fc F (.slice A F.ps.length c)).toArray 97)
  go_enter Tryz.func97, Tryz.ntmps97
  go_wp2_with (go_at_call 198; refine (szPairS_any _ _ _ _ _ h0 h1 hn).mono ?_; rintro e w' ⟨rfl, rfl⟩)
  all_goals (go_ret; exact ⟨ret_int (by omega), hs⟩)

/-- k numbers have been copied, the rest is 0. -/
def part (W : List Int) (k : Nat) : List Int := W.take k ++ List.replicate (26 - k) 0
theorem part_len {W : List Int} (h : W.length = 26) {k : Nat} (hk : k ≤ 26) : (part W k).length = 26 := by simp [part, h]; omega
theorem part_all {W : List Int} (h : W.length = 26) : part W 26 = W := by simp [part, ← h]
theorem part_succ {W : List Int} (h : W.length = 26) {k : Nat} (hk : k < 26) : (part W k).set k (W.getD k 0) = part W (k + 1) := by
  apply List.ext_getElem
  · rw [List.length_set, part_len h (by omega), part_len h (by omega)]
  · intro i h1 h2
    simp only [part, List.getElem_set, List.getElem_append, List.length_take, List.getElem_take, List.getElem_replicate, h]
    by_cases e : k = i
    · subst e
      have : k < min (k + 1) 26 := by omega
      simp [this, List.getD, h, hk]
    · rw [if_neg e]
      by_cases h3 : i < min k 26
      · have : i < min (k + 1) 26 := by omega
        simp [h3, this]
      · have : ¬ i < min (k + 1) 26 := by omega
        simp [h3, this]
theorem wc_set (W : List Int) (k : Nat) (v : Int) : (wc W).set k (.int .i8 v) = wc (W.set k v) := by simp [wc]

set_option maxHeartbeats 1000000 in
theorem toInt8A26_any (W : List Int) (hW : W.length = 26) (w : World) :
    Calls Tryz.prog 199 #[.agg (wc W).toArray] w fun e w' => e = .returned (.agg (wc W).toArray) ∧ Below w.heap.size w w' := by
  have HW := hide hW
  clear hW
  go_enter Tryz.func199, Tryz.ntmps199
  go_wp2
  go_loopw [4] (fun i wr => ∃ k : Nat, k ≤ 26 ∧ i = .int .i64 k ∧ Below w.heap.size w wr ∧ wr.rangeAt w.heap.size 0 (wc W) ∧ wr.there (w.heap.size + 1) 0 26 ∧ wr.rangeAt (w.heap.size + 1 + 1) 0 (wc (part W k)) ∧ wr.there (w.heap.size + 1 + 1) 0 26)
    (fun i _ => 26 - (intOf i).toNat)
  case atStart =>
    refine ⟨0, by omega, rfl, ?_, ?_, ?_, ?_, ?_⟩
    · exact (((Below.refl _ _).alloc (Nat.le_refl _) _).alloc (by simp) _).alloc (by simp only [World.size_alloc]; omega) _
    · exact World.rangeAt_alloc (World.rangeAt_alloc (rangeAt_new _ _ _) _) _
    · exact World.there_alloc (there_newg (by simp) rfl) _
    · exact rangeAt_newg (by simp) (by simp [part, wc])
    · exact there_newg (by simp) rfl
  case round =>
    obtain ⟨k, hk, rfl, hB, hr, ht1, hr2, ht2⟩ := hrel
    by_cases hlt : k < 26
    · have hc := rangeAt_cell hr (wc_get (by rw [HW.out]; exact hlt))
      have hc2 := rangeAt_cell hr2 (wc_get (k := k) (by rw [part_len HW.out hk]; exact hlt))
      have hf2 := (ht2 k hlt).2
      simp only [Nat.zero_add] at hf2
      go_wp2
      refine ⟨⟨k + 1, by omega, by go_num, hB.setCell (p := ⟨w.heap.size + 1 + 1, k, none⟩) (by show w.heap.size ≤ w.heap.size + 1 + 1; omega) _, rangeAt_far hr (by show w.heap.size + 1 + 1 ≠ w.heap.size; omega) _, there_set ht1 _ _, ?_, there_set ht2 _ _⟩, by simp [intOf]; omega⟩
      rw [← part_succ HW.out hlt, ← wc_set]
      exact rangeAt_set hr2 k _ (by rw [wc_length, part_len HW.out hk]; exact hlt)
    · obtain rfl : k = 26 := by omega
      rw [part_all HW.out] at hr2
      have hi : (wc W).length = 26 := by rw [wc_length]; exact HW.out
      have HI := hide hi
      clear hi
      go_wp2_with (first
        | (refine wpList_load_mid rfl 25 (.tmp 3) rfl _ 0 rfl (wc W) _ hr2 Tryz.underlying25 rfl (by rw [HI.out]; kernel_rfl) ?_)
        | (refine wpList_store_mid rfl 25 (.tmp 2) (.tmp 14) rfl _ 0 _ rfl rfl (by simpa [HI.out] using ht1) (by simp only [List.size_toArray]; rw [HI.out]; kernel_rfl) (wc_one W) ?_))
      refine bodyPost_ret (results_mid rfl _ _ (w.heap.size + 1) 0 (wc W) _ rfl (World.rangeAt_setCells_same _ _ _ _ (by rw [HI.out]; exact ht1)) Tryz.underlying25 rfl (by rw [HI.out]; kernel_rfl)) rfl ⟨rfl, ?_⟩
      exact below_setCells _ _ _ _ hB (by omega)

/-! ### A pair -/
set_option maxHeartbeats 1000000 in
theorem toPair_any (a b c : Int) (w : World) :
    Calls Tryz.prog 254 #[.agg #[.int .u8 a, .int .u8 b, .int .i8 c]] w fun e w' => e = .returned (.agg #[.int .u8 a, .int .u8 b, .int .i8 c]) ∧ Below w.heap.size w w' := by
  go_enter Tryz.func254, Tryz.ntmps254
  go_wp2
  exact bodyPost_ret (v := .agg #[.int .u8 a, .int .u8 b, .int .i8 c]) (by simp [results, Tryz.results254, go_sem]) rfl ⟨rfl, (((Below.refl _ _).alloc (Nat.le_refl _) _).alloc (by simp) _).alloc (by simp only [World.size_alloc]; omega) _⟩

theorem Tryz.infoPair : (Tryz.prog.info? 119).map (fun i => (i.zero, i.size, i.bytes)) = some (some (.agg #[.int .u8 0, .int .u8 0, .int .i8 0]), 3, 3) := by kernel_rfl

set_option maxHeartbeats 1000000 in
theorem toPairS_any (A : Option Addr) (ps : List (Int × Int × Int)) (c : Nat) (w : World) (hA : PairsAt w w.heap.size A ps) (hn : ps.length ≤ 1048576) :
    Calls Tryz.prog 200 #[.slice A ps.length c] w fun e w' => ∃ A', e = .returned (.slice A' ps.length ps.length) ∧ PairsIn w' w.heap.size A' ps ∧ Below w.heap.size w w' := by
  obtain ⟨i0, hi0, hz0, hz1, hz2⟩ := info_parts Tryz.infoPair
  have hmk := fun W => run_make_rowN (P := Tryz.prog) 26 119 i0 _ Tryz.underlying26 hi0 hz0 .i64 .i64 ps.length ps.length (Nat.le_refl _) (by rw [hz2]; omega) (by omega) W
  generalize hL : ps.length = n at *
  have HL := hide hL
  clear hL
  go_enter Tryz.func200, Tryz.ntmps200
  go_wp2
  go_loopw [4] (fun i wr => ∃ k : Nat, k ≤ n ∧ i = .int .i64 k ∧ Below w.heap.size w wr ∧ w.heap.size < wr.heap.size ∧ wr.there w.heap.size 0 (n * 3) ∧ (∀ j p, j < k → ps[j]? = some p → wr.rangeAt w.heap.size (j * 3) (pc p)))
    (fun i _ => n - (intOf i).toNat)
  case atStart =>
    refine ⟨0, by omega, rfl, (Below.refl _ _).alloc (Nat.le_refl _) _, by simp, there_newg rfl (by simp [madeCells]), fun j p hj => by omega⟩
  case round =>
    obtain ⟨k, hk, rfl, hB, hsz, ht, hr⟩ := hrel
    by_cases hlt : k < n
    · obtain ⟨b, o, rfl, hb, hps⟩ := hA (by intro e; rw [e] at HL; have := HL.out; simp at this; omega)
      obtain ⟨p, hp⟩ : ∃ p, ps[k]? = some p := ⟨ps[k]'(by rw [HL.out]; exact hlt), List.getElem?_eq_getElem _⟩
      have hcell := rangeAt_below (hps k p hp) hB hb
      obtain ⟨x, y, z⟩ := p
      have c0 := hcell 0 _ rfl
      have c1 := hcell 1 _ rfl
      have c2 := hcell 2 _ rfl
      simp only [Nat.add_zero] at c0
      clear hcell hps hmk
      go_wp2_with fail
      refine (toPair_any _ _ _ _).mono ?_
      rintro e w1 ⟨rfl, hb1⟩
      have ht1 := there_below ht hb1 hsz
      obtain ⟨v0, hv0, hf0⟩ := there_some ht1 (j := k * 3) (by omega)
      obtain ⟨v1, hv1, hf1⟩ := there_some ht1 (j := k * 3 + 1) (by omega)
      obtain ⟨v2, hv2, hf2⟩ := there_some ht1 (j := k * 3 + 2) (by omega)
      simp only [Nat.zero_add, ← Nat.add_assoc] at hv0 hv1 hv2 hf0 hf1 hf2
      have hB1 := hB.trans (hb1.mono hB.size)
      clear c0 c1 c2
      go_wp2
      have hr1 : ∀ (j : Nat) (p : Int × Int × Int), j < k → ps[j]? = some p → w1.rangeAt w.heap.size (j * 3) (pc p) := fun j p hj hq => rangeAt_below (hr j p hj hq) hb1 hsz
      refine ⟨⟨k + 1, by omega, by go_num, ((hB1.setCell (p := ⟨w.heap.size, k * 3, none⟩) (Nat.le_refl _) _).setCell (p := ⟨w.heap.size, k * 3 + 1, none⟩) (Nat.le_refl _) _).setCell (p := ⟨w.heap.size, k * 3 + 2, none⟩) (Nat.le_refl _) _, ?_, there_set (there_set (there_set ht1 _ _) _ _) _ _, ?_⟩, by simp [intOf]; omega⟩
      · have := hb1.size
        simp only [World.setCell, Array.size_modify]
        omega
      · intro j q hj hq
        by_cases e : j = k
        · subst e
          rw [hp] at hq
          injection hq with hq
          subst hq
          exact pair_stored hv0 hv1 hv2 _ _ _
        · exact rangeAt_off (rangeAt_off (rangeAt_off (hr1 j q (by omega) hq) (by right; right; simp [pc]; omega) _) (by right; right; simp [pc]; omega) _) (by right; right; simp [pc]; omega) _
    · have hk' : k = n := by omega
      subst hk'
      have hA' : PairsIn wr w.heap.size (some ⟨w.heap.size, 0, none⟩) ps := fun hne => ⟨w.heap.size, 0, rfl, Nat.le_refl _, hsz, fun j p hp => by
        rw [Nat.zero_add]; exact hr j p (by have := (List.getElem?_eq_some_iff.1 hp).1; rw [HL.out] at this; exact this) hp, by rw [HL.out]; exact ht⟩
      clear hr ht
      go_wp2
      go_ret
      exact ⟨_, rfl, hA', hB⟩
end Go.Proofs.YtngondeaeipcfaaGreatDoor

namespace Go.Proofs.YtngondeaeipcfaaGreatDoor
open Go.RowKit

/-- The cells of a face that has just been made. -/
abbrev zf : Array Value := (fc ⟨List.replicate 26 0, 0, 0, []⟩ (.slice none 0 0)).toArray

set_option maxHeartbeats 2000000 in
theorem toFace_any (F : Fc) (hF : F.ok) (A : Option Addr) (c : Nat) (w : World) (hA : PairsAt w w.heap.size A F.ps) (hn : F.ps.length ≤ 1048576) :
    Calls Tryz.prog 98 #[.agg (fc F (.slice A F.ps.length c)).toArray] w fun e w' =>
      ∃ A', e = .returned (.agg (fc F (.slice A' F.ps.length F.ps.length)).toArray) ∧ PairsIn w' w.heap.size A' F.ps ∧ Below w.heap.size w w' := by
  have hW := hide hF.len
  have hr0 := rangeAt_new w (fc F (.slice A F.ps.length c)) 97
  generalize hL : F.ps.length = n at *
  have HL := hide hL
  clear hL
  have hi26 : (Tryz.prog.info? 25).map (·.size) = some (wc F.W).length := by rw [wc_length, hW.out]; kernel_rfl
  have hi29 : ∀ sl, (Tryz.prog.info? 28).map (·.size) = some (fc F sl).length := fun sl => by rw [fc_length hW.out]; kernel_rfl
  have HI26 := hide hi26
  have HI29 := hide hi29
  clear hi26 hi29
  go_enter Tryz.func98, Tryz.ntmps98
  go_wp2_with (first
        | (refine wpList_load_mid rfl 25 (.tmp 4) rfl _ 0 rfl (wc F.W) _ (World.rangeAt_alloc (World.rangeAt_alloc (rangeAt_left hr0) _) _) Tryz.underlying25 rfl HI26.out ?_))
  have t1 : ((w.alloc (Obj.cells (fc F (.slice A n c)).toArray 97)).alloc (Obj.cells zf 28)).there (w.heap.size + 1) 0 29 :=
    there_newg (by simp) rfl
  have t1' := World.there_alloc t1 (Obj.cells zf 28)
  have t2 : (((w.alloc (Obj.cells (fc F (.slice A n c)).toArray 97)).alloc (Obj.cells zf 28)).alloc (Obj.cells zf 28)).there (w.heap.size + 1 + 1) 0 29 :=
    there_newg (by simp) rfl
  have r0 := World.rangeAt_alloc (World.rangeAt_alloc hr0 (Obj.cells zf 28)) (Obj.cells zf 28)
  have b0 : Below w.heap.size w (((w.alloc (Obj.cells (fc F (.slice A n c)).toArray 97)).alloc (Obj.cells zf 28)).alloc (Obj.cells zf 28)) :=
    (((Below.refl _ _).alloc (Nat.le_refl _) _).alloc (by simp) _).alloc (by simp only [World.size_alloc]; omega) _
  have s0 : (((w.alloc (Obj.cells (fc F (.slice A n c)).toArray 97)).alloc (Obj.cells zf 28)).alloc (Obj.cells zf 28)).heap.size = w.heap.size + 1 + 1 + 1 := by simp
  show Calls _ _ _ (((w.alloc (Obj.cells (fc F (.slice A n c)).toArray 97)).alloc (Obj.cells zf 28)).alloc (Obj.cells zf 28)) _
  generalize (((w.alloc (Obj.cells (fc F (.slice A n c)).toArray 97)).alloc (Obj.cells zf 28)).alloc (Obj.cells zf 28)) = W0 at *
  clear t1 hr0
  refine (toInt8A26_any _ hW.out _).mono ?_
  rintro e w1 ⟨rfl, hb1⟩
  have b1 := b0.trans (hb1.mono b0.size)
  have r1 := rangeAt_below r0 hb1 (by rw [s0]; omega)
  have t11 := there_below t1' hb1 (by rw [s0]; omega)
  have t12 := there_below t2 hb1 (by rw [s0]; omega)
  have s1 : w.heap.size + 1 + 1 + 1 ≤ w1.heap.size := by rw [← s0]; exact hb1.size
  clear b0 r0 t1' t2 hb1
  obtain ⟨W2, hW2⟩ : ∃ W2, W2 = w1.setCells (w.heap.size + 1 + 1) 0 (wc F.W).toArray.toList := ⟨_, rfl⟩
  have r2 : W2.rangeAt w.heap.size 0 (fc F (.slice A n c)) := by rw [hW2]; exact World.rangeAt_setCells_apart r1 _ _ _ (.inl (by omega))
  have q2 : W2.rangeAt (w.heap.size + 1 + 1) 0 (wc F.W) := by rw [hW2]; exact World.rangeAt_setCells_same _ _ _ _ (there_part t12 (by rw [wc_length, hW.out]; omega))
  have t21 : W2.there (w.heap.size + 1) 0 29 := by rw [hW2]; exact World.there_setCells t11 _ _ _
  have t22 : W2.there (w.heap.size + 1 + 1) 0 29 := by rw [hW2]; exact World.there_setCells t12 _ _ _
  have b2 : Below w.heap.size w W2 := by rw [hW2]; exact below_setCells _ _ _ _ b1 (by omega)
  have s2 : w.heap.size + 1 + 1 + 1 ≤ W2.heap.size := by rw [hW2, size_setCells]; exact s1
  have HW2 := hide hW2
  clear hW2 b1 r1 t11 s1
  have c26 := rangeAt_cell r2 (fc_sp hW.out _)
  have c27 := rangeAt_cell r2 (fc_gp hW.out _)
  have c28 := rangeAt_cell r2 (fc_sl hW.out _)
  obtain ⟨u26, d26, f26⟩ := there_some t22 (j := 26) (by omega)
  obtain ⟨u27, d27, f27⟩ := there_some t22 (j := 27) (by omega)
  obtain ⟨u28, d28, f28⟩ := there_some t22 (j := 28) (by omega)
  simp only [Nat.zero_add] at d26 d27 d28 f26 f27 f28
  go_wp2_with (first
    | (refine wpList_store_mid rfl 25 (.tmp 7) (.tmp 6) rfl (w.heap.size + 1 + 1) 0 _ rfl rfl (there_part t12 (by simp only [List.size_toArray]; rw [wc_length, hW.out]; omega)) HI26.out (wc_one _) ?_; rw [← HW2.out]))
  have b3 : Below w.heap.size w ((W2.setCell ⟨w.heap.size + 1 + 1, 26, none⟩ (.int .i8 F.sp)).setCell ⟨w.heap.size + 1 + 1, 27, none⟩ (.int .i8 F.gp)) :=
    (b2.setCell (p := ⟨w.heap.size + 1 + 1, 26, none⟩) (by show w.heap.size ≤ w.heap.size + 1 + 1; omega) _).setCell (p := ⟨w.heap.size + 1 + 1, 27, none⟩) (by show w.heap.size ≤ w.heap.size + 1 + 1; omega) _
  have q3 := rangeAt_off (rangeAt_off q2 (g := w.heap.size + 1 + 1) (i := 26) (by right; right; rw [wc_length, hW.out]; omega) (.int .i8 F.sp)) (g := w.heap.size + 1 + 1) (i := 27) (by right; right; rw [wc_length, hW.out]; omega) (.int .i8 F.gp)
  have e26 : ((W2.setCell ⟨w.heap.size + 1 + 1, 26, none⟩ (.int .i8 F.sp)).setCell ⟨w.heap.size + 1 + 1, 27, none⟩ (.int .i8 F.gp)).cell? ⟨w.heap.size + 1 + 1, 26, none⟩ = some (.int .i8 F.sp) := by
    rw [World.cell?_setCell_other _ _ _ _ (by intro h; injection h with _ h; omega), World.cell?_setCell_same' _ _ _ (by rw [d26]; rfl)]
  have e27 : ((W2.setCell ⟨w.heap.size + 1 + 1, 26, none⟩ (.int .i8 F.sp)).setCell ⟨w.heap.size + 1 + 1, 27, none⟩ (.int .i8 F.gp)).cell? ⟨w.heap.size + 1 + 1, 27, none⟩ = some (.int .i8 F.gp) := by
    rw [World.cell?_setCell_same' _ _ _ (by rw [World.cell?_setCell_other _ _ _ _ (by intro h; injection h with _ h; omega), d27]; rfl)]
  have t31 := there_set (there_set t21 ⟨w.heap.size + 1 + 1, 26, none⟩ (.int .i8 F.sp)) ⟨w.heap.size + 1 + 1, 27, none⟩ (.int .i8 F.gp)
  have t32 := there_set (there_set t22 ⟨w.heap.size + 1 + 1, 26, none⟩ (.int .i8 F.sp)) ⟨w.heap.size + 1 + 1, 27, none⟩ (.int .i8 F.gp)
  have s3 : w.heap.size + 1 + 1 + 1 ≤ ((W2.setCell ⟨w.heap.size + 1 + 1, 26, none⟩ (.int .i8 F.sp)).setCell ⟨w.heap.size + 1 + 1, 27, none⟩ (.int .i8 F.gp)).heap.size := by rw [size_setCell, size_setCell]; exact s2
  clear HW2 b2 r2 q2 t21 t22 s2 c26 c27 c28 d26 d27 d28 f26 f27 f28 t12
  generalize (W2.setCell ⟨w.heap.size + 1 + 1, 26, none⟩ (.int .i8 F.sp)).setCell ⟨w.heap.size + 1 + 1, 27, none⟩ (.int .i8 F.gp) = W3 at *
  have hA3 := (hA.below b3).mono b3.size
  have hn' : F.ps.length ≤ 1048576 := by rw [HL.out]; exact hn
  have hc4 := toPairS_any A F.ps c W3 hA3 hn'
  rw [HL.out] at hc4
  refine hc4.mono ?_
  clear hc4
  rintro e w4 ⟨A', rfl, hP, hb4⟩
  have b4 := b3.trans (hb4.mono b3.size)
  have q4 := rangeAt_below q3 hb4 (by omega)
  have e26' := (hb4.cell (p := ⟨w.heap.size + 1 + 1, 26, none⟩) (by show w.heap.size + 1 + 1 < _; omega)).trans e26
  have e27' := (hb4.cell (p := ⟨w.heap.size + 1 + 1, 27, none⟩) (by show w.heap.size + 1 + 1 < _; omega)).trans e27
  have t41 := there_below t31 hb4 (by omega)
  have t42 := there_below t32 hb4 (by omega)
  obtain ⟨u28, d28, f28⟩ := there_some t42 (j := 28) (by omega)
  simp only [Nat.zero_add] at d28 f28
  have hs4 := hb4.size
  clear e26 e27 q3 t31 t32 b3 hA3
  obtain ⟨W5, hW5⟩ : ∃ W5, W5 = w4.setCell ⟨w.heap.size + 1 + 1, 28, none⟩ (.slice A' n n) := ⟨_, rfl⟩
  have q5 : W5.rangeAt (w.heap.size + 1 + 1) 0 (fc F (.slice A' n n)) := by
    rw [hW5]
    refine fc_put hW.out (rangeAt_off q4 (by right; right; rw [wc_length, hW.out]; omega) _) ?_ ?_ ?_
    · rw [World.cell?_setCell_other _ _ _ _ (by intro h; injection h with _ h; omega)]; exact e26'
    · rw [World.cell?_setCell_other _ _ _ _ (by intro h; injection h with _ h; omega)]; exact e27'
    · rw [World.cell?_setCell_same' _ _ _ (by rw [d28]; rfl)]
  have t51 : W5.there (w.heap.size + 1) 0 29 := by rw [hW5]; exact there_set t41 _ _
  have b5 : Below w.heap.size w W5 := by rw [hW5]; exact b4.setCell (p := ⟨w.heap.size + 1 + 1, 28, none⟩) (by show w.heap.size ≤ w.heap.size + 1 + 1; omega) _
  have hP5 : PairsIn W5 W3.heap.size A' F.ps := by
    rw [hW5]
    intro hne
    obtain ⟨b, o, e, h1, h2, h3, h4⟩ := hP hne
    exact ⟨b, o, e, h1, by rw [size_setCell]; exact h2, fun k p hp => rangeAt_off (h3 k p hp) (.inl (by omega)) _, there_set h4 _ _⟩
  have HW5 := hide hW5
  clear hW5 e26' e27' q4 t41 t42 b4 hP
  obtain ⟨W6, hW6⟩ : ∃ W6, W6 = W5.setCells (w.heap.size + 1) 0 (fc F (.slice A' n n)).toArray.toList := ⟨_, rfl⟩
  have q6 : W6.rangeAt (w.heap.size + 1) 0 (fc F (.slice A' n n)) := by rw [hW6]; exact World.rangeAt_setCells_same _ _ _ _ (by rw [fc_length hW.out]; exact t51)
  have b6 : Below w.heap.size w W6 := by rw [hW6]; exact below_setCells _ _ _ _ b5 (by omega)
  have hP6 : PairsIn W6 w.heap.size A' F.ps := by
    rw [hW6]
    intro hne
    obtain ⟨b, o, e, h1, h2, h3, h4⟩ := hP5 hne
    exact ⟨b, o, e, by omega, by rw [size_setCells]; exact h2, fun k p hp => World.rangeAt_setCells_apart (h3 k p hp) _ _ _ (.inl (by omega)), World.there_setCells h4 _ _ _⟩
  have HW6 := hide hW6
  clear hW6 b5 hP5
  go_wp2_with (first
    | (refine wpList_load_mid rfl 28 (.tmp 3) rfl (w.heap.size + 1 + 1) 0 rfl (fc F (.slice A' n n)) _ (by rw [← HW5.out]; exact q5) Tryz.underlying28 rfl (HI29.out _) ?_; rw [← HW5.out])
    | (refine wpList_store_mid rfl 28 (.tmp 2) (.tmp 18) rfl (w.heap.size + 1) 0 _ rfl rfl (by simp only [List.size_toArray]; rw [fc_length hW.out]; exact t51) (HI29.out _) (fc_one _ _ _ _) ?_; rw [← HW6.out]))
  refine bodyPost_ret (results_mid rfl _ _ (w.heap.size + 1) 0 (fc F (.slice A' n n)) _ rfl q6 Tryz.underlying28 rfl (HI29.out _)) rfl ⟨A', rfl, hP6, b6⟩
end Go.Proofs.YtngondeaeipcfaaGreatDoor

namespace Go.Proofs.YtngondeaeipcfaaGreatDoor
open Go.RowKit

set_option maxHeartbeats 1000000 in
theorem eqInt8A26_same (W : List Int) (hW : W.length = 26) (w : World) :
    Calls Tryz.prog 202 #[.agg (wc W).toArray, .agg (wc W).toArray] w fun e w' => e = .returned (.bool true) ∧ Below w.heap.size w w' := by
  have HW := hide hW
  clear hW
  have r1 := World.rangeAt_alloc (rangeAt_new w (wc W) 25) (.cells (wc W).toArray 25)
  have r2 := rangeAt_newg (w := w.alloc (.cells (wc W).toArray 25)) (cs := (wc W).toArray) (t := 25) (g := w.heap.size + 1) (l := wc W) (by simp) rfl
  have hb : Below w.heap.size w ((w.alloc (.cells (wc W).toArray 25)).alloc (.cells (wc W).toArray 25)) := ((Below.refl _ _).alloc (Nat.le_refl _) _).alloc (by simp) _
  go_enter Tryz.func202, Tryz.ntmps202
  go_wp2
  generalize ((w.alloc (.cells (wc W).toArray 25)).alloc (.cells (wc W).toArray 25)) = W0 at *
  go_loopw [5] (fun i wr => ∃ k n : Nat, k ≤ 26 ∧ i = .int .i64 k ∧ wr = W0.drewN n)
    (fun i _ => 26 - (intOf i).toNat)
  case atStart => exact ⟨0, 0, by omega, rfl, rfl⟩
  case round =>
    obtain ⟨k, n, hk, rfl, rfl⟩ := hrel
    by_cases hlt : k < 26
    · have c1 : W0.cell? ⟨w.heap.size, k, none⟩ = some (.int .i8 (W.getD k 0)) := rangeAt_cell r1 (wc_get (by rw [HW.out]; exact hlt))
      have c2 : W0.cell? ⟨w.heap.size + 1, k, none⟩ = some (.int .i8 (W.getD k 0)) := rangeAt_cell r2 (wc_get (by rw [HW.out]; exact hlt))
      have hi : (k : Int) < 26 := by omega
      have h0 : (0 : Int) ≤ k := by omega
      go_wp2
      go_quiet (fail)
      go_wp2
      exact ⟨⟨k + 1, n + nq, by omega, by go_num, rfl⟩, by simp [intOf]; omega⟩
    · go_wp2
      go_ret
      exact ⟨rfl, hb.trans ⟨rfl, rfl, rfl, Nat.le_refl _, fun _ _ => rfl⟩⟩

theorem below_drewN {B : Nat} {a w : World} (h : Below B a w) (n : Nat) : Below B a (w.drewN n) := ⟨h.os, h.tape, h.output, h.size, h.block⟩

set_option maxHeartbeats 1000000 in
theorem eqPair_same (a b c : Int) (w : World) :
    Calls Tryz.prog 255 #[.agg #[.int .u8 a, .int .u8 b, .int .i8 c], .agg #[.int .u8 a, .int .u8 b, .int .i8 c]] w fun e w' => e = .returned (.bool true) ∧ Below w.heap.size w w' := by
  go_enter Tryz.func255, Tryz.ntmps255
  go_wp2
  go_ret
  exact ⟨rfl, ((Below.refl _ _).alloc (Nat.le_refl _) _).alloc (by simp) _⟩

set_option maxHeartbeats 1000000 in
theorem eqPairS_same (A A' : Option Addr) (ps : List (Int × Int × Int)) (c c' : Nat) (w : World) (hn : ps.length ≤ maxLen) (hA : PairsAt w w.heap.size A ps) (hA' : PairsAt w w.heap.size A' ps) :
    Calls Tryz.prog 203 #[.slice A ps.length c, .slice A' ps.length c'] w fun e w' => e = .returned (.bool true) ∧ Below w.heap.size w w' := by
  unfold maxLen at hn
  generalize hL : ps.length = n at *
  have HL := hide hL
  clear hL
  go_enter Tryz.func203, Tryz.ntmps203
  go_wp2
  go_loopw [5] (fun i wr => ∃ k : Nat, k ≤ n ∧ i = .int .i64 k ∧ Below w.heap.size w wr)
    (fun i _ => n - (intOf i).toNat)
  case atStart => exact ⟨0, by omega, rfl, Below.refl _ _⟩
  case round =>
    obtain ⟨k, hk, rfl, hB⟩ := hrel
    by_cases hlt : k < n
    · have hne : ps ≠ [] := by intro e; rw [e] at HL; have := HL.out; simp at this; omega
      obtain ⟨b, o, rfl, hb, hps⟩ := hA hne
      obtain ⟨b', o', rfl, hb', hps'⟩ := hA' hne
      obtain ⟨p, hp⟩ : ∃ p, ps[k]? = some p := ⟨ps[k]'(by rw [HL.out]; exact hlt), List.getElem?_eq_getElem _⟩
      have hcell := rangeAt_below (hps k p hp) hB hb
      have hcell' := rangeAt_below (hps' k p hp) hB hb'
      obtain ⟨x, y, z⟩ := p
      have c0 : ∀ w', Below wr.heap.size wr w' → w'.cell? ⟨b, o + k * 3, none⟩ = some (.int .u8 x) := fun w' h => (rangeAt_below hcell h (Nat.lt_of_lt_of_le hb hB.size)) 0 _ rfl
      have c1 : ∀ w', Below wr.heap.size wr w' → w'.cell? ⟨b, o + k * 3 + 1, none⟩ = some (.int .u8 y) := fun w' h => (rangeAt_below hcell h (Nat.lt_of_lt_of_le hb hB.size)) 1 _ rfl
      have c2 : ∀ w', Below wr.heap.size wr w' → w'.cell? ⟨b, o + k * 3 + 2, none⟩ = some (.int .i8 z) := fun w' h => (rangeAt_below hcell h (Nat.lt_of_lt_of_le hb hB.size)) 2 _ rfl
      have d0 : ∀ w', Below wr.heap.size wr w' → w'.cell? ⟨b', o' + k * 3, none⟩ = some (.int .u8 x) := fun w' h => (rangeAt_below hcell' h (Nat.lt_of_lt_of_le hb' hB.size)) 0 _ rfl
      have d1 : ∀ w', Below wr.heap.size wr w' → w'.cell? ⟨b', o' + k * 3 + 1, none⟩ = some (.int .u8 y) := fun w' h => (rangeAt_below hcell' h (Nat.lt_of_lt_of_le hb' hB.size)) 1 _ rfl
      have d2 : ∀ w', Below wr.heap.size wr w' → w'.cell? ⟨b', o' + k * 3 + 2, none⟩ = some (.int .i8 z) := fun w' h => (rangeAt_below hcell' h (Nat.lt_of_lt_of_le hb' hB.size)) 2 _ rfl
      have hi : (k : Int) < n := by omega
      have h0 : (0 : Int) ≤ k := by omega
      clear hcell hcell' hps hps' hA hA'
      go_wp2
      go_region_held3 (fun w' => Below wr.heap.size wr w') (first | exact (Below.refl _ _).drew | (refine Below.trans (by assumption) (Below.mono (by assumption) ?_); exact Below.size (by assumption))) (first | (go_at_call 255; refine (eqPair_same _ _ _ _).mono ?_; rintro e w1 ⟨rfl, hb1⟩))
      have hB1 : Below w.heap.size w w1 := hB.trans ((by assumption : Below wr.heap.size wr w1).mono hB.size)
      clear c0 c1 c2 d0 d1 d2
      go_wp2
      exact ⟨⟨k + 1, by omega, by go_num, hB1⟩, by simp [intOf]; omega⟩
    · go_wp2
      go_ret
      exact ⟨rfl, hB⟩

set_option maxHeartbeats 2000000 in
theorem eqFace_same (F : Fc) (hF : F.ok) (A A' : Option Addr) (c c' : Nat) (w : World) (hA : PairsAt w w.heap.size A F.ps) (hA' : PairsAt w w.heap.size A' F.ps) :
    Calls Tryz.prog 100 #[.agg (fc F (.slice A F.ps.length c)).toArray, .agg (fc F (.slice A' F.ps.length c')).toArray] w fun e w' => e = .returned (.bool true) ∧ Below w.heap.size w w' := by
  have hW := hide hF.len
  have r1 := World.rangeAt_alloc (rangeAt_new w (fc F (.slice A F.ps.length c)) 28) (.cells (fc F (.slice A' F.ps.length c')).toArray 28)
  have r2 := rangeAt_newg (w := w.alloc (.cells (fc F (.slice A F.ps.length c)).toArray 28)) (cs := (fc F (.slice A' F.ps.length c')).toArray) (t := 28) (g := w.heap.size + 1) (l := fc F (.slice A' F.ps.length c')) (by simp) rfl
  have hb : Below w.heap.size w ((w.alloc (.cells (fc F (.slice A F.ps.length c)).toArray 28)).alloc (.cells (fc F (.slice A' F.ps.length c')).toArray 28)) := ((Below.refl _ _).alloc (Nat.le_refl _) _).alloc (by simp) _
  have hs : ((w.alloc (.cells (fc F (.slice A F.ps.length c)).toArray 28)).alloc (.cells (fc F (.slice A' F.ps.length c')).toArray 28)).heap.size = w.heap.size + 1 + 1 := by simp
  have hi26 : (Tryz.prog.info? 25).map (·.size) = some (wc F.W).length := by rw [wc_length, hW.out]; kernel_rfl
  have HI26 := hide hi26
  clear hi26
  have hn := hF.n
  have hAA := hA
  have hAA' := hA'
  generalize hL : F.ps.length = n at *
  have HL := hide hL
  clear hL
  go_enter Tryz.func100, Tryz.ntmps100
  go_wp2_with (first
    | (refine wpList_load_mid rfl 25 (.tmp 5) rfl _ 0 rfl (wc F.W) _ (rangeAt_left r1) Tryz.underlying25 rfl HI26.out ?_)
    | (refine wpList_load_mid rfl 25 (.tmp 7) rfl _ 0 rfl (wc F.W) _ (rangeAt_left r2) Tryz.underlying25 rfl HI26.out ?_))
  generalize ((w.alloc (.cells (fc F (.slice A n c)).toArray 28)).alloc (.cells (fc F (.slice A' n c')).toArray 28)) = W0 at *
  refine (eqInt8A26_same _ hW.out _).mono ?_
  rintro e w1 ⟨rfl, hb1⟩
  have b1 := hb.trans (hb1.mono hb.size)
  have x26 := rangeAt_cell (rangeAt_below r1 hb1 (by omega)) (fc_sp hW.out _)
  have x27 := rangeAt_cell (rangeAt_below r1 hb1 (by omega)) (fc_gp hW.out _)
  have x28 := rangeAt_cell (rangeAt_below r1 hb1 (by omega)) (fc_sl hW.out _)
  have y26 := rangeAt_cell (rangeAt_below r2 hb1 (by omega)) (fc_sp hW.out _)
  have y27 := rangeAt_cell (rangeAt_below r2 hb1 (by omega)) (fc_gp hW.out _)
  have y28 := rangeAt_cell (rangeAt_below r2 hb1 (by omega)) (fc_sl hW.out _)
  have HS := hide hs
  clear hs
  have hq := eqPairS_same A A' F.ps c c' w1 (by rw [HL.out]; exact hn) ((hAA.below b1).mono b1.size) ((hAA'.below b1).mono b1.size)
  rw [HL.out] at hq
  have HQ := hide hq
  clear hq r1 r2 hb1
  go_wp2_with (go_at_call 203; refine HQ.out.mono ?_; rintro e w2 ⟨rfl, hb2⟩)
  go_ret
  exact ⟨rfl, b1.trans (hb2.mono b1.size)⟩
end Go.Proofs.YtngondeaeipcfaaGreatDoor

namespace Go.Proofs.YtngondeaeipcfaaGreatDoor
open Go.RowKit

/-- The mark of the pair at place j, from number k on. -/
def mkP (k : Int) (j : Nat) : Int × Int × Int := ((k + 3 * j) % 256, (k + 3 * j + 1) % 256, IntKind.i8.wrap (k + 3 * j + 1 + 1))
def marks (k : Int) (n : Nat) : List (Int × Int × Int) := (List.range n).map (mkP k)
theorem marks_len (k : Int) (n : Nat) : (marks k n).length = n := by simp [marks]
theorem marks_get {k : Int} {n j : Nat} (h : j < n) : (marks k n)[j]? = some (mkP k j) := by simp [marks, List.getElem?_range h]
/-- Nothing has changed but one block, and what is new. -/
def blkP (A : Option Addr) (ps : List (Int × Int × Int)) : Option Nat := match ps with
  | [] => none
  | _ :: _ => A.map (·.block)
theorem blkP_bd {w : World} {L : Nat} {A : Option Addr} {ps : List (Int × Int × Int)} (h : PairsIn w L A ps) : ∀ k, blkP A ps = some k → L ≤ k ∧ k < w.heap.size := by
  intro k hk
  cases ps with
  | nil => cases hk
  | cons p r =>
    obtain ⟨b, o, e, h1, h2, _⟩ := h (by simp)
    subst e
    have : b = k := by simpa [blkP] using hk
    omega
theorem blkP_some {b o : Nat} {ps : List (Int × Int × Int)} (h : ps ≠ []) : blkP (some ⟨b, o, none⟩) ps = some b := by
  cases ps with
  | nil => exact (h rfl).elim
  | cons p r => rfl
theorem grown_refl (w : World) (r : Option Nat) : w.grownBy w r := ⟨rfl, rfl, rfl, Nat.le_refl _, fun _ _ _ => rfl⟩
theorem grown_trans {a b c : World} {r : Option Nat} (h : a.grownBy b r) (k : b.grownBy c r) : a.grownBy c r :=
  ⟨k.os.trans h.os, k.tape.trans h.tape, k.output.trans h.output, Nat.le_trans h.size k.size, fun i hi hr => (k.block i (Nat.lt_of_lt_of_le hi h.size) hr).trans (h.block i hi hr)⟩
theorem grown_below {a b : World} {r : Option Nat} (h : Below a.heap.size a b) : a.grownBy b r := ⟨h.os, h.tape, h.output, h.size, fun i hi _ => h.block i hi⟩
theorem grown_set {a b : World} {r : Nat} (h : a.grownBy b (some r)) (o : Nat) (v : Value) : a.grownBy (b.setCell ⟨r, o, none⟩ v) (some r) :=
  ⟨h.os, h.tape, h.output, by rw [size_setCell]; exact h.size, fun i hi hr => (Below.heap_setCell _ _ _ _ (by show i ≠ r; intro e; subst e; exact hr rfl)).trans (h.block i hi hr)⟩
theorem grown_row {w w' : World} {r : Option Nat} (h : w.grownBy w' r) {b o : Nat} {cs : List Value} (hr : w.rangeAt b o cs) (hb : b < w.heap.size) (hne : some b ≠ r) : w'.rangeAt b o cs :=
  fun j v hv => by rw [World.cell?_of_block (a := ⟨b, o + j, none⟩) (h.block b hb hne)]; exact hr j v hv
theorem grown_there {w w' : World} {r : Option Nat} (h : w.grownBy w' r) {b o n : Nat} (hr : w.there b o n) (hb : b < w.heap.size) (hne : some b ≠ r) : w'.there b o n :=
  fun j hj => by
    rw [World.cell?_of_block (a := ⟨b, o + j, none⟩) (h.block b hb hne), World.frozen?_of_block (a := ⟨b, o + j, none⟩) (h.block b hb hne)]; exact hr j hj
theorem grown_pairsAt {w w' : World} {r : Option Nat} {B : Nat} (h : w.grownBy w' r) {A : Option Addr} {ps : List (Int × Int × Int)} (hP : PairsAt w B A ps) (hB : B ≤ w.heap.size) (hne : ∀ k, r = some k → B ≤ k) : PairsAt w' B A ps :=
  fun hn => by
    obtain ⟨b, o, e, hlt, hc⟩ := hP hn
    exact ⟨b, o, e, hlt, fun k p hp => grown_row h (hc k p hp) (by omega) (fun e => by have := hne b e.symm; omega)⟩
theorem grown_pairsIn {w w' : World} {r : Option Nat} {L : Nat} (h : w.grownBy w' r) {A : Option Addr} {ps : List (Int × Int × Int)} (hP : PairsIn w L A ps) (hne : ∀ b, blkP A ps = some b → some b ≠ r) : PairsIn w' L A ps :=
  fun hn => by
    obtain ⟨b, o, e, hl, hlt, hc, ht⟩ := hP hn
    have hb : some b ≠ r := hne b (by rw [e]; exact blkP_some hn)
    exact ⟨b, o, e, hl, Nat.lt_of_lt_of_le hlt h.size, fun k p hp => grown_row h (hc k p hp) hlt hb, grown_there h ht hlt hb⟩
theorem grown_toBelow {w w' : World} {r : Option Nat} {B : Nat} (h : w.grownBy w' r) (hB : B ≤ w.heap.size) (hr : ∀ k, r = some k → B ≤ k) : Below B w w' :=
  ⟨h.os, h.tape, h.output, h.size, fun i hi => h.block i (by omega) (fun e => by have := hr i e.symm; omega)⟩

end Go.Proofs.YtngondeaeipcfaaGreatDoor

namespace Go.Proofs.YtngondeaeipcfaaGreatDoor
open Go Go.RowKit

/-- The cells lie at A, in a block below B. -/
def CellsAt (w : World) (B : Nat) (A : Option Addr) (cs : List Value) : Prop :=
  cs ≠ [] → ∃ b o, A = some ⟨b, o, none⟩ ∧ b < B ∧ w.rangeAt b o cs
/-- The cells lie at A, in a block from L on, and may be written there. -/
def CellsIn (w : World) (L : Nat) (A : Option Addr) (cs : List Value) : Prop :=
  cs ≠ [] → ∃ b o, A = some ⟨b, o, none⟩ ∧ L ≤ b ∧ b < w.heap.size ∧ w.rangeAt b o cs ∧ w.there b o cs.length
theorem CellsAt.below {w w' : World} {B : Nat} {A : Option Addr} {cs : List Value} (h : CellsAt w B A cs) (hb : Below B w w') : CellsAt w' B A cs :=
  fun hn => by obtain ⟨b, o, e, hlt, hc⟩ := h hn; exact ⟨b, o, e, hlt, rangeAt_below hc hb hlt⟩
theorem CellsAt.mono {w : World} {B B' : Nat} {A : Option Addr} {cs : List Value} (h : CellsAt w B A cs) (hB : B ≤ B') : CellsAt w B' A cs :=
  fun hn => by obtain ⟨b, o, e, hlt, hc⟩ := h hn; exact ⟨b, o, e, by omega, hc⟩
theorem CellsAt.go {w w' : World} {A : Option Addr} {cs : List Value} (h : CellsAt w w.heap.size A cs) (hb : Below w.heap.size w w') : CellsAt w' w'.heap.size A cs := (h.below hb).mono hb.size
theorem CellsAt.nil (w : World) (B : Nat) (A : Option Addr) : CellsAt w B A [] := fun h => (h rfl).elim
theorem CellsIn.empty (w : World) (L : Nat) (A : Option Addr) : CellsIn w L A [] := fun h => (h rfl).elim
theorem CellsIn.at_ {w : World} {L : Nat} {A : Option Addr} {cs : List Value} (h : CellsIn w L A cs) : CellsAt w w.heap.size A cs :=
  fun hn => by obtain ⟨b, o, e, _, h2, h3, _⟩ := h hn; exact ⟨b, o, e, h2, h3⟩
theorem CellsIn.wider {w : World} {L L' : Nat} {A : Option Addr} {cs : List Value} (h : CellsIn w L A cs) (hL : L' ≤ L) : CellsIn w L' A cs :=
  fun hn => by obtain ⟨b, o, e, h1, h2⟩ := h hn; exact ⟨b, o, e, by omega, h2⟩
theorem CellsIn.go {w w' : World} {L : Nat} {A : Option Addr} {cs : List Value} (h : CellsIn w L A cs) (hb : Below w.heap.size w w') : CellsIn w' L A cs := fun hn => by
  obtain ⟨b, o, e, h1, h2, h3, h4⟩ := h hn
  exact ⟨b, o, e, h1, Nat.lt_of_lt_of_le h2 hb.size, rangeAt_below h3 hb h2, grown_there (r := none) (grown_below hb) h4 h2 (by simp)⟩
/-- A part of the cells. -/
theorem CellsAt.part {w : World} {B : Nat} {b o : Nat} {cs : List Value} (h : CellsAt w B (some ⟨b, o, none⟩) cs) (k m : Nat) : CellsAt w B (some ⟨b, o + k, none⟩) ((cs.drop k).take m) := fun hn => by
  have hne : cs ≠ [] := by intro e; rw [e] at hn; simp at hn
  obtain ⟨b', o', e, hlt, hc⟩ := h hne
  injection e with e
  injection e with e1 e2
  subst e1 e2
  refine ⟨b, o + k, rfl, hlt, fun j v hv => ?_⟩
  rw [List.getElem?_take] at hv
  split at hv
  · rw [List.getElem?_drop] at hv
    have := hc (k + j) v hv
    rwa [← Nat.add_assoc] at this
  · cases hv
/-- What a row owns, as cells. -/
theorem cellsIn_of_own {w : World} {base e n sz : Nat} {v : Value} {cs : List Value} (h : w.ownsRow base e sz v n cs) (hz : 0 < sz) : ∃ A c, v = .slice A n c ∧ n ≤ c ∧ CellsIn w base A cs := by
  have hl := h.1
  rcases h.2 with ⟨rfl, h0⟩ | ⟨g, cap, cur, rfl, hbg, hg, hnc, _, hsz, htk⟩
  · refine ⟨none, 0, by rw [h0], by omega, fun hne => (hne ?_).elim⟩
    rw [h0] at hl
    exact List.length_eq_zero_iff.1 (by omega)
  · refine ⟨_, cap, rfl, hnc, fun _ => ⟨g, 0, rfl, hbg, (Array.getElem?_eq_some_iff.1 hg).1, fun k x hx => ?_, fun j hj => ?_⟩⟩
    · rw [cell_of_row _ _ _ _ _ _ hg]
      have h1 := hx
      rw [← htk, List.getElem?_take] at h1
      rw [Nat.zero_add]
      split at h1
      · simpa using h1
      · cases h1
    · refine ⟨?_, frozen_of_row _ _ _ _ _ hg⟩
      rw [cell_of_row _ _ _ _ _ _ hg]
      have h2 : n * sz ≤ cap * sz := Nat.mul_le_mul_right _ hnc
      have : 0 + j < cur.size := by rw [hsz]; omega
      simp [this]
      omega
end Go.Proofs.YtngondeaeipcfaaGreatDoor

namespace Go.Proofs.YtngondeaeipcfaaGreatDoor
open Go.RowKit

/-- The numbers xs lie at A, in a block below B. -/
def IntsAt (w : World) (B : Nat) (A : Option Addr) (xs : List Int) : Prop :=
  xs ≠ [] → ∃ b o, A = some ⟨b, o, none⟩ ∧ b < B ∧ ∀ k x, xs[k]? = some x → w.cell? ⟨b, o + k, none⟩ = some (.int .i64 x)
theorem IntsAt.below {w w' : World} {B : Nat} {A : Option Addr} {xs : List Int} (h : IntsAt w B A xs) (hb : Below B w w') : IntsAt w' B A xs :=
  fun hn => by obtain ⟨b, o, e, hlt, hc⟩ := h hn; exact ⟨b, o, e, hlt, fun k x hx => (hb.cell (p := ⟨b, o + k, none⟩) hlt).trans (hc k x hx)⟩
theorem IntsAt.mono {w : World} {B B' : Nat} {A : Option Addr} {xs : List Int} (h : IntsAt w B A xs) (hB : B ≤ B') : IntsAt w B' A xs :=
  fun hn => by obtain ⟨b, o, e, hlt, hc⟩ := h hn; exact ⟨b, o, e, by omega, hc⟩
theorem IntsAt.nil (w : World) (B : Nat) (A : Option Addr) : IntsAt w B A [] := fun h => (h rfl).elim
theorem IntsAt.go {W w' : World} {A : Option Addr} {xs : List Int} (h : IntsAt W W.heap.size A xs) (hb : Below W.heap.size W w') : IntsAt w' w'.heap.size A xs := (h.below hb).mono hb.size
/-- The numbers xs lie at A, in a block from L on, and may be written there. -/
def IntsIn (w : World) (L : Nat) (A : Option Addr) (xs : List Int) : Prop :=
  xs ≠ [] → ∃ b o, A = some ⟨b, o, none⟩ ∧ L ≤ b ∧ b < w.heap.size ∧ (∀ k x, xs[k]? = some x → w.cell? ⟨b, o + k, none⟩ = some (.int .i64 x)) ∧ w.there b o xs.length
theorem IntsIn.at_ {w : World} {L : Nat} {A : Option Addr} {xs : List Int} (h : IntsIn w L A xs) : IntsAt w w.heap.size A xs :=
  fun hn => by obtain ⟨b, o, e, _, h2, h3, _⟩ := h hn; exact ⟨b, o, e, h2, h3⟩
theorem IntsIn.empty (w : World) (L : Nat) (A : Option Addr) : IntsIn w L A [] := fun h => (h rfl).elim
theorem IntsIn.wider {w : World} {L L' : Nat} {A : Option Addr} {xs : List Int} (h : IntsIn w L A xs) (hL : L' ≤ L) : IntsIn w L' A xs :=
  fun hn => by obtain ⟨b, o, e, h1, h2⟩ := h hn; exact ⟨b, o, e, by omega, h2⟩
theorem IntsIn.go {w w' : World} {L : Nat} {A : Option Addr} {xs : List Int} (h : IntsIn w L A xs) (hb : Below w.heap.size w w') : IntsIn w' L A xs := fun hn => by
  obtain ⟨b, o, e, h1, h2, h3, h4⟩ := h hn
  exact ⟨b, o, e, h1, Nat.lt_of_lt_of_le h2 hb.size, fun k x hx => (hb.cell (p := ⟨b, o + k, none⟩) h2).trans (h3 k x hx), grown_there (r := none) (grown_below hb) h4 h2 (by simp)⟩
/-- The block that the numbers lie in. -/
def blkI (A : Option Addr) (xs : List Int) : Option Nat := match xs with
  | [] => none
  | _ :: _ => A.map (·.block)
theorem blkI_some {b o : Nat} {xs : List Int} (h : xs ≠ []) : blkI (some ⟨b, o, none⟩) xs = some b := by
  cases xs with
  | nil => exact (h rfl).elim
  | cons a t => rfl
theorem blkI_bd {w : World} {L : Nat} {A : Option Addr} {xs : List Int} (h : IntsIn w L A xs) : ∀ k, blkI A xs = some k → L ≤ k ∧ k < w.heap.size := by
  intro k hk
  cases xs with
  | nil => cases hk
  | cons a t =>
    obtain ⟨b, o, rfl, h1, h2, _⟩ := h (by simp)
    cases hk
    exact ⟨h1, h2⟩
theorem grown_intsAt {w w' : World} {r : Option Nat} {B : Nat} (h : w.grownBy w' r) {A : Option Addr} {xs : List Int} (hP : IntsAt w B A xs) (hB : B ≤ w.heap.size) (hne : ∀ k, r = some k → B ≤ k) : IntsAt w' B A xs :=
  hP.below (grown_toBelow h hB hne)
theorem IntsIn.of_cells {w : World} {L : Nat} {A : Option Addr} {xs : List Int} (h : CellsIn w L A (xs.map (.int .i64))) : IntsIn w L A xs := fun hn => by
  obtain ⟨b, o, e, h1, h2, h3, h4⟩ := h (by intro e; exact hn (List.map_eq_nil_iff.1 e))
  refine ⟨b, o, e, h1, h2, fun k x hx => h3 k _ (by rw [List.getElem?_map, hx]; rfl), by rwa [List.length_map] at h4⟩
theorem intsIn_of_own {w : World} {base e n : Nat} {v : Value} {xs : List Int} (h : w.ownsRow base e 1 v n (xs.map (.int .i64))) : ∃ A c, v = .slice A n c ∧ n ≤ c ∧ IntsIn w base A xs := by
  obtain ⟨A, c, e1, h1, h2⟩ := cellsIn_of_own h (by omega)
  exact ⟨A, c, e1, h1, .of_cells h2⟩
theorem IntsAt.cells {w : World} {B : Nat} {A : Option Addr} {xs : List Int} (h : IntsAt w B A xs) : CellsAt w B A (xs.map (.int .i64)) := fun hn => by
  obtain ⟨b, o, e, h1, h2⟩ := h (by intro e; rw [e] at hn; exact hn rfl)
  refine ⟨b, o, e, h1, fun j v hv => ?_⟩
  rw [List.getElem?_map] at hv
  obtain ⟨x, hx, rfl⟩ := Option.map_eq_some_iff.1 hv
  exact h2 j x hx
theorem grown_intsIn {w w' : World} {r : Option Nat} {L : Nat} (h : w.grownBy w' r) {A : Option Addr} {xs : List Int} (hP : IntsIn w L A xs) (hne : ∀ b, blkI A xs = some b → some b ≠ r) : IntsIn w' L A xs := fun hn => by
  obtain ⟨b, o, rfl, h1, h2, h3, h4⟩ := hP hn
  have hb := hne b (blkI_some hn)
  exact ⟨b, o, rfl, h1, Nat.lt_of_lt_of_le h2 h.size, fun k x hx => h.cell (h3 k x hx) hb, grown_there h h4 h2 hb⟩
/-- Numbers and a code come back, the numbers in memory of the call's own. -/
def IntsBack (xs : List Int) (code : Int) (w : World) : Ending → World → Prop := fun e w' =>
  ∃ A c, e = .returned (.tuple #[.slice A xs.length c, .int .i64 code]) ∧ IntsIn w' w.heap.size A xs ∧ Below w.heap.size w w'

theorem Tryz.infoI64 : (Tryz.prog.info? 2).map (fun i => (i.zero, i.size, i.bytes)) = some (some (.int .i64 0), 1, 8) := by kernel_rfl

def marksI (k n : Nat) : List Int := (List.range n).map fun j => ((k + j : Nat) : Int)
theorem marksI_len (k n : Nat) : (marksI k n).length = n := by simp [marksI]
theorem marksI_get {k n j : Nat} (h : j < n) : (marksI k n)[j]? = some ((k + j : Nat) : Int) := by simp [marksI, List.getElem?_range h]

end Go.Proofs.YtngondeaeipcfaaGreatDoor
