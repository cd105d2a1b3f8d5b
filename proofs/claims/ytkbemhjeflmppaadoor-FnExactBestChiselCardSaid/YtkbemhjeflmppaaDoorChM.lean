/- The model's strokes; sums, of both; StrokesOf. -/
import Derived.Test.YtkbemhjeflmppaaDoorChL
import Derived.Deep.RegionLaw
import Derived.Deep.AppendLies
namespace Go.Proofs.YtkbemhjeflmppaaDoor
open Go Go.RowKit

theorem stkB {S : List Int} (hSx : ∀ x ∈ S, i8ok x) (L : List UInt8) : ∀ x ∈ stkL S L, -128 ≤ x ∧ x ≤ 127 := by
  intro x hx
  obtain ⟨b, _, rfl⟩ := List.mem_map.1 hx
  exact wc_at hSx _

set_option maxRecDepth 100000 in
set_option maxHeartbeats 8000000 in
theorem l05List_any (S : List Int) (hS : S.length = 26) (hSx : ∀ x ∈ S, i8ok x) (s : ByteArray) (b : Nat) (w : World) (hv : vtext s.data.toList = true) (hr : w.rangeAt b 0 (wc S)) (hb : b < w.heap.size) :
    Calls Tryd.prog 42 #[.pointer (some ⟨b, 0, none⟩), .string s] w (IntsB (stkL S s.data.toList) w) := by
  obtain ⟨i0, hi0, hz0, hz1, hz2⟩ := info_parts Tryd.infoI64
  have hs60 : s.size ≤ 60 := by have := (vtext_true.1 hv).1; simpa using this
  have HGOOD := hide (vtext_true.1 hv).2
  have HR := hide hr
  have HWX := hide (fun k => wc_at hSx k)
  have HS := hide hS
  have HLL := hide (fun k => stkL_len S (s.data.toList.take k))
  have hL : s.data.toList.length = s.size := by simp
  have HL := hide hL
  clear hS hSx hv hr hL
  go_enter Tryd.func42, Tryd.ntmps42
  go_wp2
  go_loopw [5, 6] (fun br i wr => ∃ k : Nat, k ≤ s.size ∧ i = .int .i64 k ∧ wr.ownsRow w.heap.size 2 1 br (stkL S (s.data.toList.take k)).length ((stkL S (s.data.toList.take k)).map (.int .i64)) ∧ Below w.heap.size w wr)
    (fun _ i _ => s.size - (intOf i).toNat)
  case atStart => exact ⟨0, Nat.zero_le _, rfl, World.ownsRow_made w _ 0 (Nat.le_refl _) (by unfold maxLen; omega) rfl, (Below.refl _ _).alloc (Nat.le_refl _) _⟩
  case round =>
    obtain ⟨k, hk, rfl, hown, hB⟩ := hrel
    obtain ⟨Ab, cbb, rfl, hcap, _⟩ := cellsIn_of_own hown (by omega)
    have hbs := hB.size
    have HOWN := hide hown
    have hll : (stkL S (s.data.toList.take k)).length ≤ 60 := by have := HLL.out k; rw [List.length_take] at this; omega
    clear hown
    by_cases hlt : k < s.size
    · have hget : s.data.toList[k]? = some s[k] := by
        have h' : k < s.data.toList.length := by simpa using hlt
        rw [List.getElem?_eq_getElem h']; rfl
      have hg := HGOOD.out k (by rw [HL.out]; exact hlt)
      have hbx := byteAt_get s k hlt
      have hi : (k : Int) < s.size := by omega
      have hk0 : (0 : Int) ≤ k := by omega
      cases h32 : ((s[k].toNat : Int) == 32)
      · have hne : ((s[k].toNat : Int) != 32) = true := by simp [bne, h32]
        have hn32 : s[k] ≠ 32 := by intro e; rw [e] at h32; simp at h32
        have hcp : cap (s[k].toNat : Int) = true := by
          rcases hg with ⟨h, _⟩ | h
          · rw [← hbx] at h; rw [h] at h32; simp at h32
          · rwa [← hbx] at h
        obtain ⟨h65, h90⟩ := cap_true.1 hcp
        obtain ⟨j, hj⟩ : ∃ j : Nat, s[k].toNat = j + 65 := ⟨s[k].toNat - 65, by omega⟩
        have hj26 : j < 26 := by omega
        have HTS : Hid (stkL S (s.data.toList.take (k + 1)) = stkL S (s.data.toList.take k) ++ [S.getD j 0]) := hide (by rw [stkL_letter hget hn32, hj, Nat.add_sub_cancel])
        have c1 : wr.cell? ⟨b, j, none⟩ = some (.int .i8 (S.getD j 0)) := (hB.cell (p := ⟨b, j, none⟩) hb).trans (rangeAt_cell HR.out (wc_get (by rw [HS.out]; exact hj26)))
        obtain ⟨v1, v2⟩ := HWX.out j
        obtain ⟨y, hy⟩ : ∃ y, S.getD j 0 = y := ⟨_, rfl⟩
        rw [hy] at c1 v1 v2 HTS
        have e1 : (s[k].toNat : Int) - 65 = j := by omega
        have hji : (j : Int) < 26 := by omega
        have hj0 : (0 : Int) ≤ j := by omega
        have hwr : IntKind.u8.wrap (j : Int) = j := by simp [IntKind.wrap, IntKind.bits, IntKind.signed]; omega
        clear hget hg hbx hn32 hcp hj hy h32
        have hwy := IntWalk.i64_in y ⟨by omega, by omega⟩
        have HNEW := hide (one_cell (w := wr) (t := 2) (.int .i64 y))
        have HONE := hide (one_one (v := .int .i64 y) rfl)
        obtain ⟨m, hm⟩ : ∃ m, (stkL S (s.data.toList.take k)).length = m := ⟨_, rfl⟩
        have HM := hide hm
        rw [hm] at HOWN hll hcap ⊢
        clear hm
        go_wp2
        go_region_law (refine step_append_lies _ rfl (.tmp 18) (.tmp 28) 32 rfl w.heap.size 2 i0 (.int .i64 0) 1 8 Tryd.underlying32 hi0 hz0 hz1 hz2 rfl (by decide) (.slice Ab m cbb) m _ (by simp [Act.eval, Act.put]) (own_go HOWN.out (((Below.refl _ _).alloc (Nat.le_refl _) _).drew)) ⟨wr.heap.size, 0, none⟩ 1 1 [.int .i64 y] (by simp [Act.eval, Act.put]) rfl (fun j u hu => HNEW.out j u hu) HONE.out (by omega) (by unfold maxLen; omega) (by omega) (by simp; omega) _ rfl ?_; intro g cap w1 hown1 hgrow hor hlt1)
        all_goals
          have hg34 : wr.grownBy w1 _ := grown_trans (grown_trans (World.grownBy_alloc wr _ _) (show (wr.alloc (.cells #[.int .i64 y] 2)).grownBy (wr.alloc (.cells #[.int .i64 y] 2)).drew (Value.slice Ab m cbb).ownBlock from ⟨rfl, rfl, rfl, Nat.le_refl _, fun _ _ _ => rfl⟩)) hgrow
          have hB4 := hB.trans (grown_toBelow hg34 (by omega) (fun k hk => (HOWN.out.lt k hk).1))
          have H4 := hide hown1
          clear hown1 hgrow hg34 hor
          go_wp2
          refine ⟨⟨k + 1, by omega, by go_num, ?_, hB4⟩, by simp [intOf]; omega⟩
          rw [HTS.out, List.map_append, List.length_append]
          rw [HM.out]
          exact H4.out
      · have hne : ((s[k].toNat : Int) != 32) = false := by simp [bne, h32]
        have he32 : s[k] = 32 := UInt8.toNat_inj.1 (by have := eq_of_beq h32; show s[k].toNat = 32; omega)
        have HTS : Hid (stkL S (s.data.toList.take (k + 1)) = stkL S (s.data.toList.take k)) := hide (stkL_blank hget he32)
        clear hget hg hbx he32 h32
        go_wp2
        refine ⟨⟨k + 1, by omega, by go_num, ?_, hB⟩, by simp [intOf]; omega⟩
        rw [HTS.out]
        exact HOWN.out
    · obtain rfl : k = s.size := by omega
      have HTA : Hid (s.data.toList.take s.size = s.data.toList) := hide (by rw [← HL.out]; exact List.take_length)
      rw [HTA.out] at HOWN hcap ⊢
      obtain ⟨Ag, cg, e, _, hI⟩ := intsIn_of_own HOWN.out
      injection e with e1 e2 e3
      subst e1 e3
      have HI := hide hI
      clear hI
      go_wp2
      go_ret
      exact ⟨Ab, cbb, rfl, hcap, HI.out, hB⟩

set_option maxHeartbeats 2000000 in
theorem l05Sum_any (A : Option Addr) (xs : List Int) (c : Nat) (w : World) (hn : xs.length ≤ 60) (hx : ∀ x ∈ xs, 0 ≤ x ∧ x ≤ 30) (hA : IntsAt w w.heap.size A xs) :
    Calls Tryd.prog 41 #[.slice A xs.length c] w fun e w' => e = .returned (.int .i64 (sumT xs xs.length)) ∧ w = w' := by
  have HB := hide (sumT_bd hx)
  have HX := hide hx
  have HA := hide hA
  obtain ⟨n, hN⟩ : ∃ n, xs.length = n := ⟨_, rfl⟩
  have HN := hide hN
  rw [hN] at hn HB ⊢
  clear hN hx hA
  go_enter Tryd.func41, Tryd.ntmps41
  go_wp2
  go_loop [3, 4] (fun v i => ∃ k : Nat, k ≤ n ∧ i = .int .i64 k ∧ v = .int .i64 (sumT xs k)) (fun _ i => n - (intOf i).toNat)
  case atStart => exact ⟨0, Nat.zero_le _, rfl, rfl⟩
  case round =>
    obtain ⟨k, hk, rfl, rfl⟩ := hrel
    by_cases hlt : k < n
    · obtain ⟨b, o, rfl, hb, hxs⟩ := HA.out (by intro e; rw [e] at HN; have := HN.out; simp at this; omega)
      obtain ⟨x, hxk⟩ : ∃ x, xs[k]? = some x := ⟨xs[k]'(by rw [HN.out]; exact hlt), List.getElem?_eq_getElem _⟩
      have hc := hxs k x hxk
      obtain ⟨x1, x2⟩ := HX.out x (List.mem_of_getElem? hxk)
      have HS := hide (sumT_succ hxk)
      obtain ⟨b1, b2⟩ := HB.out k hk
      have hi : (k : Int) < n := by omega
      have h0 : (0 : Int) ≤ k := by omega
      clear hxs hxk
      generalize sumT xs k = q at *
      go_wp2
      exact ⟨⟨k + 1, by omega, by go_num, by rw [HS.out]⟩, by simp [intOf]; omega⟩
    · obtain rfl : k = n := by omega
      go_wp2
      go_ret
      exact ⟨rfl, rfl⟩

set_option maxHeartbeats 2000000 in
theorem sumOf_any (A : Option Addr) (xs : List Int) (c : Nat) (w : World) (hn : xs.length ≤ 60) (hx : ∀ x ∈ xs, 0 ≤ x ∧ x ≤ 30) (hA : IntsAt w w.heap.size A xs) :
    Calls Tryd.prog 45 #[.slice A xs.length c] w fun e w' => e = .returned (.int .i64 (sumT xs xs.length)) ∧ w = w' := by
  have HB := hide (sumT_bd hx)
  have HX := hide hx
  have HA := hide hA
  obtain ⟨n, hN⟩ : ∃ n, xs.length = n := ⟨_, rfl⟩
  have HN := hide hN
  rw [hN] at hn HB ⊢
  clear hN hx hA
  go_enter Tryd.func45, Tryd.ntmps45
  go_wp2
  go_loop [3, 8] (fun v i => ∃ k : Nat, k ≤ n ∧ i = .int .i64 k ∧ v = .int .i64 (sumT xs k)) (fun _ i => n - (intOf i).toNat)
  case atStart => exact ⟨0, Nat.zero_le _, rfl, rfl⟩
  case round =>
    obtain ⟨k, hk, rfl, rfl⟩ := hrel
    by_cases hlt : k < n
    · obtain ⟨b, o, rfl, hb, hxs⟩ := HA.out (by intro e; rw [e] at HN; have := HN.out; simp at this; omega)
      obtain ⟨x, hxk⟩ : ∃ x, xs[k]? = some x := ⟨xs[k]'(by rw [HN.out]; exact hlt), List.getElem?_eq_getElem _⟩
      have hc := hxs k x hxk
      obtain ⟨x1, x2⟩ := HX.out x (List.mem_of_getElem? hxk)
      have HS := hide (sumT_succ hxk)
      obtain ⟨b1, b2⟩ := HB.out k hk
      have hi : (k : Int) < n := by omega
      have h0 : (0 : Int) ≤ k := by omega
      clear hxs hxk
      generalize sumT xs k = q at *
      go_wp2
      exact ⟨⟨k + 1, by omega, by go_num, by rw [HS.out]⟩, by simp [intOf]; omega⟩
    · obtain rfl : k = n := by omega
      go_wp2
      go_ret
      exact ⟨rfl, rfl⟩

/-! StrokesOf -/
noncomputable def soB (S : List Int) (L : List UInt8) : Bool := vstr S && vtext L
noncomputable def soC (S : List Int) (L : List UInt8) : Int := if soB S L = true then 0 else 1
noncomputable def soV (S : List Int) (L : List UInt8) : Int := if soB S L = true then sumT (stkL S L) (stkL S L).length else 0
theorem so_no {S : List Int} {L : List UInt8} (h : soB S L = false) : soC S L = 1 ∧ soV S L = 0 := by unfold soC soV; rw [h]; exact ⟨rfl, rfl⟩
theorem so_ok {S : List Int} {L : List UInt8} (h : soB S L = true) : soC S L = 0 ∧ soV S L = sumT (stkL S L) (stkL S L).length := by unfold soC soV; rw [h]; exact ⟨rfl, rfl⟩
theorem stk_b30 {S : List Int} {L : List UInt8} (hS : S.length = 26) (h1 : vstr S = true) (h2 : vtext L = true) : ∀ x ∈ stkL S L, 0 ≤ x ∧ x ≤ 30 := fun x hx => by
  have := stk_bd hS h1 h2 x hx; omega

set_option maxRecDepth 100000 in
set_option maxHeartbeats 4000000 in
theorem specStrokesOf_any (S : List Int) (hS : S.length = 26) (hSx : ∀ x ∈ S, i8ok x) (s : ByteArray) (hs : s.size ≤ maxLen) (w : World) :
    Calls Tryd.prog 12 #[.agg (wc S).toArray, .string s] w fun e w' => e = .returned (.tuple #[.int .i64 (soV S s.data.toList), .int .i64 (soC S s.data.toList)]) ∧ Below w.heap.size w w' := by
  have r0 := rangeAt_new w (wc S) 26
  have b0 : Below w.heap.size w (w.alloc (.cells (wc S).toArray 26)) := (Below.refl _ _).alloc (Nat.le_refl _) _
  have s0 : w.heap.size < (w.alloc (.cells (wc S).toArray 26)).heap.size := by simp
  have HC := hide (l05Strokes_any S hS hSx _ _ r0)
  have HT := hide (fun W => l01Text_any s W hs)
  have HSB := hide (show soB S s.data.toList = (vstr S && vtext s.data.toList) from rfl)
  have HBW := hide b0
  unfold maxLen at hs
  cases h1 : vstr S
  · obtain ⟨e1, e2⟩ := so_no (S := S) (L := s.data.toList) (by rw [HSB.out, h1]; rfl)
    rw [e1, e2]
    rw [h1] at HC
    clear r0 b0 s0 hS hSx
    go_enter Tryd.func12, Tryd.ntmps12
    go_wp2_with (go_at_call 39; refine HC.out.mono ?_; rintro e w1 ⟨rfl, rfl⟩)
    go_ret2
    exact ⟨rfl, HBW.out⟩
  · rw [h1] at HC
    cases h2 : vtext s.data.toList
    · obtain ⟨e1, e2⟩ := so_no (S := S) (L := s.data.toList) (by rw [HSB.out, h1, h2]; rfl)
      rw [e1, e2]
      rw [h2] at HT
      clear r0 b0 s0 hS hSx
      go_enter Tryd.func12, Tryd.ntmps12
      go_wp2_with (first | (go_at_call 39; refine HC.out.mono ?_; rintro e w1 ⟨rfl, rfl⟩) | (go_at_call 40; refine (HT.out _).mono ?_; rintro e w1 ⟨rfl, rfl⟩))
      go_ret2
      exact ⟨rfl, HBW.out⟩
    · obtain ⟨e1, e2⟩ := so_ok (S := S) (L := s.data.toList) (by rw [HSB.out, h1, h2]; rfl)
      rw [e1, e2]
      rw [h2] at HT
      have HLI := hide (l05List_any S hS hSx s _ _ h2 r0 s0)
      have HSU := hide (fun A c W h => l05Sum_any A (stkL S s.data.toList) c W (stk_n h2) (stk_b30 hS h1 h2) h)
      generalize stkL S s.data.toList = xs at *
      clear r0 s0 hS hSx e1 e2
      go_enter Tryd.func12, Tryd.ntmps12
      go_wp2_with (first | (go_at_call 39; refine HC.out.mono ?_; rintro e w1 ⟨rfl, rfl⟩) | (go_at_call 40; refine (HT.out _).mono ?_; rintro e w1 ⟨rfl, rfl⟩) | (go_at_call 42; refine HLI.out.mono ?_; rintro e w1 ⟨Q1, k1, rfl, _, hI1, hb1⟩) | (go_at_call 41; refine (HSU.out _ _ _ hI1.at_).mono ?_; rintro e w2 ⟨rfl, rfl⟩))
      go_ret2
      exact ⟨rfl, b0.trans (hb1.mono b0.size)⟩

set_option maxRecDepth 100000 in
set_option maxHeartbeats 4000000 in
theorem implStrokesOf_any (S : List Int) (hS : S.length = 26) (hSx : ∀ x ∈ S, i8ok x) (s : ByteArray) (hs : s.size ≤ maxLen) (w : World) (hG : Glob w) :
    Calls Tryd.prog 14 #[.agg (wc S).toArray, .string s] w fun e w' => e = .returned (.tuple #[.int .i64 (soV S s.data.toList), .int .i64 (soC S s.data.toList)]) ∧ Below w.heap.size w w' := by
  have hi : (Tryd.prog.info? 26).map (·.size) = some (wc S).length := by rw [wc_length, hS]; kernel_rfl
  have HI := hide hi
  have r0 := rangeAt_new w (wc S) 26
  have b0 : Below w.heap.size w (w.alloc (.cells (wc S).toArray 26)) := (Below.refl _ _).alloc (Nat.le_refl _) _
  have s0 : w.heap.size < (w.alloc (.cells (wc S).toArray 26)).heap.size := by simp
  have HG := hide (hG.below b0)
  have HC := hide (fun W => implValidStrokes_any S hS hSx W)
  have HT := hide (fun W => implValidText_any s W hs)
  have HSB := hide (show soB S s.data.toList = (vstr S && vtext s.data.toList) from rfl)
  unfold maxLen at hs
  cases h1 : vstr S
  · obtain ⟨e1, e2⟩ := so_no (S := S) (L := s.data.toList) (by rw [HSB.out, h1]; rfl)
    rw [e1, e2]
    rw [h1] at HC
    clear hS hSx hi hG
    go_enter Tryd.func14, Tryd.ntmps14
    go_wp2_with (refine wpList_load_mid rfl 26 (.tmp 2) rfl _ 0 rfl (wc S) _ r0 Tryd.underlying26 rfl HI.out ?_)
    generalize (w.alloc (.cells (wc S).toArray 26)) = W0 at *
    refine (HC.out _).mono ?_
    rintro e w1 ⟨rfl, hb1⟩
    go_wp2
    go_ret2
    exact ⟨rfl, b0.trans (hb1.mono b0.size)⟩
  · rw [h1] at HC
    cases h2 : vtext s.data.toList
    · obtain ⟨e1, e2⟩ := so_no (S := S) (L := s.data.toList) (by rw [HSB.out, h1, h2]; rfl)
      rw [e1, e2]
      rw [h2] at HT
      clear hS hSx hi hG
      go_enter Tryd.func14, Tryd.ntmps14
      go_wp2_with (refine wpList_load_mid rfl 26 (.tmp 2) rfl _ 0 rfl (wc S) _ r0 Tryd.underlying26 rfl HI.out ?_)
      generalize (w.alloc (.cells (wc S).toArray 26)) = W0 at *
      refine (HC.out _).mono ?_
      rintro e w1 ⟨rfl, hb1⟩
      have hB1 := b0.trans (hb1.mono b0.size)
      go_wp2_with (go_at_call 44; refine (HT.out _).mono ?_; rintro e w2 ⟨rfl, hb2⟩)
      go_ret2
      exact ⟨rfl, hB1.trans (hb2.mono hB1.size)⟩
    · obtain ⟨e1, e2⟩ := so_ok (S := S) (L := s.data.toList) (by rw [HSB.out, h1, h2]; rfl)
      rw [e1, e2]
      rw [h2] at HT
      have HLI := hide (fun W hW => strokesIn_any S hS hSx s W h2 hW)
      have HSU := hide (fun A c W h => sumOf_any A (stkL S s.data.toList) c W (stk_n h2) (stk_b30 hS h1 h2) h)
      generalize stkL S s.data.toList = xs at *
      clear hS hSx hi hG e1 e2
      go_enter Tryd.func14, Tryd.ntmps14
      go_wp2_with (refine wpList_load_mid rfl 26 (.tmp 2) rfl _ 0 rfl (wc S) _ r0 Tryd.underlying26 rfl HI.out ?_)
      generalize (w.alloc (.cells (wc S).toArray 26)) = W0 at *
      refine (HC.out _).mono ?_
      rintro e w1 ⟨rfl, hb1⟩
      have hB1 := b0.trans (hb1.mono b0.size)
      go_wp2_with fail
      refine (HT.out _).mono ?_
      rintro e w2 ⟨rfl, hb2⟩
      have hB2 := hB1.trans (hb2.mono hB1.size)
      have hb12 := hb1.trans (hb2.mono hb1.size)
      have r2 := rangeAt_below r0 hb12 s0
      go_wp2_with (first | (refine wpList_load_mid rfl 26 (.tmp 2) rfl _ 0 rfl (wc S) _ r2 Tryd.underlying26 rfl HI.out ?_) | (go_at_call 46; refine (HLI.out _ (HG.out.below hb12)).mono ?_; rintro e w3 ⟨Q1, k1, rfl, _, hI1, hb3⟩) | (go_at_call 45; refine (HSU.out _ _ _ hI1.at_).mono ?_; rintro e w4 ⟨rfl, rfl⟩))
      go_ret2
      exact ⟨rfl, hB2.trans (hb3.mono hB2.size)⟩
end Go.Proofs.YtkbemhjeflmppaaDoor
