/- The program: stints and times of a chisel; TimeFor. -/
import Derived.Test.YtkbemhjeflmppaaDoorChN
import Derived.Test.YtkbemhjeflmppaaDoorChC
import Derived.StillTailTactics
namespace Go.Proofs.YtkbemhjeflmppaaDoor
open Go Go.RowKit

set_option maxRecDepth 100000 in
set_option maxHeartbeats 4000000 in
theorem those1_any (f : FuncId) (he : Enters Tryd.prog f) (Q : Nat) (p : Int → Bool) (A : Option Addr) (xs : List Int) (c : Nat) (w : World) (hn : xs.length ≤ 1048576) (hA : IntsAt w w.heap.size A xs)
    (hf : ∀ x ∈ xs, ∀ W, Below w.heap.size w W → Calls Tryd.prog f #[.int .i64 x, .pointer (some ⟨Q, 0, none⟩)] W fun e w' => e = .returned (.bool (p x)) ∧ Below W.heap.size W w') :
    Calls Tryd.prog 51 #[.slice A xs.length c, .func (.func f) #[] #[.pointer (some ⟨Q, 0, none⟩)]] w (IntsB (xs.filter p) w) := by
  obtain ⟨i0, hi0, hz0, hz1, hz2⟩ := info_parts Tryd.infoI64
  have HF := hide hf
  have HX := hide hA
  have HLN : Hid (∀ k, ((xs.take k).filter p).length ≤ k) := hide (fun k => Nat.le_trans (List.length_filter_le _ _) (by simp; omega))
  obtain ⟨n, hL⟩ : ∃ n, xs.length = n := ⟨_, rfl⟩
  have HL := hide hL
  rw [hL] at hn ⊢
  clear hL hf hA
  unfold Enters at he
  go_enter Tryd.func51, Tryd.ntmps51
  go_wp2
  go_loopw [5, 10] (fun br i wr => ∃ k : Nat, k ≤ n ∧ i = .int .i64 k ∧ wr.ownsRow w.heap.size 2 1 br ((xs.take k).filter p).length (((xs.take k).filter p).map (.int .i64)) ∧ Below w.heap.size w wr)
    (fun _ i _ => n - (intOf i).toNat)
  case atStart => exact ⟨0, by omega, rfl, by simp only [List.take_zero, List.filter_nil, List.map_nil, List.length_nil]; exact World.ownsRow_nil _ _ _ _, Below.refl _ _⟩
  case round =>
    obtain ⟨k, hk, rfl, hown, hB⟩ := hrel
    obtain ⟨Ab, cbb, rfl, hcap, _⟩ := cellsIn_of_own hown (by omega)
    have hbs := hB.size
    have HOWN := hide hown
    clear hown
    by_cases hlt : k < n
    · obtain ⟨b, o, rfl, hb, hxs⟩ := HX.out (by intro e; rw [e] at HL; have := HL.out; simp at this; omega)
      obtain ⟨x, hx⟩ : ∃ x, xs[k]? = some x := ⟨xs[k]'(by rw [HL.out]; exact hlt), List.getElem?_eq_getElem _⟩
      have c0 : wr.cell? ⟨b, o + k, none⟩ = some (.int .i64 x) := (hB.cell (p := ⟨b, o + k, none⟩) hb).trans (hxs k x hx)
      have hi : (k : Int) < n := by omega
      have h0 : (0 : Int) ≤ k := by omega
      have hln := HLN.out k
      have HC := hide (HF.out x (List.mem_of_getElem? hx) wr hB)
      have HTK : Hid (xs.take (k + 1) = xs.take k ++ [x]) := hide (by rw [List.take_add_one, hx]; rfl)
      clear hxs hx
      cases hp : p x
      · have HE : Hid ((xs.take (k + 1)).filter p = (xs.take k).filter p) := hide (by rw [HTK.out, List.filter_append]; simp [hp])
        rw [hp] at HC
        go_wp2_with (go_at_fn f; refine HC.out.mono ?_; rintro e w1 ⟨rfl, hb1⟩)
        refine ⟨⟨k + 1, by omega, by go_num, ?_, hB.trans (hb1.mono hbs)⟩, by simp [intOf]; omega⟩
        rw [HE.out]
        exact own_go HOWN.out hb1
      · have HE : Hid ((xs.take (k + 1)).filter p = (xs.take k).filter p ++ [x]) := hide (by rw [HTK.out, List.filter_append]; simp [hp])
        rw [hp] at HC
        go_wp2_with fail
        go_at_fn f
        refine HC.out.mono ?_
        rintro e w1 ⟨rfl, hb1⟩
        have hown3 := own_go HOWN.out hb1
        have hB3 := hB.trans (hb1.mono hbs)
        have hs3 := hB3.size
        clear hb1 HC
        go_wp2_with (at_builtin; refine wpList_append_own _ rfl (.tmp 17) (.tmp 19) 32 rfl w.heap.size 2 i0 (.int .i64 0) 1 8 Tryd.underlying32 hi0 hz0 hz1 hz2 rfl (by decide) _ ((xs.take k).filter p).length _ rfl (hown3.alloc _) ⟨w1.heap.size, 0, none⟩ 1 1 [.int .i64 x] rfl rfl (one_cell _) (one_one rfl) ?h1 ?h2 ?h3 ?_)
        case h1 => unfold maxLen; omega
        case h2 => omega
        case h3 => simp; omega
        intro v' w4 hown4 hg4 _
        obtain ⟨A4, c4, rfl, _, _⟩ := cellsIn_of_own hown4 (by omega)
        have H4 := hide hown4
        have hg34 : w1.grownBy w4 _ := grown_trans (World.grownBy_alloc w1 _ _) hg4
        have hB4 := hB3.trans (grown_toBelow hg34 (by omega) (fun k hk => (hown3.lt k hk).1))
        clear hown4 hg4 hg34 hown3
        go_wp2
        refine ⟨⟨k + 1, by omega, by go_num, ?_, hB4⟩, by simp [intOf]; omega⟩
        rw [HE.out, List.map_append, List.length_append]
        exact H4.out
    · obtain rfl : k = n := by omega
      obtain ⟨Ag, cg, e, _, hI⟩ := intsIn_of_own HOWN.out
      injection e with e1 e2 e3
      subst e1 e3
      have HI := hide hI
      have HTA : Hid (xs.take k = xs) := hide (by rw [← HL.out]; exact List.take_length)
      clear hI
      rw [HTA.out] at HI hcap ⊢
      go_wp2
      go_ret
      exact ⟨Ab, cbb, rfl, hcap, HI.out, hB⟩


theorem chRow (h p : Int) (w : World) (t : TypeId) : (w.alloc (.cells #[.int .i16 h, .int .i8 p] t)).rangeAt w.heap.size 0 [.int .i16 h, .int .i8 p] ∧ Below w.heap.size w (w.alloc (.cells #[.int .i16 h, .int .i8 p] t)) ∧ w.heap.size + 1 ≤ (w.alloc (.cells #[.int .i16 h, .int .i8 p] t)).heap.size :=
  ⟨rangeAt_new' _ _ _, (Below.refl _ _).alloc (Nat.le_refl _) _, by simp⟩

set_option maxRecDepth 100000 in
set_option maxHeartbeats 4000000 in
theorem stints_any (h p : Int) (hh : 30 ≤ h ∧ h ≤ 1000) (A : Option Addr) (xs : List Int) (c : Nat) (w : World) (hn : xs.length ≤ 60) (hx : ∀ x ∈ xs, 0 ≤ x ∧ x ≤ 30) (hA : IntsAt w w.heap.size A xs) :
    Calls Tryd.prog 50 #[.agg #[.int .i16 h, .int .i8 p], .slice A xs.length c] w (IntsB (stnL h xs) w) := by
  obtain ⟨h1, h2⟩ := hh
  obtain ⟨r0, b0, s0⟩ := chRow h p w 35
  have c0 := rangeAt_cell (k := 0) r0 rfl
  have HS := hide (fun W (hW : Below w.heap.size w W) => stintsOf_any A xs c h W hn (fun x hxm => ⟨(hx x hxm).1, by have := (hx x hxm).2; omega⟩) (by omega) (by omega) (hA.go hW))
  have HB := hide b0
  generalize xs.length = n at *
  clear hA hx r0
  go_enter Tryd.func50, Tryd.ntmps50
  go_wp2_with fail
  generalize (w.alloc (.cells #[.int .i16 h, .int .i8 p] 35)) = W0 at *
  refine (HS.out W0 HB.out).mono ?_
  rintro e w1 ⟨Q1, k1, rfl, hk, hI, hb1⟩
  go_wp2
  go_ret
  exact ⟨Q1, k1, rfl, hk, hI.wider HB.out.size, HB.out.trans (hb1.mono HB.out.size)⟩

/-- The minutes, when the first k are reckoned. -/
def dnT (h p : Int) (xs : List Int) (k : Nat) : List Int := (doneL h p xs).take k ++ (stnL h xs).drop k
theorem dnT_len (h p : Int) (xs : List Int) {k : Nat} (hk : k ≤ xs.length) : (dnT h p xs k).length = xs.length := by simp [dnT, doneL_len, stnL_len]; omega
theorem dnT_zero (h p : Int) (xs : List Int) : dnT h p xs 0 = stnL h xs := by simp [dnT]
theorem dnT_all (h p : Int) (xs : List Int) : dnT h p xs xs.length = doneL h p xs := by
  unfold dnT
  rw [List.take_of_length_le (by rw [doneL_len]; omega), List.drop_of_length_le (by rw [stnL_len]; omega), List.append_nil]
theorem dnT_get {h p : Int} {xs : List Int} {k : Nat} (hk : k < xs.length) : (dnT h p xs k)[k]? = some (stS h xs (k + 1)).1 := by
  unfold dnT
  rw [List.getElem?_append_right (by rw [List.length_take, doneL_len]; omega), List.length_take, doneL_len, List.getElem?_drop]
  rw [show k + (k - min k xs.length) = k by omega, stnL_get hk]
theorem dnT_next {h p : Int} {xs : List Int} {k j : Nat} {x : Int} (hk : k < xs.length) (hj : (dnT h p xs (k + 1))[j]? = some x) : (j = k ∧ x = timeT h p xs (k + 1)) ∨ (j ≠ k ∧ (dnT h p xs k)[j]? = some x) := by
  have hjl : j < xs.length := by have := (List.getElem?_eq_some_iff.1 hj).1; rwa [dnT_len h p xs (by omega)] at this
  by_cases e : j = k
  · subst e
    refine Or.inl ⟨rfl, ?_⟩
    unfold dnT at hj
    rw [List.getElem?_append_left (by rw [List.length_take, doneL_len]; omega), List.getElem?_take, if_pos (by omega), doneL_get hjl] at hj
    exact (Option.some.inj hj).symm
  · refine Or.inr ⟨e, ?_⟩
    rw [← hj]
    unfold dnT
    by_cases hlt : j < k
    · rw [List.getElem?_append_left (by rw [List.length_take, doneL_len]; omega), List.getElem?_append_left (by rw [List.length_take, doneL_len]; omega), List.getElem?_take, List.getElem?_take, if_pos hlt, if_pos (by omega)]
    · rw [List.getElem?_append_right (by rw [List.length_take, doneL_len]; omega), List.getElem?_append_right (by rw [List.length_take, doneL_len]; omega), List.length_take, List.length_take, doneL_len, List.getElem?_drop, List.getElem?_drop]
      congr 1
      omega

set_option maxRecDepth 100000 in
set_option maxHeartbeats 8000000 in
theorem doneAt_any (h p : Int) (hh : 30 ≤ h ∧ h ≤ 1000) (hp : 0 ≤ p ∧ p ≤ 100) (A : Option Addr) (xs : List Int) (c : Nat) (w : World) (hn : xs.length ≤ 60) (hx : ∀ x ∈ xs, 0 ≤ x ∧ x ≤ 30) (hA : IntsAt w w.heap.size A xs) :
    Calls Tryd.prog 58 #[.agg #[.int .i16 h, .int .i8 p], .slice A xs.length c] w (IntsB (doneL h p xs) w) := by
  obtain ⟨p1, p2⟩ := hp
  obtain ⟨r0, b0, s0⟩ := chRow h p w 35
  have c0 := rangeAt_cell (k := 0) r0 rfl
  have c1 := rangeAt_cell (k := 1) r0 rfl
  have HC1 := hide c1
  have HS := hide (fun W (hW : Below w.heap.size w W) => stints_any h p hh A xs c W hn hx (hA.go hW))
  have HB := hide b0
  have HX := hide hx
  have HTB := hide (fun k (hk : k ≤ xs.length) => timeT_bd (room := h) (sh := p) hx hh.1 p1 p2 hk)
  have HSM := hide (sumT_bd hx)
  have HST := hide (stS_bd hx hh.1 (by omega))
  have HTT := hide (fun k => show timeT h p xs k = sumT xs k + (stS h xs k).1 * p from rfl)
  have HDG := hide (fun k hk => dnT_get (h := h) (p := p) (xs := xs) (k := k) hk)
  have HDN := hide (fun k j x hk hj => dnT_next (h := h) (p := p) (xs := xs) (k := k) (j := j) (x := x) hk hj)
  have HA := hide (fun W (hW : Below w.heap.size w W) => hA.go hW)
  have HL1 := hide (stnL_len h xs)
  have HL2 := hide (doneL_len h p xs)
  have HZ := hide (dnT_zero h p xs)
  have HALL := hide (dnT_all h p xs)
  have HDL := hide (fun k hk => dnT_len h p xs (k := k) hk)
  obtain ⟨n, hN⟩ : ∃ n, xs.length = n := ⟨_, rfl⟩
  have HN := hide hN
  rw [hN] at hn HS HTB HSM HST HDG HDN HL1 HL2 HALL HDL ⊢
  clear hN hx hA r0 hh
  go_enter Tryd.func58, Tryd.ntmps58
  go_wp2_with fail
  generalize (w.alloc (.cells #[.int .i16 h, .int .i8 p] 35)) = W0 at *
  refine (HS.out W0 HB.out).mono ?_
  rintro e w1 ⟨Q1, k1, rfl, hk1, hI, hb1⟩
  rw [HL1.out]
  have hB1 := HB.out.trans (hb1.mono HB.out.size)
  have hz0 := HB.out.size
  have hz1 := hb1.size
  have HC2 := hide ((hb1.cell (p := ⟨w.heap.size, 1, none⟩) (show w.heap.size < W0.heap.size by omega)).trans HC1.out)
  have HI := hide hI
  have HBW1 := hide hB1
  rw [HL1.out] at hk1
  clear c0 c1 hI hb1 HC1 hB1
  go_wp2
  go_loopw [6, 14] (fun cu i wr => ∃ k : Nat, k ≤ n ∧ i = .int .i64 k ∧ cu = .int .i64 (sumT xs k) ∧ IntsIn wr W0.heap.size Q1 (dnT h p xs k) ∧ wr.cell? ⟨w.heap.size, 1, none⟩ = some (.int .i8 p) ∧ Below w.heap.size w wr)
    (fun _ i _ => n - (intOf i).toNat)
  case atStart => exact ⟨0, Nat.zero_le _, rfl, rfl, by rw [HZ.out]; exact HI.out, HC2.out, HBW1.out⟩
  case round =>
    obtain ⟨k, hk, rfl, rfl, hID, hcp, hB⟩ := hrel
    have hbs := hB.size
    by_cases hlt : k < n
    · obtain ⟨b, o, rfl, hb2, hxs⟩ := HA.out wr hB (by intro e; rw [e] at HN; have := HN.out; simp at this; omega)
      obtain ⟨x, hxk⟩ : ∃ x, xs[k]? = some x := ⟨xs[k]'(by rw [HN.out]; exact hlt), List.getElem?_eq_getElem _⟩
      have c0 := hxs k x hxk
      obtain ⟨x1, x2⟩ := HX.out x (List.mem_of_getElem? hxk)
      have hg := HDG.out k hlt
      obtain ⟨bq, oq, rfl, hbq, hbq2, hqc, hqt⟩ := hID (by intro e; rw [e] at hg; simp at hg)
      have d0 := hqc k _ hg
      rw [HDL.out k hk] at hqt
      have f0 := (hqt k hlt).2
      obtain ⟨t1, t2, t3, t4⟩ := HTB.out (k + 1) (by omega)
      obtain ⟨m1, m2⟩ := HSM.out k hk
      obtain ⟨q1, q2⟩ := (HST.out (k + 1) (by omega)).1
      have HSS := hide (sumT_succ hxk)
      have HT1 := hide (HTT.out (k + 1))
      have HIDX := hide (fun j y hj => HDN.out k j y hlt hj)
      have HQC := hide hqc
      have HQT := hide hqt
      have hi : (k : Int) < n := by omega
      have hk0 : (0 : Int) ≤ k := by omega
      obtain ⟨st, hst⟩ : ∃ st, (stS h xs (k + 1)).1 = st := ⟨_, rfl⟩
      rw [hst] at d0 t3 t4 q1 q2 HT1
      rw [HSS.out] at HT1
      generalize hcu : sumT xs k = cu at m1 m2 HSS HT1 ⊢
      clear hst hg hxs hxk hqc hqt hcu
      have e7 := IntWalk.i64_in p ⟨by omega, by omega⟩
      have e8 := IntWalk.i64_in (st * p) ⟨by omega, by omega⟩
      have e9 := IntWalk.i64_in (cu + x + st * p) ⟨by omega, by omega⟩
      go_wp2
      go_still_tail 13, (by kernel_rfl)
      change wpList _ _ _ _ _ wr.drew
      go_wp2
      have hne : w.heap.size ≠ bq := by omega
      refine ⟨⟨k + 1, by omega, by go_num, by rw [HSS.out], ?_, ?_, (hB.setCell (p := ⟨bq, oq + k, none⟩) (by show w.heap.size ≤ bq; omega) _).drew⟩, by simp [intOf]; omega⟩
      · intro _
        refine ⟨bq, oq, rfl, hbq, by show bq < (wr.setCell ⟨bq, oq + k, none⟩ _).heap.size; rw [size_setCell]; exact hbq2, fun j y hj => ?_, ?_⟩
        · show (wr.setCell ⟨bq, oq + k, none⟩ _).cell? _ = _
          rcases HIDX.out j y hj with ⟨rfl, e⟩ | ⟨hjk, hj2⟩
          · rw [World.cell?_setCell_same' _ _ _ (by rw [d0]; rfl), e, HT1.out]
          · rw [World.cell?_setCell_other _ _ _ _ (by intro h; injection h with _ h; omega)]
            exact HQC.out j y hj2
        · rw [HDL.out (k + 1) (by omega)]
          exact there_set HQT.out _ _
      · show (wr.setCell ⟨bq, oq + k, none⟩ _).cell? _ = _
        rw [World.cell?_setCell_other _ _ _ _ (by intro h; injection h with h _; omega)]
        exact hcp
    · obtain rfl : k = n := by omega
      rw [HALL.out] at hID
      have HID := hide hID
      clear hID hcp
      go_wp2
      go_ret
      exact ⟨Q1, k1, by rw [HL2.out]; rfl, by rw [HL2.out]; exact hk1, HID.out.wider hz0, hB⟩
end Go.Proofs.YtkbemhjeflmppaaDoor
