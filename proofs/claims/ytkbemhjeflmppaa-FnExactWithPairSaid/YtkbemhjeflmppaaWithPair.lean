/- WithPair: the model and the program give the same face and number for every face, and what comes back owns its memory. -/
import Derived.Test.YtkbemhjeflmppaaLoosenS
import Derived.Test.YtkbemhjeflmppaaWpS
import Derived.Test.YtkbemhjeflmppaaWpI
import Derived.Test.YtkbemhjeflmppaaToF
import Derived.Test.YtkbemhjeflmppaaScript2
import Derived.Deep.DeepCutAuto
namespace Go.Proofs.Ytkbemhjeflmppaa
open Go.RowKit

theorem pairsIn_setCells {W : World} {L G : Nat} {A : Option Addr} {ps : List Tri} {vs : List Value} (h : PairsIn W L A ps) (hne : ∀ k, blkP A ps = some k → k ≠ G) : PairsIn (W.setCells G 0 vs) L A ps := by
  intro hn
  obtain ⟨b, o, rfl, h1, h2, h3, h4⟩ := h hn
  have hb := hne b (blkP_some hn)
  exact ⟨b, o, rfl, h1, by rw [size_setCells]; exact h2, fun k p hp => World.rangeAt_setCells_apart (h3 k p hp) _ _ _ (.inl hb), World.there_setCells h4 _ _ _⟩
theorem wpF_ok {F : Fc} (hF : F.ok) {p : Tri} (hp : pok p) : (wpF F p).ok := by
  unfold wpF
  split
  · rename_i h
    have hv : vface F = true := by
      cases e : vface F
      · have := (wp_inv e p).2; rw [h] at this; cases this
      · rfl
    exact putF_ok hF hv hp
  · exact Fc0_ok
theorem wpF_len (F : Fc) (p : Tri) {n : Nat} (h : F.ps.length + 1 ≤ n) : (wpF F p).ps.length ≤ n := by
  unfold wpF
  split
  · have := putL_len F.ps p
    show (putL F.ps p).length ≤ n
    omega
  · exact Nat.zero_le _

set_option maxRecDepth 100000 in
set_option maxHeartbeats 16000000 in
theorem lawWithPair_any (F : Fc) (hF : F.ok) (A : Option Addr) (c : Nat) (x y z : Int) (hp : pok (x, y, z)) (w : World) (hA : PairsAt w w.heap.size A F.ps) :
    Calls Try.prog 11 #[.agg (fc F (.slice A F.ps.length c)).toArray, .agg #[.int .u8 x, .int .u8 y, .int .i8 z]] w fun e w' => e = .returned (.bool true) ∧ Below w.heap.size w w' := by
  have hW := hide hF.len
  have r0 := World.rangeAt_alloc (rangeAt_new w (fc F (.slice A F.ps.length c)) 59) (.cells #[.int .u8 x, .int .u8 y, .int .i8 z] 61)
  have p0 := rangeAt_newg (w := (w.alloc (.cells (fc F (.slice A F.ps.length c)).toArray 59))) (cs := #[.int .u8 x, .int .u8 y, .int .i8 z]) (t := 61) (g := w.heap.size + 1) (l := [.int .u8 x, .int .u8 y, .int .i8 z]) (by simp) rfl
  have b0 : Below w.heap.size w ((w.alloc (.cells (fc F (.slice A F.ps.length c)).toArray 59)).alloc (.cells #[.int .u8 x, .int .u8 y, .int .i8 z] 61)) := ((Below.refl _ _).alloc (Nat.le_refl _) _).alloc (by simp) _
  have s0' : w.heap.size + 1 < ((w.alloc (.cells (fc F (.slice A F.ps.length c)).toArray 59)).alloc (.cells #[.int .u8 x, .int .u8 y, .int .i8 z] 61)).heap.size := by simp
  have s0 : w.heap.size < ((w.alloc (.cells (fc F (.slice A F.ps.length c)).toArray 59)).alloc (.cells #[.int .u8 x, .int .u8 y, .int .i8 z] 61)).heap.size := by omega
  have HIP := hide (show (Try.prog.info? 61).map (·.size) = some ([.int .u8 x, .int .u8 y, .int .i8 z] : List Value).length from by kernel_rfl)
  have HIL := hide (show (Try.prog.info? 59).map (·.size) = some (fc F (.slice A F.ps.length c)).length from by rw [fc_length hW.out]; kernel_rfl)
  have HII := hide (show ∀ F : Fc, F.W.length = 26 → ∀ sl, (Try.prog.info? 65).map (·.size) = some (fc F sl).length from fun F h sl => by rw [fc_length h]; kernel_rfl)
  have HSZ := hide (szFace_any F hF A c 1048576)
  by_cases hbig : szL 1048576 F.ps.length < 0
  · go_enter Try.func11, Try.ntmps11
    go_wp2_with (first
      | (refine wpList_load_mid rfl 59 (.tmp 2) rfl _ 0 rfl (fc F (.slice A F.ps.length c)) _ r0 Try.underlying59 rfl HIL.out ?_)
      | (go_at_call 42; refine (HSZ.out _ (by omega) (by omega)).mono ?_; rintro e w1 ⟨rfl, hb1⟩))
    go_ret
    exact ⟨rfl, b0.trans (hb1.mono b0.size)⟩
  · have hd : decide (szL 1048576 F.ps.length < 0) = false := by simpa using hbig
    have hn : F.ps.length ≤ 1048576 := by unfold szL at hbig; split at hbig <;> omega
    clear hbig
    have hRok : (wpF F (x, y, z)).ok := wpF_ok hF hp
    have hRn : (wpF F (x, y, z)).ps.length ≤ 1048577 := wpF_len F (x, y, z) (by omega)
    have HSP := hide (fun A c w => specWithPair_any F hF A c x y z hp w)
    have HIM := hide (fun b c w => implWithPair_any F hF b 0 c x y z hp.2.2 w)
    generalize wpF F (x, y, z) = R at *
    generalize wpC F (x, y, z) = C at *
    have hRW := hide hRok.len
    have hAW := hA.below b0
    have hd1 : decide ((1 : Int) + 3 * F.ps.length < 0) = false := by simp; omega
    have hd2 : decide ((1 : Int) + 3 * R.ps.length < 0) = false := by simp; omega
    have hn2 : F.ps.length ≤ 2097152 := by omega
    have hRn2 : R.ps.length ≤ 2097152 := by omega
    go_enter Try.func11, Try.ntmps11
    go_wp2_with (refine wpList_load_mid rfl 59 (.tmp 2) rfl _ 0 rfl (fc F (.slice A F.ps.length c)) _ r0 Try.underlying59 rfl HIL.out ?_)
    generalize ((w.alloc (.cells (fc F (.slice A F.ps.length c)).toArray 59)).alloc (.cells #[.int .u8 x, .int .u8 y, .int .i8 z] 61)) = W0 at *
    have hws := b0.size
    refine (HSZ.out _ (by omega) (by omega)).mono ?_
    rintro e w1 ⟨rfl, hb1⟩
    have r1 := rangeAt_over r0 hb1 s0
    have HRx := hide (fun w' (h : Below w1.heap.size w1 w') => rangeAt_below r1 h (Nat.lt_of_lt_of_le s0 hb1.size))
    have p1 := rangeAt_below p0 hb1 s0'
    have HPx := hide (fun w' (h : Below w1.heap.size w1 w') => rangeAt_below p1 h (Nat.lt_of_lt_of_le s0' hb1.size))
    go_upto_region 5 with fail
    go_cut [6, 7] (fun p6 v7 wx => ∃ g As cs, p6 = .pointer (some ⟨g, 0, none⟩) ∧ v7 = .int .i64 C ∧ wx.rangeAt g 0 (fc R (.slice As R.ps.length cs)) ∧ w1.heap.size ≤ g ∧ g < wx.heap.size ∧ PairsIn wx w1.heap.size As R.ps ∧ (∀ k, blkP As R.ps = some k → w1.heap.size ≤ k ∧ k < wx.heap.size ∧ k ≠ g) ∧ Below w1.heap.size w1 wx)
    case first =>
      go_upto_region 5 with fail
      refine wp_region_sct (.now 0 (.now 2 (.two 1 8 (.two 3 8 (.two 4 8 (.now 5 (.now 6 (.now 7 (.one 8 (.one 9 (.one 10 .fin)))))) (.one 4 (.now 5 (.now 6 (.now 7 (.one 9 (.one 10 .fin))))))) (.one 3 (.one 4 (.now 5 (.now 6 (.now 7 (.one 9 (.one 10 .fin)))))))) (.one 1 (.one 3 (.one 4 (.now 5 (.now 6 (.now 7 (.one 9 (.one 10 .fin))))))))))) (fun w' => Below w1.heap.size w1 w') (by kernel_rfl) (by kernel_rfl) (of_decide_eq_true (by kernel_rfl)) (by kernel_rfl) (fun _ _ d _ _ h => by cases d <;> exact h) ((Below.refl _ _).drew) ?_
      have qd : Below w1.heap.size w1 w1.drew := (Below.refl _ _).drew
      obtain ⟨wd, hwd⟩ : ∃ q, q = w1.drew := ⟨_, rfl⟩
      rw [← hwd] at qd ⊢
      clear hwd
      refine sct_now (.agg (fc F (.slice A F.ps.length c)).toArray) rfl (yieldsIf_load_mid (by rfl) _ (.tmp 2) rfl _ 0 rfl _ _ (fun w h => HRx.out w h) Try.underlying59 rfl HIL.out) ?_
      simp only [List.getElem_toArray, List.getElem_cons_succ, List.getElem_cons_zero, Act.put, List.setIfInBounds_toArray, List.set_cons_zero, List.set_cons_succ]
      refine sct_now (.agg #[.int .u8 x, .int .u8 y, .int .i8 z]) rfl (yieldsIf_load_mid (by rfl) _ (.tmp 3) rfl _ 0 rfl _ _ (fun w h => HPx.out w h) Try.underlying61 rfl HIP.out) ?_
      simp only [List.getElem_toArray, List.getElem_cons_succ, List.getElem_cons_zero, Act.put, List.setIfInBounds_toArray, List.set_cons_zero, List.set_cons_succ]
      refine sct_two rfl rfl ?_ ?_
      · go_wp2_with fail
        refine (toFaceB_any F hF A c _ (hAW.go (hb1.trans (qd.mono hb1.size)) hws) hn).mono ?_
        rintro e c1 ⟨bb_, rfl, P0_, hb_c1⟩
        have q_c1 := qd.trans (hb_c1.mono qd.size)
        go_wp2_with fail
        refine ⟨q_c1, ?_⟩
        refine sct_two rfl rfl ?_ ?_
        · go_wp2_with fail
          refine (toPair_any x y z _).mono ?_
          rintro e c2 ⟨rfl, hb_c2⟩
          have q_c2 := q_c1.trans (hb_c2.mono q_c1.size)
          have P_c2 := P0_.below hb_c2 (Nat.le_refl _)
          go_wp2_with fail
          refine ⟨q_c2, ?_⟩
          refine sct_two rfl rfl ?_ ?_
          · go_wp2_with fail
            refine (HSP.out _ _ _ P_c2.at_).mono ?_
            rintro e c3 ⟨As, cs, rfl, S0_, hb_c3⟩
            have q_c3 := q_c2.trans (hb_c3.mono q_c2.size)
            have P_c3 := P_c2.below hb_c3 (Nat.le_refl _)
            go_wp2_with fail
            refine ⟨q_c3, ?_⟩
            refine sct_now _ rfl (.inl ⟨rfl, fun w _ => rfl⟩) ?_
            simp only [List.getElem_toArray, List.getElem_cons_succ, List.getElem_cons_zero, Act.put, List.setIfInBounds_toArray, List.set_cons_zero, List.set_cons_succ]
            refine sct_now _ rfl (.inl ⟨rfl, fun w _ => rfl⟩) ?_
            simp only [List.getElem_toArray, List.getElem_cons_succ, List.getElem_cons_zero, Act.put, List.setIfInBounds_toArray, List.set_cons_zero, List.set_cons_succ]
            refine sct_now _ rfl (.inl ⟨rfl, fun w _ => rfl⟩) ?_
            simp only [List.getElem_toArray, List.getElem_cons_succ, List.getElem_cons_zero, Act.put, List.setIfInBounds_toArray, List.set_cons_zero, List.set_cons_succ]
            refine sct_one rfl ?_
            go_wp2
            have hb_c4 : Below c3.heap.size c3 (c3.alloc (.cells #[.int .i8 0, .int .i8 0, .int .i8 0, .int .i8 0, .int .i8 0, .int .i8 0, .int .i8 0, .int .i8 0, .int .i8 0, .int .i8 0, .int .i8 0, .int .i8 0, .int .i8 0, .int .i8 0, .int .i8 0, .int .i8 0, .int .i8 0, .int .i8 0, .int .i8 0, .int .i8 0, .int .i8 0, .int .i8 0, .int .i8 0, .int .i8 0, .int .i8 0, .int .i8 0, .int .i8 0, .int .i8 0, .slice none 0 0] 65)) := (Below.refl _ _).alloc (Nat.le_refl _) _
            have T0_c4 := there_newg (w := c3) (cs := #[.int .i8 0, .int .i8 0, .int .i8 0, .int .i8 0, .int .i8 0, .int .i8 0, .int .i8 0, .int .i8 0, .int .i8 0, .int .i8 0, .int .i8 0, .int .i8 0, .int .i8 0, .int .i8 0, .int .i8 0, .int .i8 0, .int .i8 0, .int .i8 0, .int .i8 0, .int .i8 0, .int .i8 0, .int .i8 0, .int .i8 0, .int .i8 0, .int .i8 0, .int .i8 0, .int .i8 0, .int .i8 0, .slice none 0 0]) (t := 65) (g := c3.heap.size) (n := 29) rfl rfl
            have gl_c4 : c3.heap.size < (c3.alloc (.cells #[.int .i8 0, .int .i8 0, .int .i8 0, .int .i8 0, .int .i8 0, .int .i8 0, .int .i8 0, .int .i8 0, .int .i8 0, .int .i8 0, .int .i8 0, .int .i8 0, .int .i8 0, .int .i8 0, .int .i8 0, .int .i8 0, .int .i8 0, .int .i8 0, .int .i8 0, .int .i8 0, .int .i8 0, .int .i8 0, .int .i8 0, .int .i8 0, .int .i8 0, .int .i8 0, .int .i8 0, .int .i8 0, .slice none 0 0] 65)).heap.size := by simp
            obtain ⟨c4, hx_c4⟩ : ∃ q, q = (c3.alloc (.cells #[.int .i8 0, .int .i8 0, .int .i8 0, .int .i8 0, .int .i8 0, .int .i8 0, .int .i8 0, .int .i8 0, .int .i8 0, .int .i8 0, .int .i8 0, .int .i8 0, .int .i8 0, .int .i8 0, .int .i8 0, .int .i8 0, .int .i8 0, .int .i8 0, .int .i8 0, .int .i8 0, .int .i8 0, .int .i8 0, .int .i8 0, .int .i8 0, .int .i8 0, .int .i8 0, .int .i8 0, .int .i8 0, .slice none 0 0] 65)) := ⟨_, rfl⟩
            rw [← hx_c4] at hb_c4 T0_c4 gl_c4 ⊢
            clear hx_c4
            have q_c4 := q_c3.trans (hb_c4.mono q_c3.size)
            have P_c4 := P_c3.below hb_c4 (Nat.le_refl _)
            have S_c4 := S0_.below hb_c4 (Nat.le_refl _)
            refine ⟨q_c4, ?_⟩
            refine sct_one rfl ?_
            have T9_ : c4.there c3.heap.size 0 (fc R (.slice As R.ps.length cs)).toArray.size := by simp only [List.size_toArray]; rw [fc_length hRW.out]; exact T0_c4
            have ge_ : w1.heap.size ≤ c3.heap.size := q_c3.size
            refine wpList_store_mid rfl 65 (.tmp 6) (.tmp 27) rfl c3.heap.size 0 (fc R (.slice As R.ps.length cs)).toArray rfl rfl T9_ (HII.out R hRW.out _) (fc_one _ _ _ _) ?_
            go_wp2_with fail
            have ne_ : ∀ k, blkP As R.ps = some k → k ≠ c3.heap.size := fun k hk => by have := blkP_bd S0_ k hk; omega
            have q9_ := below_setCells (fc R (.slice As R.ps.length cs)).toArray.toList c3.heap.size 0 _ q_c4 ge_
            have r9_ := World.rangeAt_setCells_same c4 c3.heap.size 0 (fc R (.slice As R.ps.length cs)).toArray.toList T9_
            have S9_ := pairsIn_setCells (vs := (fc R (.slice As R.ps.length cs)).toArray.toList) S_c4 ne_
            have gl9_ : c3.heap.size < (c4.setCells c3.heap.size 0 (fc R (.slice As R.ps.length cs)).toArray.toList).heap.size := by rw [size_setCells]; exact gl_c4
            obtain ⟨w9, hx9_⟩ : ∃ q, q = (c4.setCells c3.heap.size 0 (fc R (.slice As R.ps.length cs)).toArray.toList) := ⟨_, rfl⟩
            rw [← hx9_] at q9_ r9_ S9_ gl9_ ⊢
            clear hx9_
            refine ⟨q9_, ?_⟩
            refine sct_one rfl ?_
            go_wp2
            refine sct_fin ?_
            go_wp2
            go_meet
            exact ⟨c3.heap.size, As, cs, rfl, rfl, r9_, ge_, gl9_, PairsIn.mono S9_ (q_c2.size), fun k hk => ⟨Nat.le_trans (q_c2.size) (blkP_bd S9_ k hk).1, (blkP_bd S9_ k hk).2, ne_ k hk⟩, q9_⟩
          · go_wp2
            have hb_c7 : Below c2.heap.size c2 (c2.alloc (.cells #[.int .i8 0, .int .i8 0, .int .i8 0, .int .i8 0, .int .i8 0, .int .i8 0, .int .i8 0, .int .i8 0, .int .i8 0, .int .i8 0, .int .i8 0, .int .i8 0, .int .i8 0, .int .i8 0, .int .i8 0, .int .i8 0, .int .i8 0, .int .i8 0, .int .i8 0, .int .i8 0, .int .i8 0, .int .i8 0, .int .i8 0, .int .i8 0, .int .i8 0, .int .i8 0, .int .i8 0, .int .i8 0, .slice none 0 0] 65)) := (Below.refl _ _).alloc (Nat.le_refl _) _
            have T0_c7 := there_newg (w := c2) (cs := #[.int .i8 0, .int .i8 0, .int .i8 0, .int .i8 0, .int .i8 0, .int .i8 0, .int .i8 0, .int .i8 0, .int .i8 0, .int .i8 0, .int .i8 0, .int .i8 0, .int .i8 0, .int .i8 0, .int .i8 0, .int .i8 0, .int .i8 0, .int .i8 0, .int .i8 0, .int .i8 0, .int .i8 0, .int .i8 0, .int .i8 0, .int .i8 0, .int .i8 0, .int .i8 0, .int .i8 0, .int .i8 0, .slice none 0 0]) (t := 65) (g := c2.heap.size) (n := 29) rfl rfl
            have gl_c7 : c2.heap.size < (c2.alloc (.cells #[.int .i8 0, .int .i8 0, .int .i8 0, .int .i8 0, .int .i8 0, .int .i8 0, .int .i8 0, .int .i8 0, .int .i8 0, .int .i8 0, .int .i8 0, .int .i8 0, .int .i8 0, .int .i8 0, .int .i8 0, .int .i8 0, .int .i8 0, .int .i8 0, .int .i8 0, .int .i8 0, .int .i8 0, .int .i8 0, .int .i8 0, .int .i8 0, .int .i8 0, .int .i8 0, .int .i8 0, .int .i8 0, .slice none 0 0] 65)).heap.size := by simp
            obtain ⟨c7, hx_c7⟩ : ∃ q, q = (c2.alloc (.cells #[.int .i8 0, .int .i8 0, .int .i8 0, .int .i8 0, .int .i8 0, .int .i8 0, .int .i8 0, .int .i8 0, .int .i8 0, .int .i8 0, .int .i8 0, .int .i8 0, .int .i8 0, .int .i8 0, .int .i8 0, .int .i8 0, .int .i8 0, .int .i8 0, .int .i8 0, .int .i8 0, .int .i8 0, .int .i8 0, .int .i8 0, .int .i8 0, .int .i8 0, .int .i8 0, .int .i8 0, .int .i8 0, .slice none 0 0] 65)) := ⟨_, rfl⟩
            rw [← hx_c7] at hb_c7 T0_c7 gl_c7 ⊢
            clear hx_c7
            have q_c7 := q_c2.trans (hb_c7.mono q_c2.size)
            have P_c7 := P_c2.below hb_c7 (Nat.le_refl _)
            refine ⟨q_c7, ?_⟩
            refine sct_one rfl ?_
            go_wp2_with fail
            refine (HSP.out _ _ _ P_c7.at_).mono ?_
            rintro e c8 ⟨As, cs, rfl, S0_, hb_c8⟩
            have q_c8 := q_c7.trans (hb_c8.mono q_c7.size)
            have P_c8 := P_c7.below hb_c8 (Nat.le_refl _)
            have T_c8 := there_below T0_c7 hb_c8 gl_c7
            have gl_c8 : c2.heap.size < c8.heap.size := Nat.lt_of_lt_of_le gl_c7 hb_c8.size
            go_wp2_with fail
            refine ⟨q_c8, ?_⟩
            refine sct_now _ rfl (.inl ⟨rfl, fun w _ => rfl⟩) ?_
            simp only [List.getElem_toArray, List.getElem_cons_succ, List.getElem_cons_zero, Act.put, List.setIfInBounds_toArray, List.set_cons_zero, List.set_cons_succ]
            refine sct_now _ rfl (.inl ⟨rfl, fun w _ => rfl⟩) ?_
            simp only [List.getElem_toArray, List.getElem_cons_succ, List.getElem_cons_zero, Act.put, List.setIfInBounds_toArray, List.set_cons_zero, List.set_cons_succ]
            refine sct_now _ rfl (.inl ⟨rfl, fun w _ => rfl⟩) ?_
            simp only [List.getElem_toArray, List.getElem_cons_succ, List.getElem_cons_zero, Act.put, List.setIfInBounds_toArray, List.set_cons_zero, List.set_cons_succ]
            refine sct_one rfl ?_
            have T9_ : c8.there c2.heap.size 0 (fc R (.slice As R.ps.length cs)).toArray.size := by simp only [List.size_toArray]; rw [fc_length hRW.out]; exact T_c8
            have ge_ : w1.heap.size ≤ c2.heap.size := q_c2.size
            refine wpList_store_mid rfl 65 (.tmp 6) (.tmp 27) rfl c2.heap.size 0 (fc R (.slice As R.ps.length cs)).toArray rfl rfl T9_ (HII.out R hRW.out _) (fc_one _ _ _ _) ?_
            go_wp2_with fail
            have ne_ : ∀ k, blkP As R.ps = some k → k ≠ c2.heap.size := fun k hk => by have := blkP_bd S0_ k hk; have := (gl_c7 : c2.heap.size < c7.heap.size); omega
            have q9_ := below_setCells (fc R (.slice As R.ps.length cs)).toArray.toList c2.heap.size 0 _ q_c8 ge_
            have r9_ := World.rangeAt_setCells_same c8 c2.heap.size 0 (fc R (.slice As R.ps.length cs)).toArray.toList T9_
            have S9_ := pairsIn_setCells (vs := (fc R (.slice As R.ps.length cs)).toArray.toList) S0_ ne_
            have gl9_ : c2.heap.size < (c8.setCells c2.heap.size 0 (fc R (.slice As R.ps.length cs)).toArray.toList).heap.size := by rw [size_setCells]; exact gl_c8
            obtain ⟨w9, hx9_⟩ : ∃ q, q = (c8.setCells c2.heap.size 0 (fc R (.slice As R.ps.length cs)).toArray.toList) := ⟨_, rfl⟩
            rw [← hx9_] at q9_ r9_ S9_ gl9_ ⊢
            clear hx9_
            refine ⟨q9_, ?_⟩
            refine sct_one rfl ?_
            go_wp2
            refine sct_fin ?_
            go_wp2
            go_meet
            exact ⟨c2.heap.size, As, cs, rfl, rfl, r9_, ge_, gl9_, PairsIn.mono S9_ (q_c7.size), fun k hk => ⟨Nat.le_trans (q_c7.size) (blkP_bd S9_ k hk).1, (blkP_bd S9_ k hk).2, ne_ k hk⟩, q9_⟩
        · go_wp2
          have hb_c11 : Below c1.heap.size c1 (c1.alloc (.cells #[.int .i8 0, .int .i8 0, .int .i8 0, .int .i8 0, .int .i8 0, .int .i8 0, .int .i8 0, .int .i8 0, .int .i8 0, .int .i8 0, .int .i8 0, .int .i8 0, .int .i8 0, .int .i8 0, .int .i8 0, .int .i8 0, .int .i8 0, .int .i8 0, .int .i8 0, .int .i8 0, .int .i8 0, .int .i8 0, .int .i8 0, .int .i8 0, .int .i8 0, .int .i8 0, .int .i8 0, .int .i8 0, .slice none 0 0] 65)) := (Below.refl _ _).alloc (Nat.le_refl _) _
          have T0_c11 := there_newg (w := c1) (cs := #[.int .i8 0, .int .i8 0, .int .i8 0, .int .i8 0, .int .i8 0, .int .i8 0, .int .i8 0, .int .i8 0, .int .i8 0, .int .i8 0, .int .i8 0, .int .i8 0, .int .i8 0, .int .i8 0, .int .i8 0, .int .i8 0, .int .i8 0, .int .i8 0, .int .i8 0, .int .i8 0, .int .i8 0, .int .i8 0, .int .i8 0, .int .i8 0, .int .i8 0, .int .i8 0, .int .i8 0, .int .i8 0, .slice none 0 0]) (t := 65) (g := c1.heap.size) (n := 29) rfl rfl
          have gl_c11 : c1.heap.size < (c1.alloc (.cells #[.int .i8 0, .int .i8 0, .int .i8 0, .int .i8 0, .int .i8 0, .int .i8 0, .int .i8 0, .int .i8 0, .int .i8 0, .int .i8 0, .int .i8 0, .int .i8 0, .int .i8 0, .int .i8 0, .int .i8 0, .int .i8 0, .int .i8 0, .int .i8 0, .int .i8 0, .int .i8 0, .int .i8 0, .int .i8 0, .int .i8 0, .int .i8 0, .int .i8 0, .int .i8 0, .int .i8 0, .int .i8 0, .slice none 0 0] 65)).heap.size := by simp
          obtain ⟨c11, hx_c11⟩ : ∃ q, q = (c1.alloc (.cells #[.int .i8 0, .int .i8 0, .int .i8 0, .int .i8 0, .int .i8 0, .int .i8 0, .int .i8 0, .int .i8 0, .int .i8 0, .int .i8 0, .int .i8 0, .int .i8 0, .int .i8 0, .int .i8 0, .int .i8 0, .int .i8 0, .int .i8 0, .int .i8 0, .int .i8 0, .int .i8 0, .int .i8 0, .int .i8 0, .int .i8 0, .int .i8 0, .int .i8 0, .int .i8 0, .int .i8 0, .int .i8 0, .slice none 0 0] 65)) := ⟨_, rfl⟩
          rw [← hx_c11] at hb_c11 T0_c11 gl_c11 ⊢
          clear hx_c11
          have q_c11 := q_c1.trans (hb_c11.mono q_c1.size)
          have P_c11 := P0_.below hb_c11 (Nat.le_refl _)
          refine ⟨q_c11, ?_⟩
          refine sct_one rfl ?_
          go_wp2_with fail
          refine (toPair_any x y z _).mono ?_
          rintro e c12 ⟨rfl, hb_c12⟩
          have q_c12 := q_c11.trans (hb_c12.mono q_c11.size)
          have P_c12 := P_c11.below hb_c12 (Nat.le_refl _)
          have T_c12 := there_below T0_c11 hb_c12 gl_c11
          have gl_c12 : c1.heap.size < c12.heap.size := Nat.lt_of_lt_of_le gl_c11 hb_c12.size
          go_wp2_with fail
          refine ⟨q_c12, ?_⟩
          refine sct_one rfl ?_
          go_wp2_with fail
          refine (HSP.out _ _ _ P_c12.at_).mono ?_
          rintro e c13 ⟨As, cs, rfl, S0_, hb_c13⟩
          have q_c13 := q_c12.trans (hb_c13.mono q_c12.size)
          have P_c13 := P_c12.below hb_c13 (Nat.le_refl _)
          have T_c13 := there_below T_c12 hb_c13 gl_c12
          have gl_c13 : c1.heap.size < c13.heap.size := Nat.lt_of_lt_of_le gl_c12 hb_c13.size
          go_wp2_with fail
          refine ⟨q_c13, ?_⟩
          refine sct_now _ rfl (.inl ⟨rfl, fun w _ => rfl⟩) ?_
          simp only [List.getElem_toArray, List.getElem_cons_succ, List.getElem_cons_zero, Act.put, List.setIfInBounds_toArray, List.set_cons_zero, List.set_cons_succ]
          refine sct_now _ rfl (.inl ⟨rfl, fun w _ => rfl⟩) ?_
          simp only [List.getElem_toArray, List.getElem_cons_succ, List.getElem_cons_zero, Act.put, List.setIfInBounds_toArray, List.set_cons_zero, List.set_cons_succ]
          refine sct_now _ rfl (.inl ⟨rfl, fun w _ => rfl⟩) ?_
          simp only [List.getElem_toArray, List.getElem_cons_succ, List.getElem_cons_zero, Act.put, List.setIfInBounds_toArray, List.set_cons_zero, List.set_cons_succ]
          refine sct_one rfl ?_
          have T9_ : c13.there c1.heap.size 0 (fc R (.slice As R.ps.length cs)).toArray.size := by simp only [List.size_toArray]; rw [fc_length hRW.out]; exact T_c13
          have ge_ : w1.heap.size ≤ c1.heap.size := q_c1.size
          refine wpList_store_mid rfl 65 (.tmp 6) (.tmp 27) rfl c1.heap.size 0 (fc R (.slice As R.ps.length cs)).toArray rfl rfl T9_ (HII.out R hRW.out _) (fc_one _ _ _ _) ?_
          go_wp2_with fail
          have ne_ : ∀ k, blkP As R.ps = some k → k ≠ c1.heap.size := fun k hk => by have := blkP_bd S0_ k hk; have := (gl_c12 : c1.heap.size < c12.heap.size); omega
          have q9_ := below_setCells (fc R (.slice As R.ps.length cs)).toArray.toList c1.heap.size 0 _ q_c13 ge_
          have r9_ := World.rangeAt_setCells_same c13 c1.heap.size 0 (fc R (.slice As R.ps.length cs)).toArray.toList T9_
          have S9_ := pairsIn_setCells (vs := (fc R (.slice As R.ps.length cs)).toArray.toList) S0_ ne_
          have gl9_ : c1.heap.size < (c13.setCells c1.heap.size 0 (fc R (.slice As R.ps.length cs)).toArray.toList).heap.size := by rw [size_setCells]; exact gl_c13
          obtain ⟨w9, hx9_⟩ : ∃ q, q = (c13.setCells c1.heap.size 0 (fc R (.slice As R.ps.length cs)).toArray.toList) := ⟨_, rfl⟩
          rw [← hx9_] at q9_ r9_ S9_ gl9_ ⊢
          clear hx9_
          refine ⟨q9_, ?_⟩
          refine sct_one rfl ?_
          go_wp2
          refine sct_fin ?_
          go_wp2
          go_meet
          exact ⟨c1.heap.size, As, cs, rfl, rfl, r9_, ge_, gl9_, PairsIn.mono S9_ (q_c12.size), fun k hk => ⟨Nat.le_trans (q_c12.size) (blkP_bd S9_ k hk).1, (blkP_bd S9_ k hk).2, ne_ k hk⟩, q9_⟩
      · go_wp2
        have hb_c16 : Below wd.heap.size wd (wd.alloc (.cells #[.int .i8 0, .int .i8 0, .int .i8 0, .int .i8 0, .int .i8 0, .int .i8 0, .int .i8 0, .int .i8 0, .int .i8 0, .int .i8 0, .int .i8 0, .int .i8 0, .int .i8 0, .int .i8 0, .int .i8 0, .int .i8 0, .int .i8 0, .int .i8 0, .int .i8 0, .int .i8 0, .int .i8 0, .int .i8 0, .int .i8 0, .int .i8 0, .int .i8 0, .int .i8 0, .int .i8 0, .int .i8 0, .slice none 0 0] 65)) := (Below.refl _ _).alloc (Nat.le_refl _) _
        have T0_c16 := there_newg (w := wd) (cs := #[.int .i8 0, .int .i8 0, .int .i8 0, .int .i8 0, .int .i8 0, .int .i8 0, .int .i8 0, .int .i8 0, .int .i8 0, .int .i8 0, .int .i8 0, .int .i8 0, .int .i8 0, .int .i8 0, .int .i8 0, .int .i8 0, .int .i8 0, .int .i8 0, .int .i8 0, .int .i8 0, .int .i8 0, .int .i8 0, .int .i8 0, .int .i8 0, .int .i8 0, .int .i8 0, .int .i8 0, .int .i8 0, .slice none 0 0]) (t := 65) (g := wd.heap.size) (n := 29) rfl rfl
        have gl_c16 : wd.heap.size < (wd.alloc (.cells #[.int .i8 0, .int .i8 0, .int .i8 0, .int .i8 0, .int .i8 0, .int .i8 0, .int .i8 0, .int .i8 0, .int .i8 0, .int .i8 0, .int .i8 0, .int .i8 0, .int .i8 0, .int .i8 0, .int .i8 0, .int .i8 0, .int .i8 0, .int .i8 0, .int .i8 0, .int .i8 0, .int .i8 0, .int .i8 0, .int .i8 0, .int .i8 0, .int .i8 0, .int .i8 0, .int .i8 0, .int .i8 0, .slice none 0 0] 65)).heap.size := by simp
        obtain ⟨c16, hx_c16⟩ : ∃ q, q = (wd.alloc (.cells #[.int .i8 0, .int .i8 0, .int .i8 0, .int .i8 0, .int .i8 0, .int .i8 0, .int .i8 0, .int .i8 0, .int .i8 0, .int .i8 0, .int .i8 0, .int .i8 0, .int .i8 0, .int .i8 0, .int .i8 0, .int .i8 0, .int .i8 0, .int .i8 0, .int .i8 0, .int .i8 0, .int .i8 0, .int .i8 0, .int .i8 0, .int .i8 0, .int .i8 0, .int .i8 0, .int .i8 0, .int .i8 0, .slice none 0 0] 65)) := ⟨_, rfl⟩
        rw [← hx_c16] at hb_c16 T0_c16 gl_c16 ⊢
        clear hx_c16
        have q_c16 := qd.trans (hb_c16.mono qd.size)
        refine ⟨q_c16, ?_⟩
        refine sct_one rfl ?_
        go_wp2_with fail
        refine (toFaceB_any F hF A c _ (hAW.go (hb1.trans (q_c16.mono hb1.size)) hws) hn).mono ?_
        rintro e c17 ⟨bb_, rfl, P0_, hb_c17⟩
        have q_c17 := q_c16.trans (hb_c17.mono q_c16.size)
        have T_c17 := there_below T0_c16 hb_c17 gl_c16
        have gl_c17 : wd.heap.size < c17.heap.size := Nat.lt_of_lt_of_le gl_c16 hb_c17.size
        go_wp2_with fail
        refine ⟨q_c17, ?_⟩
        refine sct_one rfl ?_
        go_wp2_with fail
        refine (toPair_any x y z _).mono ?_
        rintro e c18 ⟨rfl, hb_c18⟩
        have q_c18 := q_c17.trans (hb_c18.mono q_c17.size)
        have P_c18 := P0_.below hb_c18 (Nat.le_refl _)
        have T_c18 := there_below T_c17 hb_c18 gl_c17
        have gl_c18 : wd.heap.size < c18.heap.size := Nat.lt_of_lt_of_le gl_c17 hb_c18.size
        go_wp2_with fail
        refine ⟨q_c18, ?_⟩
        refine sct_one rfl ?_
        go_wp2_with fail
        refine (HSP.out _ _ _ P_c18.at_).mono ?_
        rintro e c19 ⟨As, cs, rfl, S0_, hb_c19⟩
        have q_c19 := q_c18.trans (hb_c19.mono q_c18.size)
        have P_c19 := P_c18.below hb_c19 (Nat.le_refl _)
        have T_c19 := there_below T_c18 hb_c19 gl_c18
        have gl_c19 : wd.heap.size < c19.heap.size := Nat.lt_of_lt_of_le gl_c18 hb_c19.size
        go_wp2_with fail
        refine ⟨q_c19, ?_⟩
        refine sct_now _ rfl (.inl ⟨rfl, fun w _ => rfl⟩) ?_
        simp only [List.getElem_toArray, List.getElem_cons_succ, List.getElem_cons_zero, Act.put, List.setIfInBounds_toArray, List.set_cons_zero, List.set_cons_succ]
        refine sct_now _ rfl (.inl ⟨rfl, fun w _ => rfl⟩) ?_
        simp only [List.getElem_toArray, List.getElem_cons_succ, List.getElem_cons_zero, Act.put, List.setIfInBounds_toArray, List.set_cons_zero, List.set_cons_succ]
        refine sct_now _ rfl (.inl ⟨rfl, fun w _ => rfl⟩) ?_
        simp only [List.getElem_toArray, List.getElem_cons_succ, List.getElem_cons_zero, Act.put, List.setIfInBounds_toArray, List.set_cons_zero, List.set_cons_succ]
        refine sct_one rfl ?_
        have T9_ : c19.there wd.heap.size 0 (fc R (.slice As R.ps.length cs)).toArray.size := by simp only [List.size_toArray]; rw [fc_length hRW.out]; exact T_c19
        have ge_ : w1.heap.size ≤ wd.heap.size := qd.size
        refine wpList_store_mid rfl 65 (.tmp 6) (.tmp 27) rfl wd.heap.size 0 (fc R (.slice As R.ps.length cs)).toArray rfl rfl T9_ (HII.out R hRW.out _) (fc_one _ _ _ _) ?_
        go_wp2_with fail
        have ne_ : ∀ k, blkP As R.ps = some k → k ≠ wd.heap.size := fun k hk => by have := blkP_bd S0_ k hk; have := (gl_c18 : wd.heap.size < c18.heap.size); omega
        have q9_ := below_setCells (fc R (.slice As R.ps.length cs)).toArray.toList wd.heap.size 0 _ q_c19 ge_
        have r9_ := World.rangeAt_setCells_same c19 wd.heap.size 0 (fc R (.slice As R.ps.length cs)).toArray.toList T9_
        have S9_ := pairsIn_setCells (vs := (fc R (.slice As R.ps.length cs)).toArray.toList) S0_ ne_
        have gl9_ : wd.heap.size < (c19.setCells wd.heap.size 0 (fc R (.slice As R.ps.length cs)).toArray.toList).heap.size := by rw [size_setCells]; exact gl_c19
        obtain ⟨w9, hx9_⟩ : ∃ q, q = (c19.setCells wd.heap.size 0 (fc R (.slice As R.ps.length cs)).toArray.toList) := ⟨_, rfl⟩
        rw [← hx9_] at q9_ r9_ S9_ gl9_ ⊢
        clear hx9_
        refine ⟨q9_, ?_⟩
        refine sct_one rfl ?_
        go_wp2
        refine sct_fin ?_
        go_wp2
        go_meet
        exact ⟨wd.heap.size, As, cs, rfl, rfl, r9_, ge_, gl9_, PairsIn.mono S9_ (q_c18.size), fun k hk => ⟨Nat.le_trans (q_c18.size) (blkP_bd S9_ k hk).1, (blkP_bd S9_ k hk).2, ne_ k hk⟩, q9_⟩
    case rest =>
      obtain ⟨g4, As, cs, rfl, rfl, r4, ge4, s4, Ps4, _, hBx⟩ := hcut
      obtain ⟨W4, hW4⟩ : ∃ q, q = wc := ⟨_, rfl⟩
      subst hW4
      have hB4 := hb1.trans (hBx.mono hb1.size)
      have q4 := rangeAt_over r0 hB4 s0
      have PsW := Ps4
      clear r1 HRx HPx
      go_wp2_with (refine wpList_load_mid rfl 59 (.tmp 2) rfl _ 0 rfl (fc F (.slice A F.ps.length c)) _ q4 Try.underlying59 rfl HIL.out ?_)
      refine (toFaceB_any F hF A c _ (hAW.go hB4 hws) hn).mono ?_
      rintro e w5 ⟨bb2, rfl, hP2, hb5⟩
      have hK5 : Below W4.heap.size W4 w5 := hb5
      obtain ⟨W6, hW6, r6, b6, s6, _, t6⟩ := stored_face w5 F hW.out (.slice (some ⟨bb2, 0, none⟩) F.ps.length F.ps.length)
      have HW6 := hide hW6
      have hK6 := hK5.trans (b6.mono hK5.size)
      have hP6 := hP2.below b6 (Nat.le_refl _)
      have bd2 := blkP_bd hP2
      have z46 := hK6.size
      have hB6 := hB4.trans (hK6.mono hB4.size)
      have p6 := rangeAt_below p0 hB6 s0'
      have HRx := hide (fun w' (h : Below W6.heap.size W6 w') => rangeAt_below r6 h s6)
      have HPx := hide (fun w' (h : Below W6.heap.size W6 w') => rangeAt_below p6 h (Nat.lt_of_lt_of_le s0' hB6.size))
      have hP6d := hide (fun W (h : Below W6.heap.size W6 W) => hP6.below h (Nat.le_refl _))
      clear hW6 q4
      go_upto_region 7 with (refine wpList_store_mid rfl 65 (.tmp 8) (.tmp 30) rfl w5.heap.size 0 _ rfl rfl t6 (HII.out F hW.out _) (fc_one _ _ _ _) ?_; rw [← HW6.out])
      try simp only [Act.put, List.setIfInBounds_toArray, List.set_cons_zero, List.set_cons_succ]
      go_cut [9, 10] (fun p6 v7 wx => ∃ g As cs, p6 = .pointer (some ⟨g, 0, none⟩) ∧ v7 = .int .i64 C ∧ wx.rangeAt g 0 (fc R (.slice As R.ps.length cs)) ∧ W6.heap.size ≤ g ∧ g < wx.heap.size ∧ PairsIn wx W6.heap.size As R.ps ∧ (∀ k, blkP As R.ps = some k → W6.heap.size ≤ k ∧ k < wx.heap.size ∧ k ≠ g) ∧ Below W6.heap.size W6 wx)
      case first =>
        go_upto_region 7 with fail
        refine wp_region_sct (.now 0 (.now 1 (.two 2 7 (.two 3 7 (.now 4 (.now 5 (.now 6 (.one 7 (.one 8 (.one 9 .fin)))))) (.one 3 (.now 4 (.now 5 (.now 6 (.one 8 (.one 9 .fin))))))) (.one 2 (.one 3 (.now 4 (.now 5 (.now 6 (.one 8 (.one 9 .fin)))))))))) (fun w' => Below W6.heap.size W6 w') (by kernel_rfl) (by kernel_rfl) (of_decide_eq_true (by kernel_rfl)) (by kernel_rfl) (fun _ _ d _ _ h => by cases d <;> exact h) ((Below.refl _ _).drew) ?_
        have qd : Below W6.heap.size W6 W6.drew := (Below.refl _ _).drew
        obtain ⟨wd, hwd⟩ : ∃ q, q = W6.drew := ⟨_, rfl⟩
        rw [← hwd] at qd ⊢
        clear hwd
        have Pd := hP6.below qd (Nat.le_refl _)
        refine sct_now (.agg (fc F (.slice (some ⟨bb2, 0, none⟩) F.ps.length F.ps.length)).toArray) rfl (yieldsIf_load_mid (by rfl) _ (.tmp 8) rfl _ 0 rfl _ _ (fun w h => HRx.out w h) Try.underlying65 rfl (HII.out F hW.out _)) ?_
        simp only [List.getElem_toArray, List.getElem_cons_succ, List.getElem_cons_zero, Act.put, List.setIfInBounds_toArray, List.set_cons_zero, List.set_cons_succ]
        refine sct_now (.agg #[.int .u8 x, .int .u8 y, .int .i8 z]) rfl (yieldsIf_load_mid (by rfl) _ (.tmp 3) rfl _ 0 rfl _ _ (fun w h => HPx.out w h) Try.underlying61 rfl HIP.out) ?_
        simp only [List.getElem_toArray, List.getElem_cons_succ, List.getElem_cons_zero, Act.put, List.setIfInBounds_toArray, List.set_cons_zero, List.set_cons_succ]
        refine sct_two rfl rfl ?_ ?_
        · go_wp2_with fail
          refine (toPair_any x y z _).mono ?_
          rintro e c22 ⟨rfl, hb_c22⟩
          have q_c22 := qd.trans (hb_c22.mono qd.size)
          have P_c22 := Pd.below hb_c22 (Nat.le_refl _)
          go_wp2_with fail
          refine ⟨q_c22, ?_⟩
          refine sct_two rfl rfl ?_ ?_
          · go_wp2_with fail
            refine (HIM.out bb2 _ _ (Nat.le_refl _) P_c22.at_).mono ?_
            rintro e c23 ⟨As, cs, rfl, S0_, hb_c23⟩
            have q_c23 := q_c22.trans (hb_c23.mono q_c22.size)
            have P_c23 := P_c22.below hb_c23 (Nat.le_refl _)
            go_wp2_with fail
            refine ⟨q_c23, ?_⟩
            refine sct_now _ rfl (.inl ⟨rfl, fun w _ => rfl⟩) ?_
            simp only [List.getElem_toArray, List.getElem_cons_succ, List.getElem_cons_zero, Act.put, List.setIfInBounds_toArray, List.set_cons_zero, List.set_cons_succ]
            refine sct_now _ rfl (.inl ⟨rfl, fun w _ => rfl⟩) ?_
            simp only [List.getElem_toArray, List.getElem_cons_succ, List.getElem_cons_zero, Act.put, List.setIfInBounds_toArray, List.set_cons_zero, List.set_cons_succ]
            refine sct_now _ rfl (.inl ⟨rfl, fun w _ => rfl⟩) ?_
            simp only [List.getElem_toArray, List.getElem_cons_succ, List.getElem_cons_zero, Act.put, List.setIfInBounds_toArray, List.set_cons_zero, List.set_cons_succ]
            refine sct_one rfl ?_
            go_wp2
            have hb_c24 : Below c23.heap.size c23 (c23.alloc (.cells #[.int .i8 0, .int .i8 0, .int .i8 0, .int .i8 0, .int .i8 0, .int .i8 0, .int .i8 0, .int .i8 0, .int .i8 0, .int .i8 0, .int .i8 0, .int .i8 0, .int .i8 0, .int .i8 0, .int .i8 0, .int .i8 0, .int .i8 0, .int .i8 0, .int .i8 0, .int .i8 0, .int .i8 0, .int .i8 0, .int .i8 0, .int .i8 0, .int .i8 0, .int .i8 0, .int .i8 0, .int .i8 0, .slice none 0 0] 65)) := (Below.refl _ _).alloc (Nat.le_refl _) _
            have T0_c24 := there_newg (w := c23) (cs := #[.int .i8 0, .int .i8 0, .int .i8 0, .int .i8 0, .int .i8 0, .int .i8 0, .int .i8 0, .int .i8 0, .int .i8 0, .int .i8 0, .int .i8 0, .int .i8 0, .int .i8 0, .int .i8 0, .int .i8 0, .int .i8 0, .int .i8 0, .int .i8 0, .int .i8 0, .int .i8 0, .int .i8 0, .int .i8 0, .int .i8 0, .int .i8 0, .int .i8 0, .int .i8 0, .int .i8 0, .int .i8 0, .slice none 0 0]) (t := 65) (g := c23.heap.size) (n := 29) rfl rfl
            have gl_c24 : c23.heap.size < (c23.alloc (.cells #[.int .i8 0, .int .i8 0, .int .i8 0, .int .i8 0, .int .i8 0, .int .i8 0, .int .i8 0, .int .i8 0, .int .i8 0, .int .i8 0, .int .i8 0, .int .i8 0, .int .i8 0, .int .i8 0, .int .i8 0, .int .i8 0, .int .i8 0, .int .i8 0, .int .i8 0, .int .i8 0, .int .i8 0, .int .i8 0, .int .i8 0, .int .i8 0, .int .i8 0, .int .i8 0, .int .i8 0, .int .i8 0, .slice none 0 0] 65)).heap.size := by simp
            obtain ⟨c24, hx_c24⟩ : ∃ q, q = (c23.alloc (.cells #[.int .i8 0, .int .i8 0, .int .i8 0, .int .i8 0, .int .i8 0, .int .i8 0, .int .i8 0, .int .i8 0, .int .i8 0, .int .i8 0, .int .i8 0, .int .i8 0, .int .i8 0, .int .i8 0, .int .i8 0, .int .i8 0, .int .i8 0, .int .i8 0, .int .i8 0, .int .i8 0, .int .i8 0, .int .i8 0, .int .i8 0, .int .i8 0, .int .i8 0, .int .i8 0, .int .i8 0, .int .i8 0, .slice none 0 0] 65)) := ⟨_, rfl⟩
            rw [← hx_c24] at hb_c24 T0_c24 gl_c24 ⊢
            clear hx_c24
            have q_c24 := q_c23.trans (hb_c24.mono q_c23.size)
            have P_c24 := P_c23.below hb_c24 (Nat.le_refl _)
            have S_c24 := S0_.below hb_c24 (Nat.le_refl _)
            refine ⟨q_c24, ?_⟩
            refine sct_one rfl ?_
            have T9_ : c24.there c23.heap.size 0 (fc R (.slice As R.ps.length cs)).toArray.size := by simp only [List.size_toArray]; rw [fc_length hRW.out]; exact T0_c24
            have ge_ : W6.heap.size ≤ c23.heap.size := q_c23.size
            refine wpList_store_mid rfl 65 (.tmp 9) (.tmp 36) rfl c23.heap.size 0 (fc R (.slice As R.ps.length cs)).toArray rfl rfl T9_ (HII.out R hRW.out _) (fc_one _ _ _ _) ?_
            go_wp2_with fail
            have ne_ : ∀ k, blkP As R.ps = some k → k ≠ c23.heap.size := fun k hk => by have := blkP_bd S0_ k hk; omega
            have q9_ := below_setCells (fc R (.slice As R.ps.length cs)).toArray.toList c23.heap.size 0 _ q_c24 ge_
            have r9_ := World.rangeAt_setCells_same c24 c23.heap.size 0 (fc R (.slice As R.ps.length cs)).toArray.toList T9_
            have S9_ := pairsIn_setCells (vs := (fc R (.slice As R.ps.length cs)).toArray.toList) S_c24 ne_
            have gl9_ : c23.heap.size < (c24.setCells c23.heap.size 0 (fc R (.slice As R.ps.length cs)).toArray.toList).heap.size := by rw [size_setCells]; exact gl_c24
            obtain ⟨w9, hx9_⟩ : ∃ q, q = (c24.setCells c23.heap.size 0 (fc R (.slice As R.ps.length cs)).toArray.toList) := ⟨_, rfl⟩
            rw [← hx9_] at q9_ r9_ S9_ gl9_ ⊢
            clear hx9_
            refine ⟨q9_, ?_⟩
            refine sct_one rfl ?_
            go_wp2
            refine sct_fin ?_
            go_wp2
            go_meet
            exact ⟨c23.heap.size, As, cs, rfl, rfl, r9_, ge_, gl9_, PairsIn.mono S9_ (q_c22.size), fun k hk => ⟨Nat.le_trans (q_c22.size) (blkP_bd S9_ k hk).1, (blkP_bd S9_ k hk).2, ne_ k hk⟩, q9_⟩
          · go_wp2
            have hb_c27 : Below c22.heap.size c22 (c22.alloc (.cells #[.int .i8 0, .int .i8 0, .int .i8 0, .int .i8 0, .int .i8 0, .int .i8 0, .int .i8 0, .int .i8 0, .int .i8 0, .int .i8 0, .int .i8 0, .int .i8 0, .int .i8 0, .int .i8 0, .int .i8 0, .int .i8 0, .int .i8 0, .int .i8 0, .int .i8 0, .int .i8 0, .int .i8 0, .int .i8 0, .int .i8 0, .int .i8 0, .int .i8 0, .int .i8 0, .int .i8 0, .int .i8 0, .slice none 0 0] 65)) := (Below.refl _ _).alloc (Nat.le_refl _) _
            have T0_c27 := there_newg (w := c22) (cs := #[.int .i8 0, .int .i8 0, .int .i8 0, .int .i8 0, .int .i8 0, .int .i8 0, .int .i8 0, .int .i8 0, .int .i8 0, .int .i8 0, .int .i8 0, .int .i8 0, .int .i8 0, .int .i8 0, .int .i8 0, .int .i8 0, .int .i8 0, .int .i8 0, .int .i8 0, .int .i8 0, .int .i8 0, .int .i8 0, .int .i8 0, .int .i8 0, .int .i8 0, .int .i8 0, .int .i8 0, .int .i8 0, .slice none 0 0]) (t := 65) (g := c22.heap.size) (n := 29) rfl rfl
            have gl_c27 : c22.heap.size < (c22.alloc (.cells #[.int .i8 0, .int .i8 0, .int .i8 0, .int .i8 0, .int .i8 0, .int .i8 0, .int .i8 0, .int .i8 0, .int .i8 0, .int .i8 0, .int .i8 0, .int .i8 0, .int .i8 0, .int .i8 0, .int .i8 0, .int .i8 0, .int .i8 0, .int .i8 0, .int .i8 0, .int .i8 0, .int .i8 0, .int .i8 0, .int .i8 0, .int .i8 0, .int .i8 0, .int .i8 0, .int .i8 0, .int .i8 0, .slice none 0 0] 65)).heap.size := by simp
            obtain ⟨c27, hx_c27⟩ : ∃ q, q = (c22.alloc (.cells #[.int .i8 0, .int .i8 0, .int .i8 0, .int .i8 0, .int .i8 0, .int .i8 0, .int .i8 0, .int .i8 0, .int .i8 0, .int .i8 0, .int .i8 0, .int .i8 0, .int .i8 0, .int .i8 0, .int .i8 0, .int .i8 0, .int .i8 0, .int .i8 0, .int .i8 0, .int .i8 0, .int .i8 0, .int .i8 0, .int .i8 0, .int .i8 0, .int .i8 0, .int .i8 0, .int .i8 0, .int .i8 0, .slice none 0 0] 65)) := ⟨_, rfl⟩
            rw [← hx_c27] at hb_c27 T0_c27 gl_c27 ⊢
            clear hx_c27
            have q_c27 := q_c22.trans (hb_c27.mono q_c22.size)
            have P_c27 := P_c22.below hb_c27 (Nat.le_refl _)
            refine ⟨q_c27, ?_⟩
            refine sct_one rfl ?_
            go_wp2_with fail
            refine (HIM.out bb2 _ _ (Nat.le_refl _) P_c27.at_).mono ?_
            rintro e c28 ⟨As, cs, rfl, S0_, hb_c28⟩
            have q_c28 := q_c27.trans (hb_c28.mono q_c27.size)
            have P_c28 := P_c27.below hb_c28 (Nat.le_refl _)
            have T_c28 := there_below T0_c27 hb_c28 gl_c27
            have gl_c28 : c22.heap.size < c28.heap.size := Nat.lt_of_lt_of_le gl_c27 hb_c28.size
            go_wp2_with fail
            refine ⟨q_c28, ?_⟩
            refine sct_now _ rfl (.inl ⟨rfl, fun w _ => rfl⟩) ?_
            simp only [List.getElem_toArray, List.getElem_cons_succ, List.getElem_cons_zero, Act.put, List.setIfInBounds_toArray, List.set_cons_zero, List.set_cons_succ]
            refine sct_now _ rfl (.inl ⟨rfl, fun w _ => rfl⟩) ?_
            simp only [List.getElem_toArray, List.getElem_cons_succ, List.getElem_cons_zero, Act.put, List.setIfInBounds_toArray, List.set_cons_zero, List.set_cons_succ]
            refine sct_now _ rfl (.inl ⟨rfl, fun w _ => rfl⟩) ?_
            simp only [List.getElem_toArray, List.getElem_cons_succ, List.getElem_cons_zero, Act.put, List.setIfInBounds_toArray, List.set_cons_zero, List.set_cons_succ]
            refine sct_one rfl ?_
            have T9_ : c28.there c22.heap.size 0 (fc R (.slice As R.ps.length cs)).toArray.size := by simp only [List.size_toArray]; rw [fc_length hRW.out]; exact T_c28
            have ge_ : W6.heap.size ≤ c22.heap.size := q_c22.size
            refine wpList_store_mid rfl 65 (.tmp 9) (.tmp 36) rfl c22.heap.size 0 (fc R (.slice As R.ps.length cs)).toArray rfl rfl T9_ (HII.out R hRW.out _) (fc_one _ _ _ _) ?_
            go_wp2_with fail
            have ne_ : ∀ k, blkP As R.ps = some k → k ≠ c22.heap.size := fun k hk => by have := blkP_bd S0_ k hk; have := (gl_c27 : c22.heap.size < c27.heap.size); omega
            have q9_ := below_setCells (fc R (.slice As R.ps.length cs)).toArray.toList c22.heap.size 0 _ q_c28 ge_
            have r9_ := World.rangeAt_setCells_same c28 c22.heap.size 0 (fc R (.slice As R.ps.length cs)).toArray.toList T9_
            have S9_ := pairsIn_setCells (vs := (fc R (.slice As R.ps.length cs)).toArray.toList) S0_ ne_
            have gl9_ : c22.heap.size < (c28.setCells c22.heap.size 0 (fc R (.slice As R.ps.length cs)).toArray.toList).heap.size := by rw [size_setCells]; exact gl_c28
            obtain ⟨w9, hx9_⟩ : ∃ q, q = (c28.setCells c22.heap.size 0 (fc R (.slice As R.ps.length cs)).toArray.toList) := ⟨_, rfl⟩
            rw [← hx9_] at q9_ r9_ S9_ gl9_ ⊢
            clear hx9_
            refine ⟨q9_, ?_⟩
            refine sct_one rfl ?_
            go_wp2
            refine sct_fin ?_
            go_wp2
            go_meet
            exact ⟨c22.heap.size, As, cs, rfl, rfl, r9_, ge_, gl9_, PairsIn.mono S9_ (q_c27.size), fun k hk => ⟨Nat.le_trans (q_c27.size) (blkP_bd S9_ k hk).1, (blkP_bd S9_ k hk).2, ne_ k hk⟩, q9_⟩
        · go_wp2
          have hb_c31 : Below wd.heap.size wd (wd.alloc (.cells #[.int .i8 0, .int .i8 0, .int .i8 0, .int .i8 0, .int .i8 0, .int .i8 0, .int .i8 0, .int .i8 0, .int .i8 0, .int .i8 0, .int .i8 0, .int .i8 0, .int .i8 0, .int .i8 0, .int .i8 0, .int .i8 0, .int .i8 0, .int .i8 0, .int .i8 0, .int .i8 0, .int .i8 0, .int .i8 0, .int .i8 0, .int .i8 0, .int .i8 0, .int .i8 0, .int .i8 0, .int .i8 0, .slice none 0 0] 65)) := (Below.refl _ _).alloc (Nat.le_refl _) _
          have T0_c31 := there_newg (w := wd) (cs := #[.int .i8 0, .int .i8 0, .int .i8 0, .int .i8 0, .int .i8 0, .int .i8 0, .int .i8 0, .int .i8 0, .int .i8 0, .int .i8 0, .int .i8 0, .int .i8 0, .int .i8 0, .int .i8 0, .int .i8 0, .int .i8 0, .int .i8 0, .int .i8 0, .int .i8 0, .int .i8 0, .int .i8 0, .int .i8 0, .int .i8 0, .int .i8 0, .int .i8 0, .int .i8 0, .int .i8 0, .int .i8 0, .slice none 0 0]) (t := 65) (g := wd.heap.size) (n := 29) rfl rfl
          have gl_c31 : wd.heap.size < (wd.alloc (.cells #[.int .i8 0, .int .i8 0, .int .i8 0, .int .i8 0, .int .i8 0, .int .i8 0, .int .i8 0, .int .i8 0, .int .i8 0, .int .i8 0, .int .i8 0, .int .i8 0, .int .i8 0, .int .i8 0, .int .i8 0, .int .i8 0, .int .i8 0, .int .i8 0, .int .i8 0, .int .i8 0, .int .i8 0, .int .i8 0, .int .i8 0, .int .i8 0, .int .i8 0, .int .i8 0, .int .i8 0, .int .i8 0, .slice none 0 0] 65)).heap.size := by simp
          obtain ⟨c31, hx_c31⟩ : ∃ q, q = (wd.alloc (.cells #[.int .i8 0, .int .i8 0, .int .i8 0, .int .i8 0, .int .i8 0, .int .i8 0, .int .i8 0, .int .i8 0, .int .i8 0, .int .i8 0, .int .i8 0, .int .i8 0, .int .i8 0, .int .i8 0, .int .i8 0, .int .i8 0, .int .i8 0, .int .i8 0, .int .i8 0, .int .i8 0, .int .i8 0, .int .i8 0, .int .i8 0, .int .i8 0, .int .i8 0, .int .i8 0, .int .i8 0, .int .i8 0, .slice none 0 0] 65)) := ⟨_, rfl⟩
          rw [← hx_c31] at hb_c31 T0_c31 gl_c31 ⊢
          clear hx_c31
          have q_c31 := qd.trans (hb_c31.mono qd.size)
          have P_c31 := Pd.below hb_c31 (Nat.le_refl _)
          refine ⟨q_c31, ?_⟩
          refine sct_one rfl ?_
          go_wp2_with fail
          refine (toPair_any x y z _).mono ?_
          rintro e c32 ⟨rfl, hb_c32⟩
          have q_c32 := q_c31.trans (hb_c32.mono q_c31.size)
          have P_c32 := P_c31.below hb_c32 (Nat.le_refl _)
          have T_c32 := there_below T0_c31 hb_c32 gl_c31
          have gl_c32 : wd.heap.size < c32.heap.size := Nat.lt_of_lt_of_le gl_c31 hb_c32.size
          go_wp2_with fail
          refine ⟨q_c32, ?_⟩
          refine sct_one rfl ?_
          go_wp2_with fail
          refine (HIM.out bb2 _ _ (Nat.le_refl _) P_c32.at_).mono ?_
          rintro e c33 ⟨As, cs, rfl, S0_, hb_c33⟩
          have q_c33 := q_c32.trans (hb_c33.mono q_c32.size)
          have P_c33 := P_c32.below hb_c33 (Nat.le_refl _)
          have T_c33 := there_below T_c32 hb_c33 gl_c32
          have gl_c33 : wd.heap.size < c33.heap.size := Nat.lt_of_lt_of_le gl_c32 hb_c33.size
          go_wp2_with fail
          refine ⟨q_c33, ?_⟩
          refine sct_now _ rfl (.inl ⟨rfl, fun w _ => rfl⟩) ?_
          simp only [List.getElem_toArray, List.getElem_cons_succ, List.getElem_cons_zero, Act.put, List.setIfInBounds_toArray, List.set_cons_zero, List.set_cons_succ]
          refine sct_now _ rfl (.inl ⟨rfl, fun w _ => rfl⟩) ?_
          simp only [List.getElem_toArray, List.getElem_cons_succ, List.getElem_cons_zero, Act.put, List.setIfInBounds_toArray, List.set_cons_zero, List.set_cons_succ]
          refine sct_now _ rfl (.inl ⟨rfl, fun w _ => rfl⟩) ?_
          simp only [List.getElem_toArray, List.getElem_cons_succ, List.getElem_cons_zero, Act.put, List.setIfInBounds_toArray, List.set_cons_zero, List.set_cons_succ]
          refine sct_one rfl ?_
          have T9_ : c33.there wd.heap.size 0 (fc R (.slice As R.ps.length cs)).toArray.size := by simp only [List.size_toArray]; rw [fc_length hRW.out]; exact T_c33
          have ge_ : W6.heap.size ≤ wd.heap.size := qd.size
          refine wpList_store_mid rfl 65 (.tmp 9) (.tmp 36) rfl wd.heap.size 0 (fc R (.slice As R.ps.length cs)).toArray rfl rfl T9_ (HII.out R hRW.out _) (fc_one _ _ _ _) ?_
          go_wp2_with fail
          have ne_ : ∀ k, blkP As R.ps = some k → k ≠ wd.heap.size := fun k hk => by have := blkP_bd S0_ k hk; have := (gl_c32 : wd.heap.size < c32.heap.size); omega
          have q9_ := below_setCells (fc R (.slice As R.ps.length cs)).toArray.toList wd.heap.size 0 _ q_c33 ge_
          have r9_ := World.rangeAt_setCells_same c33 wd.heap.size 0 (fc R (.slice As R.ps.length cs)).toArray.toList T9_
          have S9_ := pairsIn_setCells (vs := (fc R (.slice As R.ps.length cs)).toArray.toList) S0_ ne_
          have gl9_ : wd.heap.size < (c33.setCells wd.heap.size 0 (fc R (.slice As R.ps.length cs)).toArray.toList).heap.size := by rw [size_setCells]; exact gl_c33
          obtain ⟨w9, hx9_⟩ : ∃ q, q = (c33.setCells wd.heap.size 0 (fc R (.slice As R.ps.length cs)).toArray.toList) := ⟨_, rfl⟩
          rw [← hx9_] at q9_ r9_ S9_ gl9_ ⊢
          clear hx9_
          refine ⟨q9_, ?_⟩
          refine sct_one rfl ?_
          go_wp2
          refine sct_fin ?_
          go_wp2
          go_meet
          exact ⟨wd.heap.size, As, cs, rfl, rfl, r9_, ge_, gl9_, PairsIn.mono S9_ (q_c32.size), fun k hk => ⟨Nat.le_trans (q_c32.size) (blkP_bd S9_ k hk).1, (blkP_bd S9_ k hk).2, ne_ k hk⟩, q9_⟩
      case rest =>
        obtain ⟨g8, Ag, cg, rfl, rfl, r8, ge8, s8, Pg8, bdg, hL8⟩ := hcut
        obtain ⟨W8, hW8⟩ : ∃ q, q = wc := ⟨_, rfl⟩
        subst hW8
        have hK8 := hK6.trans (hL8.mono hK6.size)
        have x8 := rangeAt_over r6 hL8 s6
        have q8 := rangeAt_over r4 hK8 s4
        have hP8 := hP6.below hL8 (Nat.le_refl _)
        have Ps8 := Ps4.below hK8 (Nat.le_refl _)
        clear t6 HW6 hP6 Ps4 HRx HPx hP6d
        go_wp2_with (first
          | (refine wpList_load_mid rfl 65 (.tmp 9) rfl _ 0 rfl (fc R (.slice Ag R.ps.length cg)) _ r8 Try.underlying65 rfl (HII.out R hRW.out _) ?_)
          | (refine wpList_load_mid rfl 65 (.tmp 6) rfl _ 0 rfl (fc R (.slice As R.ps.length cs)) _ q8 Try.underlying65 rfl (HII.out R hRW.out _) ?_))
        refine (eqFace_same R hRok Ag As cg cs _ Pg8.at_ Ps8.at_).mono ?_
        rintro e w9 ⟨rfl, hb9⟩
        have hK9 := hK8.trans (hb9.mono hK8.size)
        have hB9 := hB4.trans (hK9.mono hB4.size)
        have r9 := rangeAt_over r8 hb9 s8
        have x9 := rangeAt_over x8 hb9 (Nat.lt_of_lt_of_le s6 hL8.size)
        have l9 := rangeAt_over r0 hB9 s0
        have hP9 := hP8.below hb9 (Nat.le_refl _)
        have Pg9 := Pg8.below hb9 (Nat.le_refl _)
        have z48 := hK8.size
        have z68 := hL8.size
        have z89 := hb9.size
        have z04 := hB4.size
        have z45 := hK5.size
        have z56 := b6.size
        clear x8 r8 hP8 Pg8 r6
        have sx9 : w5.heap.size < w9.heap.size := by omega
        have sl9 : w.heap.size < w9.heap.size := by omega
        have hKF : ∀ w', Below w9.heap.size w9 w' → _ := fun w' hb => keepS hb x9 sx9 l9 sl9
        have CA := hAW.go hB9 hws
        have HEQ := hide (fun A' w => eqFace_same F hF (some ⟨bb2, 0, none⟩) A' F.ps.length F.ps.length w)
        go_wp2
        refine wp_region_take2 0 1 [2, 3, 4] 3 (vi := .agg (fc F (.slice (some ⟨bb2, 0, none⟩) F.ps.length F.ps.length)).toArray) (vj := .agg (fc F (.slice A F.ps.length c)).toArray)
          (fun w' => Below w9.heap.size w9 w' ∧ w'.rangeAt w5.heap.size 0 (fc F (.slice (some ⟨bb2, 0, none⟩) F.ps.length F.ps.length)) ∧ w'.rangeAt w.heap.size 0 (fc F (.slice A F.ps.length c)))
          (by kernel_rfl) rfl (by decide) rfl rfl (by kernel_rfl) (by kernel_rfl) (by kernel_rfl) (by kernel_rfl) (by kernel_rfl) (by kernel_rfl) (fun _ _ _ h => h) (fun _ _ _ h => h)
          (yieldsIf_load_mid (by rfl) _ (.tmp 8) rfl _ 0 rfl _ _ (fun w h => h.2.1) Try.underlying65 rfl (HII.out F hW.out _)) (yieldsIf_load_mid (by rfl) _ (.tmp 2) rfl _ 0 rfl _ _ (fun w h => h.2.2) Try.underlying59 rfl HIL.out) (hKF _ (Below.refl _ _).drew) ?_
        simp only [Act.put, List.setIfInBounds_toArray, List.set_cons_zero, List.set_cons_succ]
        refine wpForced_cons rfl ?_
        go_wp2_with fail
        refine (toFace_any F hF A c _ (CA.go ((Below.refl _ _).drew) (Nat.le_refl _)) hn).mono ?_
        rintro e w10 ⟨A3, rfl, hP3, hb10⟩
        have hX : Below w9.heap.size w9 w10 := (Below.refl _ _).drew.trans hb10
        go_wp2_with fail
        refine ⟨hKF _ hX, wpForced_cons rfl ?_⟩
        go_wp2_with fail
        refine (HEQ.out _ _ ((hP9.below hX (Nat.le_refl _)).at_) hP3.at_).mono ?_
        rintro e w11 ⟨rfl, hb11⟩
        have hY := hX.trans (hb11.mono hX.size)
        go_wp2_with fail
        refine ⟨hKF _ hY, wpForced_cons rfl ?_⟩
        go_wp2_with fail
        refine ⟨hKF _ hY, wpForced_nil ?_⟩
        have x11 := rangeAt_over x9 hY sx9
        have r11 := rangeAt_over r9 hY (by omega)
        have hP11 := hP9.below hY (Nat.le_refl _)
        have Pg11 := Pg9.below hY (Nat.le_refl _)
        have hK11 := hK9.trans (hY.mono hK9.size)
        have z911 := hY.size
        clear hKF CA HEQ hP3 hb10 hX hb11 hP9 Pg9 r9 x9 l9
        go_wp2_with (refine wpList_load_mid rfl 65 (.tmp 8) rfl _ 0 rfl (fc F (.slice (some ⟨bb2, 0, none⟩) F.ps.length F.ps.length)) _ x11 Try.underlying65 rfl (HII.out F hW.out _) ?_)
        refine (markFace_any F hF (some ⟨bb2, 0, none⟩) _ W4.heap.size _ hn2 hP11).mono ?_
        rintro e w12 ⟨rfl, hg12, _⟩
        have z12 := hg12.size
        have hK12 : Below W4.heap.size W4 w12 := hK11.trans (grown_toBelow hg12 (by omega) (fun k hk => (bd2 k hk).1))
        have r12 := grown_row hg12 r11 (by omega) (fun e => by have := bd2 _ e.symm; omega)
        have Pg12 := grown_pairsIn hg12 Pg11 (fun b hb e => by have h1 := bdg b hb; have h2 := bd2 _ e.symm; omega)
        have q12 := rangeAt_over r4 hK12 s4
        clear Pg11 r11 x11 hP11
        go_wp2_with (first
          | (refine wpList_load_mid_g rfl 65 (.tmp 9) rfl _ 0 rfl (fc R (.slice Ag R.ps.length cg)) _ r12 Try.underlying65 rfl (HII.out R hRW.out _) ?_)
          | (refine wpList_load_mid_g rfl 65 (.tmp 6) rfl _ 0 rfl (fc R (.slice As R.ps.length cs)) _ q12 Try.underlying65 rfl (HII.out R hRW.out _) ?_))
        refine (eqFace_same R hRok Ag As cg cs _ Pg12.at_ (PsW.go hK12)).mono ?_
        rintro e w13 ⟨rfl, hb13⟩
        have hK13 := hK12.trans (hb13.mono hK12.size)
        have r13 := rangeAt_over r12 hb13 (by omega)
        have Pg13 := Pg12.below hb13 (Nat.le_refl _)
        have z13 := hb13.size
        clear Pg12 r12 q12
        go_wp2_with (refine wpList_load_mid rfl 65 (.tmp 9) rfl _ 0 rfl (fc R (.slice Ag R.ps.length cg)) _ r13 Try.underlying65 rfl (HII.out R hRW.out _) ?_)
        refine (markFace_any R hRok Ag _ W6.heap.size _ hRn2 Pg13).mono ?_
        rintro e w14 ⟨rfl, hg14, hM14⟩
        have z14 := hg14.size
        have hK14 : Below W4.heap.size W4 w14 := hK13.trans (grown_toBelow hg14 (by omega) (fun k hk => by have := bdg k hk; omega))
        have r14 := grown_row hg14 r13 (by omega) (fun e => by have := bdg _ e.symm; omega)
        clear Pg13 r13
        go_wp2_with (refine wpList_load_mid rfl 65 (.tmp 9) rfl _ 0 rfl (fc R (.slice Ag R.ps.length cg)) _ r14 Try.underlying65 rfl (HII.out R hRW.out _) ?_)
        refine (heldFace_any R hRok Ag _ _ hRn2 hM14.at_).mono ?_
        rintro e w15 ⟨rfl, hb15⟩
        have hK15 := hK14.trans (hb15.mono hK14.size)
        have hB15 := hB4.trans (hK15.mono hB4.size)
        have r15 := rangeAt_over r14 hb15 (by omega)
        have hM15 := hM14.below hb15 (Nat.le_refl _)
        have l15 := rangeAt_over r0 hB15 s0
        have z15 := hb15.size
        clear r14 hM14
        have sl15 : w.heap.size < w15.heap.size := Nat.lt_of_lt_of_le s0 hB15.size
        have p15 := rangeAt_below p0 hB15 s0'
        have HRx := hide (fun w' (h : Below w15.heap.size w15 w') => rangeAt_below l15 h sl15)
        have HPx := hide (fun w' (h : Below w15.heap.size w15 w') => rangeAt_below p15 h (Nat.lt_of_lt_of_le s0' hB15.size))
        go_upto_region 24 with fail
        try simp only [Act.put, List.setIfInBounds_toArray, List.set_cons_zero, List.set_cons_succ]
        go_cut [14, 15] (fun p6 v7 wx => ∃ g As cs, p6 = .pointer (some ⟨g, 0, none⟩) ∧ v7 = .int .i64 C ∧ wx.rangeAt g 0 (fc R (.slice As R.ps.length cs)) ∧ w15.heap.size ≤ g ∧ g < wx.heap.size ∧ PairsIn wx w15.heap.size As R.ps ∧ (∀ k, blkP As R.ps = some k → w15.heap.size ≤ k ∧ k < wx.heap.size ∧ k ≠ g) ∧ Below w15.heap.size w15 wx)
        case first =>
          go_upto_region 24 with fail
          refine wp_region_sct (.now 0 (.now 2 (.two 1 8 (.two 3 8 (.two 4 8 (.now 5 (.now 6 (.now 7 (.one 8 (.one 9 (.one 10 .fin)))))) (.one 4 (.now 5 (.now 6 (.now 7 (.one 9 (.one 10 .fin))))))) (.one 3 (.one 4 (.now 5 (.now 6 (.now 7 (.one 9 (.one 10 .fin)))))))) (.one 1 (.one 3 (.one 4 (.now 5 (.now 6 (.now 7 (.one 9 (.one 10 .fin))))))))))) (fun w' => Below w15.heap.size w15 w') (by kernel_rfl) (by kernel_rfl) (of_decide_eq_true (by kernel_rfl)) (by kernel_rfl) (fun _ _ d _ _ h => by cases d <;> exact h) ((Below.refl _ _).drew) ?_
          have qd : Below w15.heap.size w15 w15.drew := (Below.refl _ _).drew
          obtain ⟨wd, hwd⟩ : ∃ q, q = w15.drew := ⟨_, rfl⟩
          rw [← hwd] at qd ⊢
          clear hwd
          refine sct_now (.agg (fc F (.slice A F.ps.length c)).toArray) rfl (yieldsIf_load_mid (by rfl) _ (.tmp 2) rfl _ 0 rfl _ _ (fun w h => HRx.out w h) Try.underlying59 rfl HIL.out) ?_
          simp only [List.getElem_toArray, List.getElem_cons_succ, List.getElem_cons_zero, Act.put, List.setIfInBounds_toArray, List.set_cons_zero, List.set_cons_succ]
          refine sct_now (.agg #[.int .u8 x, .int .u8 y, .int .i8 z]) rfl (yieldsIf_load_mid (by rfl) _ (.tmp 3) rfl _ 0 rfl _ _ (fun w h => HPx.out w h) Try.underlying61 rfl HIP.out) ?_
          simp only [List.getElem_toArray, List.getElem_cons_succ, List.getElem_cons_zero, Act.put, List.setIfInBounds_toArray, List.set_cons_zero, List.set_cons_succ]
          refine sct_two rfl rfl ?_ ?_
          · go_wp2_with fail
            refine (toFaceB_any F hF A c _ (hAW.go (hB15.trans (qd.mono hB15.size)) hws) hn).mono ?_
            rintro e c36 ⟨bb_, rfl, P0_, hb_c36⟩
            have q_c36 := qd.trans (hb_c36.mono qd.size)
            go_wp2_with fail
            refine ⟨q_c36, ?_⟩
            refine sct_two rfl rfl ?_ ?_
            · go_wp2_with fail
              refine (toPair_any x y z _).mono ?_
              rintro e c37 ⟨rfl, hb_c37⟩
              have q_c37 := q_c36.trans (hb_c37.mono q_c36.size)
              have P_c37 := P0_.below hb_c37 (Nat.le_refl _)
              go_wp2_with fail
              refine ⟨q_c37, ?_⟩
              refine sct_two rfl rfl ?_ ?_
              · go_wp2_with fail
                refine (HIM.out _ _ _ (Nat.le_refl _) P_c37.at_).mono ?_
                rintro e c38 ⟨As, cs, rfl, S0_, hb_c38⟩
                have q_c38 := q_c37.trans (hb_c38.mono q_c37.size)
                have P_c38 := P_c37.below hb_c38 (Nat.le_refl _)
                go_wp2_with fail
                refine ⟨q_c38, ?_⟩
                refine sct_now _ rfl (.inl ⟨rfl, fun w _ => rfl⟩) ?_
                simp only [List.getElem_toArray, List.getElem_cons_succ, List.getElem_cons_zero, Act.put, List.setIfInBounds_toArray, List.set_cons_zero, List.set_cons_succ]
                refine sct_now _ rfl (.inl ⟨rfl, fun w _ => rfl⟩) ?_
                simp only [List.getElem_toArray, List.getElem_cons_succ, List.getElem_cons_zero, Act.put, List.setIfInBounds_toArray, List.set_cons_zero, List.set_cons_succ]
                refine sct_now _ rfl (.inl ⟨rfl, fun w _ => rfl⟩) ?_
                simp only [List.getElem_toArray, List.getElem_cons_succ, List.getElem_cons_zero, Act.put, List.setIfInBounds_toArray, List.set_cons_zero, List.set_cons_succ]
                refine sct_one rfl ?_
                go_wp2
                have hb_c39 : Below c38.heap.size c38 (c38.alloc (.cells #[.int .i8 0, .int .i8 0, .int .i8 0, .int .i8 0, .int .i8 0, .int .i8 0, .int .i8 0, .int .i8 0, .int .i8 0, .int .i8 0, .int .i8 0, .int .i8 0, .int .i8 0, .int .i8 0, .int .i8 0, .int .i8 0, .int .i8 0, .int .i8 0, .int .i8 0, .int .i8 0, .int .i8 0, .int .i8 0, .int .i8 0, .int .i8 0, .int .i8 0, .int .i8 0, .int .i8 0, .int .i8 0, .slice none 0 0] 65)) := (Below.refl _ _).alloc (Nat.le_refl _) _
                have T0_c39 := there_newg (w := c38) (cs := #[.int .i8 0, .int .i8 0, .int .i8 0, .int .i8 0, .int .i8 0, .int .i8 0, .int .i8 0, .int .i8 0, .int .i8 0, .int .i8 0, .int .i8 0, .int .i8 0, .int .i8 0, .int .i8 0, .int .i8 0, .int .i8 0, .int .i8 0, .int .i8 0, .int .i8 0, .int .i8 0, .int .i8 0, .int .i8 0, .int .i8 0, .int .i8 0, .int .i8 0, .int .i8 0, .int .i8 0, .int .i8 0, .slice none 0 0]) (t := 65) (g := c38.heap.size) (n := 29) rfl rfl
                have gl_c39 : c38.heap.size < (c38.alloc (.cells #[.int .i8 0, .int .i8 0, .int .i8 0, .int .i8 0, .int .i8 0, .int .i8 0, .int .i8 0, .int .i8 0, .int .i8 0, .int .i8 0, .int .i8 0, .int .i8 0, .int .i8 0, .int .i8 0, .int .i8 0, .int .i8 0, .int .i8 0, .int .i8 0, .int .i8 0, .int .i8 0, .int .i8 0, .int .i8 0, .int .i8 0, .int .i8 0, .int .i8 0, .int .i8 0, .int .i8 0, .int .i8 0, .slice none 0 0] 65)).heap.size := by simp
                obtain ⟨c39, hx_c39⟩ : ∃ q, q = (c38.alloc (.cells #[.int .i8 0, .int .i8 0, .int .i8 0, .int .i8 0, .int .i8 0, .int .i8 0, .int .i8 0, .int .i8 0, .int .i8 0, .int .i8 0, .int .i8 0, .int .i8 0, .int .i8 0, .int .i8 0, .int .i8 0, .int .i8 0, .int .i8 0, .int .i8 0, .int .i8 0, .int .i8 0, .int .i8 0, .int .i8 0, .int .i8 0, .int .i8 0, .int .i8 0, .int .i8 0, .int .i8 0, .int .i8 0, .slice none 0 0] 65)) := ⟨_, rfl⟩
                rw [← hx_c39] at hb_c39 T0_c39 gl_c39 ⊢
                clear hx_c39
                have q_c39 := q_c38.trans (hb_c39.mono q_c38.size)
                have P_c39 := P_c38.below hb_c39 (Nat.le_refl _)
                have S_c39 := S0_.below hb_c39 (Nat.le_refl _)
                refine ⟨q_c39, ?_⟩
                refine sct_one rfl ?_
                have T9_ : c39.there c38.heap.size 0 (fc R (.slice As R.ps.length cs)).toArray.size := by simp only [List.size_toArray]; rw [fc_length hRW.out]; exact T0_c39
                have ge_ : w15.heap.size ≤ c38.heap.size := q_c38.size
                refine wpList_store_mid rfl 65 (.tmp 14) (.tmp 85) rfl c38.heap.size 0 (fc R (.slice As R.ps.length cs)).toArray rfl rfl T9_ (HII.out R hRW.out _) (fc_one _ _ _ _) ?_
                go_wp2_with fail
                have ne_ : ∀ k, blkP As R.ps = some k → k ≠ c38.heap.size := fun k hk => by have := blkP_bd S0_ k hk; omega
                have q9_ := below_setCells (fc R (.slice As R.ps.length cs)).toArray.toList c38.heap.size 0 _ q_c39 ge_
                have r9_ := World.rangeAt_setCells_same c39 c38.heap.size 0 (fc R (.slice As R.ps.length cs)).toArray.toList T9_
                have S9_ := pairsIn_setCells (vs := (fc R (.slice As R.ps.length cs)).toArray.toList) S_c39 ne_
                have gl9_ : c38.heap.size < (c39.setCells c38.heap.size 0 (fc R (.slice As R.ps.length cs)).toArray.toList).heap.size := by rw [size_setCells]; exact gl_c39
                obtain ⟨w9, hx9_⟩ : ∃ q, q = (c39.setCells c38.heap.size 0 (fc R (.slice As R.ps.length cs)).toArray.toList) := ⟨_, rfl⟩
                rw [← hx9_] at q9_ r9_ S9_ gl9_ ⊢
                clear hx9_
                refine ⟨q9_, ?_⟩
                refine sct_one rfl ?_
                go_wp2
                refine sct_fin ?_
                go_wp2
                go_meet
                exact ⟨c38.heap.size, As, cs, rfl, rfl, r9_, ge_, gl9_, PairsIn.mono S9_ (q_c37.size), fun k hk => ⟨Nat.le_trans (q_c37.size) (blkP_bd S9_ k hk).1, (blkP_bd S9_ k hk).2, ne_ k hk⟩, q9_⟩
              · go_wp2
                have hb_c42 : Below c37.heap.size c37 (c37.alloc (.cells #[.int .i8 0, .int .i8 0, .int .i8 0, .int .i8 0, .int .i8 0, .int .i8 0, .int .i8 0, .int .i8 0, .int .i8 0, .int .i8 0, .int .i8 0, .int .i8 0, .int .i8 0, .int .i8 0, .int .i8 0, .int .i8 0, .int .i8 0, .int .i8 0, .int .i8 0, .int .i8 0, .int .i8 0, .int .i8 0, .int .i8 0, .int .i8 0, .int .i8 0, .int .i8 0, .int .i8 0, .int .i8 0, .slice none 0 0] 65)) := (Below.refl _ _).alloc (Nat.le_refl _) _
                have T0_c42 := there_newg (w := c37) (cs := #[.int .i8 0, .int .i8 0, .int .i8 0, .int .i8 0, .int .i8 0, .int .i8 0, .int .i8 0, .int .i8 0, .int .i8 0, .int .i8 0, .int .i8 0, .int .i8 0, .int .i8 0, .int .i8 0, .int .i8 0, .int .i8 0, .int .i8 0, .int .i8 0, .int .i8 0, .int .i8 0, .int .i8 0, .int .i8 0, .int .i8 0, .int .i8 0, .int .i8 0, .int .i8 0, .int .i8 0, .int .i8 0, .slice none 0 0]) (t := 65) (g := c37.heap.size) (n := 29) rfl rfl
                have gl_c42 : c37.heap.size < (c37.alloc (.cells #[.int .i8 0, .int .i8 0, .int .i8 0, .int .i8 0, .int .i8 0, .int .i8 0, .int .i8 0, .int .i8 0, .int .i8 0, .int .i8 0, .int .i8 0, .int .i8 0, .int .i8 0, .int .i8 0, .int .i8 0, .int .i8 0, .int .i8 0, .int .i8 0, .int .i8 0, .int .i8 0, .int .i8 0, .int .i8 0, .int .i8 0, .int .i8 0, .int .i8 0, .int .i8 0, .int .i8 0, .int .i8 0, .slice none 0 0] 65)).heap.size := by simp
                obtain ⟨c42, hx_c42⟩ : ∃ q, q = (c37.alloc (.cells #[.int .i8 0, .int .i8 0, .int .i8 0, .int .i8 0, .int .i8 0, .int .i8 0, .int .i8 0, .int .i8 0, .int .i8 0, .int .i8 0, .int .i8 0, .int .i8 0, .int .i8 0, .int .i8 0, .int .i8 0, .int .i8 0, .int .i8 0, .int .i8 0, .int .i8 0, .int .i8 0, .int .i8 0, .int .i8 0, .int .i8 0, .int .i8 0, .int .i8 0, .int .i8 0, .int .i8 0, .int .i8 0, .slice none 0 0] 65)) := ⟨_, rfl⟩
                rw [← hx_c42] at hb_c42 T0_c42 gl_c42 ⊢
                clear hx_c42
                have q_c42 := q_c37.trans (hb_c42.mono q_c37.size)
                have P_c42 := P_c37.below hb_c42 (Nat.le_refl _)
                refine ⟨q_c42, ?_⟩
                refine sct_one rfl ?_
                go_wp2_with fail
                refine (HIM.out _ _ _ (Nat.le_refl _) P_c42.at_).mono ?_
                rintro e c43 ⟨As, cs, rfl, S0_, hb_c43⟩
                have q_c43 := q_c42.trans (hb_c43.mono q_c42.size)
                have P_c43 := P_c42.below hb_c43 (Nat.le_refl _)
                have T_c43 := there_below T0_c42 hb_c43 gl_c42
                have gl_c43 : c37.heap.size < c43.heap.size := Nat.lt_of_lt_of_le gl_c42 hb_c43.size
                go_wp2_with fail
                refine ⟨q_c43, ?_⟩
                refine sct_now _ rfl (.inl ⟨rfl, fun w _ => rfl⟩) ?_
                simp only [List.getElem_toArray, List.getElem_cons_succ, List.getElem_cons_zero, Act.put, List.setIfInBounds_toArray, List.set_cons_zero, List.set_cons_succ]
                refine sct_now _ rfl (.inl ⟨rfl, fun w _ => rfl⟩) ?_
                simp only [List.getElem_toArray, List.getElem_cons_succ, List.getElem_cons_zero, Act.put, List.setIfInBounds_toArray, List.set_cons_zero, List.set_cons_succ]
                refine sct_now _ rfl (.inl ⟨rfl, fun w _ => rfl⟩) ?_
                simp only [List.getElem_toArray, List.getElem_cons_succ, List.getElem_cons_zero, Act.put, List.setIfInBounds_toArray, List.set_cons_zero, List.set_cons_succ]
                refine sct_one rfl ?_
                have T9_ : c43.there c37.heap.size 0 (fc R (.slice As R.ps.length cs)).toArray.size := by simp only [List.size_toArray]; rw [fc_length hRW.out]; exact T_c43
                have ge_ : w15.heap.size ≤ c37.heap.size := q_c37.size
                refine wpList_store_mid rfl 65 (.tmp 14) (.tmp 85) rfl c37.heap.size 0 (fc R (.slice As R.ps.length cs)).toArray rfl rfl T9_ (HII.out R hRW.out _) (fc_one _ _ _ _) ?_
                go_wp2_with fail
                have ne_ : ∀ k, blkP As R.ps = some k → k ≠ c37.heap.size := fun k hk => by have := blkP_bd S0_ k hk; have := (gl_c42 : c37.heap.size < c42.heap.size); omega
                have q9_ := below_setCells (fc R (.slice As R.ps.length cs)).toArray.toList c37.heap.size 0 _ q_c43 ge_
                have r9_ := World.rangeAt_setCells_same c43 c37.heap.size 0 (fc R (.slice As R.ps.length cs)).toArray.toList T9_
                have S9_ := pairsIn_setCells (vs := (fc R (.slice As R.ps.length cs)).toArray.toList) S0_ ne_
                have gl9_ : c37.heap.size < (c43.setCells c37.heap.size 0 (fc R (.slice As R.ps.length cs)).toArray.toList).heap.size := by rw [size_setCells]; exact gl_c43
                obtain ⟨w9, hx9_⟩ : ∃ q, q = (c43.setCells c37.heap.size 0 (fc R (.slice As R.ps.length cs)).toArray.toList) := ⟨_, rfl⟩
                rw [← hx9_] at q9_ r9_ S9_ gl9_ ⊢
                clear hx9_
                refine ⟨q9_, ?_⟩
                refine sct_one rfl ?_
                go_wp2
                refine sct_fin ?_
                go_wp2
                go_meet
                exact ⟨c37.heap.size, As, cs, rfl, rfl, r9_, ge_, gl9_, PairsIn.mono S9_ (q_c42.size), fun k hk => ⟨Nat.le_trans (q_c42.size) (blkP_bd S9_ k hk).1, (blkP_bd S9_ k hk).2, ne_ k hk⟩, q9_⟩
            · go_wp2
              have hb_c46 : Below c36.heap.size c36 (c36.alloc (.cells #[.int .i8 0, .int .i8 0, .int .i8 0, .int .i8 0, .int .i8 0, .int .i8 0, .int .i8 0, .int .i8 0, .int .i8 0, .int .i8 0, .int .i8 0, .int .i8 0, .int .i8 0, .int .i8 0, .int .i8 0, .int .i8 0, .int .i8 0, .int .i8 0, .int .i8 0, .int .i8 0, .int .i8 0, .int .i8 0, .int .i8 0, .int .i8 0, .int .i8 0, .int .i8 0, .int .i8 0, .int .i8 0, .slice none 0 0] 65)) := (Below.refl _ _).alloc (Nat.le_refl _) _
              have T0_c46 := there_newg (w := c36) (cs := #[.int .i8 0, .int .i8 0, .int .i8 0, .int .i8 0, .int .i8 0, .int .i8 0, .int .i8 0, .int .i8 0, .int .i8 0, .int .i8 0, .int .i8 0, .int .i8 0, .int .i8 0, .int .i8 0, .int .i8 0, .int .i8 0, .int .i8 0, .int .i8 0, .int .i8 0, .int .i8 0, .int .i8 0, .int .i8 0, .int .i8 0, .int .i8 0, .int .i8 0, .int .i8 0, .int .i8 0, .int .i8 0, .slice none 0 0]) (t := 65) (g := c36.heap.size) (n := 29) rfl rfl
              have gl_c46 : c36.heap.size < (c36.alloc (.cells #[.int .i8 0, .int .i8 0, .int .i8 0, .int .i8 0, .int .i8 0, .int .i8 0, .int .i8 0, .int .i8 0, .int .i8 0, .int .i8 0, .int .i8 0, .int .i8 0, .int .i8 0, .int .i8 0, .int .i8 0, .int .i8 0, .int .i8 0, .int .i8 0, .int .i8 0, .int .i8 0, .int .i8 0, .int .i8 0, .int .i8 0, .int .i8 0, .int .i8 0, .int .i8 0, .int .i8 0, .int .i8 0, .slice none 0 0] 65)).heap.size := by simp
              obtain ⟨c46, hx_c46⟩ : ∃ q, q = (c36.alloc (.cells #[.int .i8 0, .int .i8 0, .int .i8 0, .int .i8 0, .int .i8 0, .int .i8 0, .int .i8 0, .int .i8 0, .int .i8 0, .int .i8 0, .int .i8 0, .int .i8 0, .int .i8 0, .int .i8 0, .int .i8 0, .int .i8 0, .int .i8 0, .int .i8 0, .int .i8 0, .int .i8 0, .int .i8 0, .int .i8 0, .int .i8 0, .int .i8 0, .int .i8 0, .int .i8 0, .int .i8 0, .int .i8 0, .slice none 0 0] 65)) := ⟨_, rfl⟩
              rw [← hx_c46] at hb_c46 T0_c46 gl_c46 ⊢
              clear hx_c46
              have q_c46 := q_c36.trans (hb_c46.mono q_c36.size)
              have P_c46 := P0_.below hb_c46 (Nat.le_refl _)
              refine ⟨q_c46, ?_⟩
              refine sct_one rfl ?_
              go_wp2_with fail
              refine (toPair_any x y z _).mono ?_
              rintro e c47 ⟨rfl, hb_c47⟩
              have q_c47 := q_c46.trans (hb_c47.mono q_c46.size)
              have P_c47 := P_c46.below hb_c47 (Nat.le_refl _)
              have T_c47 := there_below T0_c46 hb_c47 gl_c46
              have gl_c47 : c36.heap.size < c47.heap.size := Nat.lt_of_lt_of_le gl_c46 hb_c47.size
              go_wp2_with fail
              refine ⟨q_c47, ?_⟩
              refine sct_one rfl ?_
              go_wp2_with fail
              refine (HIM.out _ _ _ (Nat.le_refl _) P_c47.at_).mono ?_
              rintro e c48 ⟨As, cs, rfl, S0_, hb_c48⟩
              have q_c48 := q_c47.trans (hb_c48.mono q_c47.size)
              have P_c48 := P_c47.below hb_c48 (Nat.le_refl _)
              have T_c48 := there_below T_c47 hb_c48 gl_c47
              have gl_c48 : c36.heap.size < c48.heap.size := Nat.lt_of_lt_of_le gl_c47 hb_c48.size
              go_wp2_with fail
              refine ⟨q_c48, ?_⟩
              refine sct_now _ rfl (.inl ⟨rfl, fun w _ => rfl⟩) ?_
              simp only [List.getElem_toArray, List.getElem_cons_succ, List.getElem_cons_zero, Act.put, List.setIfInBounds_toArray, List.set_cons_zero, List.set_cons_succ]
              refine sct_now _ rfl (.inl ⟨rfl, fun w _ => rfl⟩) ?_
              simp only [List.getElem_toArray, List.getElem_cons_succ, List.getElem_cons_zero, Act.put, List.setIfInBounds_toArray, List.set_cons_zero, List.set_cons_succ]
              refine sct_now _ rfl (.inl ⟨rfl, fun w _ => rfl⟩) ?_
              simp only [List.getElem_toArray, List.getElem_cons_succ, List.getElem_cons_zero, Act.put, List.setIfInBounds_toArray, List.set_cons_zero, List.set_cons_succ]
              refine sct_one rfl ?_
              have T9_ : c48.there c36.heap.size 0 (fc R (.slice As R.ps.length cs)).toArray.size := by simp only [List.size_toArray]; rw [fc_length hRW.out]; exact T_c48
              have ge_ : w15.heap.size ≤ c36.heap.size := q_c36.size
              refine wpList_store_mid rfl 65 (.tmp 14) (.tmp 85) rfl c36.heap.size 0 (fc R (.slice As R.ps.length cs)).toArray rfl rfl T9_ (HII.out R hRW.out _) (fc_one _ _ _ _) ?_
              go_wp2_with fail
              have ne_ : ∀ k, blkP As R.ps = some k → k ≠ c36.heap.size := fun k hk => by have := blkP_bd S0_ k hk; have := (gl_c47 : c36.heap.size < c47.heap.size); omega
              have q9_ := below_setCells (fc R (.slice As R.ps.length cs)).toArray.toList c36.heap.size 0 _ q_c48 ge_
              have r9_ := World.rangeAt_setCells_same c48 c36.heap.size 0 (fc R (.slice As R.ps.length cs)).toArray.toList T9_
              have S9_ := pairsIn_setCells (vs := (fc R (.slice As R.ps.length cs)).toArray.toList) S0_ ne_
              have gl9_ : c36.heap.size < (c48.setCells c36.heap.size 0 (fc R (.slice As R.ps.length cs)).toArray.toList).heap.size := by rw [size_setCells]; exact gl_c48
              obtain ⟨w9, hx9_⟩ : ∃ q, q = (c48.setCells c36.heap.size 0 (fc R (.slice As R.ps.length cs)).toArray.toList) := ⟨_, rfl⟩
              rw [← hx9_] at q9_ r9_ S9_ gl9_ ⊢
              clear hx9_
              refine ⟨q9_, ?_⟩
              refine sct_one rfl ?_
              go_wp2
              refine sct_fin ?_
              go_wp2
              go_meet
              exact ⟨c36.heap.size, As, cs, rfl, rfl, r9_, ge_, gl9_, PairsIn.mono S9_ (q_c47.size), fun k hk => ⟨Nat.le_trans (q_c47.size) (blkP_bd S9_ k hk).1, (blkP_bd S9_ k hk).2, ne_ k hk⟩, q9_⟩
          · go_wp2
            have hb_c51 : Below wd.heap.size wd (wd.alloc (.cells #[.int .i8 0, .int .i8 0, .int .i8 0, .int .i8 0, .int .i8 0, .int .i8 0, .int .i8 0, .int .i8 0, .int .i8 0, .int .i8 0, .int .i8 0, .int .i8 0, .int .i8 0, .int .i8 0, .int .i8 0, .int .i8 0, .int .i8 0, .int .i8 0, .int .i8 0, .int .i8 0, .int .i8 0, .int .i8 0, .int .i8 0, .int .i8 0, .int .i8 0, .int .i8 0, .int .i8 0, .int .i8 0, .slice none 0 0] 65)) := (Below.refl _ _).alloc (Nat.le_refl _) _
            have T0_c51 := there_newg (w := wd) (cs := #[.int .i8 0, .int .i8 0, .int .i8 0, .int .i8 0, .int .i8 0, .int .i8 0, .int .i8 0, .int .i8 0, .int .i8 0, .int .i8 0, .int .i8 0, .int .i8 0, .int .i8 0, .int .i8 0, .int .i8 0, .int .i8 0, .int .i8 0, .int .i8 0, .int .i8 0, .int .i8 0, .int .i8 0, .int .i8 0, .int .i8 0, .int .i8 0, .int .i8 0, .int .i8 0, .int .i8 0, .int .i8 0, .slice none 0 0]) (t := 65) (g := wd.heap.size) (n := 29) rfl rfl
            have gl_c51 : wd.heap.size < (wd.alloc (.cells #[.int .i8 0, .int .i8 0, .int .i8 0, .int .i8 0, .int .i8 0, .int .i8 0, .int .i8 0, .int .i8 0, .int .i8 0, .int .i8 0, .int .i8 0, .int .i8 0, .int .i8 0, .int .i8 0, .int .i8 0, .int .i8 0, .int .i8 0, .int .i8 0, .int .i8 0, .int .i8 0, .int .i8 0, .int .i8 0, .int .i8 0, .int .i8 0, .int .i8 0, .int .i8 0, .int .i8 0, .int .i8 0, .slice none 0 0] 65)).heap.size := by simp
            obtain ⟨c51, hx_c51⟩ : ∃ q, q = (wd.alloc (.cells #[.int .i8 0, .int .i8 0, .int .i8 0, .int .i8 0, .int .i8 0, .int .i8 0, .int .i8 0, .int .i8 0, .int .i8 0, .int .i8 0, .int .i8 0, .int .i8 0, .int .i8 0, .int .i8 0, .int .i8 0, .int .i8 0, .int .i8 0, .int .i8 0, .int .i8 0, .int .i8 0, .int .i8 0, .int .i8 0, .int .i8 0, .int .i8 0, .int .i8 0, .int .i8 0, .int .i8 0, .int .i8 0, .slice none 0 0] 65)) := ⟨_, rfl⟩
            rw [← hx_c51] at hb_c51 T0_c51 gl_c51 ⊢
            clear hx_c51
            have q_c51 := qd.trans (hb_c51.mono qd.size)
            refine ⟨q_c51, ?_⟩
            refine sct_one rfl ?_
            go_wp2_with fail
            refine (toFaceB_any F hF A c _ (hAW.go (hB15.trans (q_c51.mono hB15.size)) hws) hn).mono ?_
            rintro e c52 ⟨bb_, rfl, P0_, hb_c52⟩
            have q_c52 := q_c51.trans (hb_c52.mono q_c51.size)
            have T_c52 := there_below T0_c51 hb_c52 gl_c51
            have gl_c52 : wd.heap.size < c52.heap.size := Nat.lt_of_lt_of_le gl_c51 hb_c52.size
            go_wp2_with fail
            refine ⟨q_c52, ?_⟩
            refine sct_one rfl ?_
            go_wp2_with fail
            refine (toPair_any x y z _).mono ?_
            rintro e c53 ⟨rfl, hb_c53⟩
            have q_c53 := q_c52.trans (hb_c53.mono q_c52.size)
            have P_c53 := P0_.below hb_c53 (Nat.le_refl _)
            have T_c53 := there_below T_c52 hb_c53 gl_c52
            have gl_c53 : wd.heap.size < c53.heap.size := Nat.lt_of_lt_of_le gl_c52 hb_c53.size
            go_wp2_with fail
            refine ⟨q_c53, ?_⟩
            refine sct_one rfl ?_
            go_wp2_with fail
            refine (HIM.out _ _ _ (Nat.le_refl _) P_c53.at_).mono ?_
            rintro e c54 ⟨As, cs, rfl, S0_, hb_c54⟩
            have q_c54 := q_c53.trans (hb_c54.mono q_c53.size)
            have P_c54 := P_c53.below hb_c54 (Nat.le_refl _)
            have T_c54 := there_below T_c53 hb_c54 gl_c53
            have gl_c54 : wd.heap.size < c54.heap.size := Nat.lt_of_lt_of_le gl_c53 hb_c54.size
            go_wp2_with fail
            refine ⟨q_c54, ?_⟩
            refine sct_now _ rfl (.inl ⟨rfl, fun w _ => rfl⟩) ?_
            simp only [List.getElem_toArray, List.getElem_cons_succ, List.getElem_cons_zero, Act.put, List.setIfInBounds_toArray, List.set_cons_zero, List.set_cons_succ]
            refine sct_now _ rfl (.inl ⟨rfl, fun w _ => rfl⟩) ?_
            simp only [List.getElem_toArray, List.getElem_cons_succ, List.getElem_cons_zero, Act.put, List.setIfInBounds_toArray, List.set_cons_zero, List.set_cons_succ]
            refine sct_now _ rfl (.inl ⟨rfl, fun w _ => rfl⟩) ?_
            simp only [List.getElem_toArray, List.getElem_cons_succ, List.getElem_cons_zero, Act.put, List.setIfInBounds_toArray, List.set_cons_zero, List.set_cons_succ]
            refine sct_one rfl ?_
            have T9_ : c54.there wd.heap.size 0 (fc R (.slice As R.ps.length cs)).toArray.size := by simp only [List.size_toArray]; rw [fc_length hRW.out]; exact T_c54
            have ge_ : w15.heap.size ≤ wd.heap.size := qd.size
            refine wpList_store_mid rfl 65 (.tmp 14) (.tmp 85) rfl wd.heap.size 0 (fc R (.slice As R.ps.length cs)).toArray rfl rfl T9_ (HII.out R hRW.out _) (fc_one _ _ _ _) ?_
            go_wp2_with fail
            have ne_ : ∀ k, blkP As R.ps = some k → k ≠ wd.heap.size := fun k hk => by have := blkP_bd S0_ k hk; have := (gl_c53 : wd.heap.size < c53.heap.size); omega
            have q9_ := below_setCells (fc R (.slice As R.ps.length cs)).toArray.toList wd.heap.size 0 _ q_c54 ge_
            have r9_ := World.rangeAt_setCells_same c54 wd.heap.size 0 (fc R (.slice As R.ps.length cs)).toArray.toList T9_
            have S9_ := pairsIn_setCells (vs := (fc R (.slice As R.ps.length cs)).toArray.toList) S0_ ne_
            have gl9_ : wd.heap.size < (c54.setCells wd.heap.size 0 (fc R (.slice As R.ps.length cs)).toArray.toList).heap.size := by rw [size_setCells]; exact gl_c54
            obtain ⟨w9, hx9_⟩ : ∃ q, q = (c54.setCells wd.heap.size 0 (fc R (.slice As R.ps.length cs)).toArray.toList) := ⟨_, rfl⟩
            rw [← hx9_] at q9_ r9_ S9_ gl9_ ⊢
            clear hx9_
            refine ⟨q9_, ?_⟩
            refine sct_one rfl ?_
            go_wp2
            refine sct_fin ?_
            go_wp2
            go_meet
            exact ⟨wd.heap.size, As, cs, rfl, rfl, r9_, ge_, gl9_, PairsIn.mono S9_ (q_c53.size), fun k hk => ⟨Nat.le_trans (q_c53.size) (blkP_bd S9_ k hk).1, (blkP_bd S9_ k hk).2, ne_ k hk⟩, q9_⟩
        case rest =>
          obtain ⟨g18, Ah, ch, rfl, rfl, r18, ge18, s18, Ph18, _, h1518⟩ := hcut
          obtain ⟨W18, hW18⟩ : ∃ q, q = wc := ⟨_, rfl⟩
          subst hW18
          have hK18 := hK15.trans (h1518.mono hK15.size)
          have z18 := h1518.size
          have q18 := rangeAt_over r4 hK18 s4
          have z18 := h1518.size
          clear l15
          go_wp2_with (first
            | (refine wpList_load_mid rfl 65 (.tmp 14) rfl _ 0 rfl (fc R (.slice Ah R.ps.length ch)) _ r18 Try.underlying65 rfl (HII.out R hRW.out _) ?_)
            | (refine wpList_load_mid rfl 65 (.tmp 6) rfl _ 0 rfl (fc R (.slice As R.ps.length cs)) _ q18 Try.underlying65 rfl (HII.out R hRW.out _) ?_))
          refine (eqFace_same R hRok Ah As ch cs _ Ph18.at_ (PsW.go hK18)).mono ?_
          rintro e w19 ⟨rfl, hb19⟩
          have h1519 := h1518.trans (hb19.mono h1518.size)
          have r19 := rangeAt_over r15 h1519 (by omega)
          have hM19 := hM15.below h1519 (Nat.le_refl _)
          clear q18 r18
          go_wp2_with (refine wpList_load_mid rfl 65 (.tmp 9) rfl _ 0 rfl (fc R (.slice Ag R.ps.length cg)) _ r19 Try.underlying65 rfl (HII.out R hRW.out _) ?_)
          refine (heldFace_any R hRok Ag _ _ hRn2 hM19.at_).mono ?_
          rintro e w20 ⟨rfl, hb20⟩
          have h1520 := h1519.trans (hb20.mono h1519.size)
          go_wp2
          go_ret
          exact ⟨rfl, b0.trans ((hB15.trans (h1520.mono hB15.size)).mono b0.size)⟩
end Go.Proofs.Ytkbemhjeflmppaa
