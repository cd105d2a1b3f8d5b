/- What a text costs: PriceOf of both. -/
import Derived.Test.YtjgcadohjccfaaaDoorPrB
import Derived.Test.YtjgcadohjccfaaaDoorSumG
import Derived.Test.YtjgcadohjccfaaaDoorIvTx
namespace Go.Proofs.YtjgcadohjccfaaaDoor
open Go Go.RowKit

/-! The program -/
set_option maxRecDepth 100000 in
set_option maxHeartbeats 8000000 in
theorem implPriceOf_any (F : Fc) (hF : F.ok) (A : Option Addr) (c : Nat) (P : List Int) (hP : P.length = 29) (hPx : ∀ x ∈ P, i16ok x) (s : ByteArray) (hs : s.size ≤ maxLen) (w : World) (hG : Glob w) (hA : PairsAt w w.heap.size A F.ps) :
    Calls Tryd.prog 14 #[.agg (fc F (.slice A F.ps.length c)).toArray, .agg (pw P).toArray, .string s] w fun e w' => e = .returned (.tuple #[.int .i64 (ppV F P s.data.toList), .int .i64 (ppC F P s.data.toList)]) ∧ Below w.heap.size w w' := by
  have b0 : Below w.heap.size w ((w.alloc (.cells (fc F (.slice A F.ps.length c)).toArray 36)).alloc (.cells (pw P).toArray 38)) := ((Below.refl _ _).alloc (Nat.le_refl _) _).alloc (by simp) _
  have r0 := World.rangeAt_alloc (rangeAt_new w (fc F (.slice A F.ps.length c)) 36) (.cells (pw P).toArray 38)
  have r1 := rangeAt_newg (w := w.alloc (.cells (fc F (.slice A F.ps.length c)).toArray 36)) (cs := (pw P).toArray) (t := 38) (g := w.heap.size + 1) (l := pw P) (by simp) rfl
  have s0 : w.heap.size + 1 < ((w.alloc (.cells (fc F (.slice A F.ps.length c)).toArray 36)).alloc (.cells (pw P).toArray 38)).heap.size := by simp
  have HI29 := hide (show (Tryd.prog.info? 36).map (·.size) = some (fc F (.slice A F.ps.length c)).length from by rw [fc_length hF.len]; kernel_rfl)
  have HIP := hide (show (Tryd.prog.info? 38).map (·.size) = some (pw P).length from by rw [pw_length, hP]; kernel_rfl)
  have HLP := hide (fun W h1 h2 => letterPrices_any F hF A c P hP hPx s hs W h1 h2)
  have HA := hide ((hA.below b0).mono b0.size)
  have HG := hide (hG.below b0)
  have c27 := rangeAt_cell r1 (pw_get (k := 27) (by rw [hP]; omega))
  unfold maxLen at hs
  cases hb : ppB F P s.data.toList
  · obtain ⟨e1, e2, e3⟩ := pp_no hb
    rw [e1, e3]
    rw [e1, e2] at HLP
    clear e1 e2 e3 hb hA hG hPx c27
    generalize fc F (.slice A F.ps.length c) = fcs at *
    go_enter Tryd.func14, Tryd.ntmps14
    repeat (first | (refine wpList_load_mid rfl 36 (.tmp 3) rfl _ 0 rfl fcs _ r0 Tryd.underlying36 rfl HI29.out ?_) | (refine wpList_load_mid rfl 38 (.tmp 4) rfl _ 0 rfl (pw P) _ r1 Tryd.underlying38 rfl HIP.out ?_) | go_step)
    refine (HLP.out _ HG.out HA.out).mono ?_
    rintro e w1 ⟨A1, c1, rfl, hI1, hb1⟩
    go_wp2
    go_ret2
    exact ⟨rfl, b0.trans (hb1.mono b0.size)⟩
  · obtain ⟨e1, e2, e3⟩ := pp_ok hb
    obtain ⟨hv, ht, hp⟩ := pp_parts hb
    rw [e1, e3]
    rw [e1, e2] at HLP
    have hbd := lprL_bd hF hv hP hp ht
    have hn60 := lprL_n (F := F) (P := P) ht
    have hsb := sumT_bd hbd (lprL F P s.data.toList).length (Nat.le_refl _)
    have HSU := hide (fun A c W h => sumOfG_any A (lprL F P s.data.toList) c W hn60 (fun x hx => by have := hbd x hx; omega) h)
    obtain ⟨b1, b2⟩ := vprc_at hp (k := 27) (by omega)
    have hsb2 : sumT (lprL F P s.data.toList) (lprL F P s.data.toList).length ≤ 2460000 := by omega
    obtain ⟨hsb1, _⟩ := hsb
    clear e1 e2 e3 hb hA hG hPx hv ht hp hbd
    generalize fc F (.slice A F.ps.length c) = fcs at *
    generalize sumT (lprL F P s.data.toList) (lprL F P s.data.toList).length = S at *
    generalize lprL F P s.data.toList = LP at *
    generalize P.getD 27 0 = pb at *
    have hw1 := IntWalk.i64_in pb ⟨by omega, by omega⟩
    have hw2 := IntWalk.i64_in (pb + S) ⟨by omega, by omega⟩
    go_enter Tryd.func14, Tryd.ntmps14
    repeat (first | (refine wpList_load_mid rfl 36 (.tmp 3) rfl _ 0 rfl fcs _ r0 Tryd.underlying36 rfl HI29.out ?_) | (refine wpList_load_mid rfl 38 (.tmp 4) rfl _ 0 rfl (pw P) _ r1 Tryd.underlying38 rfl HIP.out ?_) | go_step)
    refine (HLP.out _ HG.out HA.out).mono ?_
    rintro e w1 ⟨A1, c1, rfl, hI1, hb1⟩
    have cB := (hb1.cell (p := ⟨w.heap.size + 1, 27, none⟩) s0).trans c27
    have hcs := Over.get (W := w1) cB
    have hB1 := b0.trans (hb1.mono b0.size)
    have HSV := hide (fun W (h : Below w1.heap.size w1 W) => HSU.out A1 c1 W (hI1.at_.go h))
    clear c27 r0 r1 hb1 cB
    go_wp2
    refine wp_region_over (by kernel_rfl) (by kernel_rfl) ?_
    repeat (go_big_quiet_step ((go_at_call 43; exact over_same (HSV.out _ (Over.h _)))))
    refine wpQuiet_nil ?_
    intro w2 hb2
    go_wp2
    go_ret2
    exact ⟨rfl, hB1.trans (hb2.mono hB1.size)⟩

/-! The model -/
set_option maxRecDepth 100000 in
set_option maxHeartbeats 4000000 in
theorem l06Told_any (F : Fc) (hF : F.ok) (b : Nat) (A : Option Addr) (c : Nat) (P : List Int) (hP : P.length = 29) (hPx : ∀ x ∈ P, i16ok x) (b2 : Nat) (s : ByteArray) (hs : s.size ≤ maxLen) (fine : Bool) (w : World)
    (hr : w.rangeAt b 0 (fc F (.slice A F.ps.length c))) (hr2 : w.rangeAt b2 0 (pw P)) (hb2 : b2 < w.heap.size) (hA : PairsAt w w.heap.size A F.ps) :
    Calls Tryd.prog 37 #[.pointer (some ⟨b, 0, none⟩), .pointer (some ⟨b2, 0, none⟩), .string s, .bool fine] w fun e w' => e = .returned (.int .i64 (if ppB F P s.data.toList = true then (if fine = true then 0 else 2) else 1)) ∧ Below w.heap.size w w' := by
  have HF := hide (l01Face_any F hF b A c w hr hA)
  have HS := hide (fun W h => l06Prices_any P hP hPx b2 W h)
  have HT := hide (fun W => l01Text_any s W hs)
  have HR := hide (fun w' (hb : Below w.heap.size w w') => rangeAt_below hr2 hb hb2)
  have HG := hide (show ppB F P s.data.toList = (vface F && vtext s.data.toList && vprc P) from rfl)
  unfold maxLen at hs
  obtain ⟨C, hC⟩ : ∃ C : Int, (if ppB F P s.data.toList = true then (if fine = true then 0 else 2) else 1) = C := ⟨_, rfl⟩
  have HC := hide hC
  rw [hC]
  clear hr hr2 hA hC hPx
  cases h1 : vface F
  · rw [h1] at HF
    have HE : Hid (C = 1) := hide (by rw [← HC.out, HG.out, h1]; rfl)
    go_enter Tryd.func37, Tryd.ntmps37
    go_wp2_with (go_at_call 50; refine HF.out.mono ?_; rintro e w1 ⟨rfl, hb1⟩)
    go_ret
    exact ⟨ret_int HE.out.symm, hb1⟩
  · rw [h1] at HF
    cases h2 : vprc P
    · rw [h2] at HS
      have HE : Hid (C = 1) := hide (by rw [← HC.out, HG.out, h1, h2, Bool.and_false]; rfl)
      go_enter Tryd.func37, Tryd.ntmps37
      go_wp2_with (first | (go_at_call 50; refine HF.out.mono ?_; rintro e w1 ⟨rfl, hb1⟩) | (go_at_call 51; refine (HS.out _ (HR.out _ hb1)).mono ?_; rintro e w2 ⟨rfl, rfl⟩))
      go_ret
      exact ⟨ret_int HE.out.symm, hb1⟩
    · rw [h2] at HS
      cases h3 : vtext s.data.toList
      · rw [h3] at HT
        have HE : Hid (C = 1) := hide (by rw [← HC.out, HG.out, h1, h3]; rfl)
        go_enter Tryd.func37, Tryd.ntmps37
        go_wp2_with (first | (go_at_call 50; refine HF.out.mono ?_; rintro e w1 ⟨rfl, hb1⟩) | (go_at_call 51; refine (HS.out _ (HR.out _ hb1)).mono ?_; rintro e w2 ⟨rfl, rfl⟩) | (go_at_call 52; refine (HT.out _).mono ?_; rintro e w3 ⟨rfl, rfl⟩))
        go_ret
        exact ⟨ret_int HE.out.symm, hb1⟩
      · rw [h3] at HT
        cases fine
        · have HE : Hid (C = 2) := hide (by rw [← HC.out, HG.out, h1, h2, h3]; rfl)
          go_enter Tryd.func37, Tryd.ntmps37
          go_wp2_with (first | (go_at_call 50; refine HF.out.mono ?_; rintro e w1 ⟨rfl, hb1⟩) | (go_at_call 51; refine (HS.out _ (HR.out _ hb1)).mono ?_; rintro e w2 ⟨rfl, rfl⟩) | (go_at_call 52; refine (HT.out _).mono ?_; rintro e w3 ⟨rfl, rfl⟩))
          go_ret
          exact ⟨ret_int HE.out.symm, hb1⟩
        · have HE : Hid (C = 0) := hide (by rw [← HC.out, HG.out, h1, h2, h3]; rfl)
          go_enter Tryd.func37, Tryd.ntmps37
          go_wp2_with (first | (go_at_call 50; refine HF.out.mono ?_; rintro e w1 ⟨rfl, hb1⟩) | (go_at_call 51; refine (HS.out _ (HR.out _ hb1)).mono ?_; rintro e w2 ⟨rfl, rfl⟩) | (go_at_call 52; refine (HT.out _).mono ?_; rintro e w3 ⟨rfl, rfl⟩))
          go_ret
          exact ⟨ret_int HE.out.symm, hb1⟩

/-- Letters come back. -/
def LtB (M : List UInt8) (w : World) : Ending → World → Prop := fun e w' => ∃ v, e = .returned v ∧ w'.ownsRow w.heap.size 5 1 v M.length (Lib.byteCells M) ∧ Below w.heap.size w w'

set_option maxRecDepth 100000 in
set_option maxHeartbeats 8000000 in
theorem l06Letters_any (s : ByteArray) (w : World) (hs : s.size ≤ 1048576) :
    Calls Tryd.prog 76 #[.string s] w (LtB (lettL s.data.toList) w) := by
  obtain ⟨i0, hi0, hz0, hz1, hz2⟩ := info_parts Tryd.infoU8
  have HLN : Hid (∀ k, (lettL (s.data.toList.take k)).length ≤ k) := hide (fun k => Nat.le_trans (lettL_len _) (by simp; omega))
  have HTA : Hid (s.data.toList.take s.size = s.data.toList) := hide (by have : s.size = s.data.toList.length := by simp
                                                                         rw [this]; exact List.take_length)
  have HGET := hide (fun (k : Nat) (h : k < s.size) => show s.data.toList[k]? = some s[k] from by
    have h' : k < s.data.toList.length := by simpa using h
    rw [List.getElem?_eq_getElem h']; rfl)
  go_enter Tryd.func76, Tryd.ntmps76
  go_wp2
  go_loopw [3, 4] (fun br i wr => ∃ k : Nat, k ≤ s.size ∧ i = .int .i64 k ∧ wr.ownsRow w.heap.size 5 1 br (lettL (s.data.toList.take k)).length (Lib.byteCells (lettL (s.data.toList.take k))) ∧ Below w.heap.size w wr)
    (fun _ i _ => s.size - (intOf i).toNat)
  case atStart => exact ⟨0, Nat.zero_le _, rfl, World.ownsRow_made w _ 0 (Nat.le_refl _) (by unfold maxLen; omega) rfl, (Below.refl _ _).alloc (Nat.le_refl _) _⟩
  case round =>
    obtain ⟨k, hk, rfl, hown, hB⟩ := hrel
    obtain ⟨Ab, cbb, rfl, hcap, _⟩ := cellsIn_of_own hown (by omega)
    have hbs := hB.size
    have HOWN := hide hown
    have hln := HLN.out k
    clear hown
    by_cases hlt : k < s.size
    · have hi : (k : Int) < s.size := by omega
      have hk0 : (0 : Int) ≤ k := by omega
      have hg := HGET.out k hlt
      cases h32 : ((s[k].toNat : Int) == 32)
      · have hne : ((s[k].toNat : Int) != 32) = true := by simp [bne, h32]
        have hn32 : s[k] ≠ 32 := by intro e; rw [e] at h32; simp at h32
        have HE : Hid (lettL (s.data.toList.take (k + 1)) = lettL (s.data.toList.take k) ++ [s[k]]) := hide (by unfold lettL; rw [List.take_add_one, hg]; simp [hn32])
        clear hg hn32
        go_wp2_with (at_builtin; refine wpList_append_own _ rfl (.tmp 16) (.tmp 20) 115 rfl w.heap.size 5 i0 (.int .u8 0) 1 1 Tryd.underlying115 hi0 hz0 hz1 hz2 rfl (by decide) _ (lettL (s.data.toList.take k)).length _ rfl (HOWN.out.alloc _) ⟨wr.heap.size, 0, none⟩ 1 1 [.int .u8 (s[k].toNat : Int)] rfl rfl (one_cell _) (one_one rfl) ?h1 ?h2 ?h3 ?_)
        case h1 => unfold maxLen; omega
        case h2 => omega
        case h3 => simp; omega
        intro v' w4 hown4 hg4 _
        obtain ⟨A4, c4, rfl, _, _⟩ := cellsIn_of_own hown4 (by omega)
        have H4 := hide hown4
        have hg34 : wr.grownBy w4 _ := grown_trans (World.grownBy_alloc wr _ _) hg4
        have hB4 := hB.trans (grown_toBelow hg34 (by omega) (fun k hk => (HOWN.out.lt k hk).1))
        clear hown4 hg4 hg34
        go_wp2
        refine ⟨⟨k + 1, by omega, by go_num, ?_, hB4⟩, by simp [intOf]; omega⟩
        rw [HE.out, Lib.byteCells_append, List.length_append]
        exact H4.out
      · have hne : ((s[k].toNat : Int) != 32) = false := by simp [bne, h32]
        have he32 : s[k] = 32 := UInt8.toNat_inj.1 (by have := eq_of_beq h32; show s[k].toNat = 32; omega)
        have HE : Hid (lettL (s.data.toList.take (k + 1)) = lettL (s.data.toList.take k)) := hide (by unfold lettL; rw [List.take_add_one, hg, he32]; simp)
        clear hg he32
        go_wp2
        refine ⟨⟨k + 1, by omega, by go_num, ?_, hB⟩, by simp [intOf]; omega⟩
        rw [HE.out]
        exact HOWN.out
    · obtain rfl : k = s.size := by omega
      rw [HTA.out] at HOWN
      go_wp2
      go_ret
      rw [HTA.out]
      exact ⟨_, rfl, HOWN.out, hB⟩

set_option maxRecDepth 100000 in
set_option maxHeartbeats 8000000 in
theorem l06Letter_any (F : Fc) (hF : F.ok) (b : Nat) (sl : Value) (P : List Int) (hP : P.length = 29) (b2 : Nat) (bt : UInt8) (w : World) (hc : 65 ≤ bt.toNat ∧ bt.toNat ≤ 90)
    (hb1 : 0 ≤ P.getD (bt.toNat - 65) 0 ∧ P.getD (bt.toNat - 65) 0 ≤ 1000) (hb2 : 0 ≤ P.getD 26 0 ∧ P.getD 26 0 ≤ 1000) (hb3 : 0 ≤ P.getD 26 0 * lwd F bt ∧ P.getD 26 0 * lwd F bt ≤ 40000) (hb4 : 1 ≤ lwd F bt ∧ lwd F bt ≤ 40)
    (hr : w.rangeAt b 0 (fc F sl)) (hr2 : w.rangeAt b2 0 (pw P)) :
    Calls Tryd.prog 77 #[.pointer (some ⟨b, 0, none⟩), .pointer (some ⟨b2, 0, none⟩), .int .u8 (bt.toNat : Int)] w fun e w' => e = .returned (.int .i64 (lpr F P bt)) ∧ Below w.heap.size w w' := by
  obtain ⟨j, hj⟩ : ∃ j : Nat, bt.toNat = j + 65 := ⟨bt.toNat - 65, by omega⟩
  have hj26 : j < 26 := by omega
  have e2 : bt.toNat - 65 = j := by omega
  have HLP : Hid (lpr F P bt = P.getD j 0 + P.getD 26 0 * lwd F bt) := hide (by unfold lpr; rw [e2])
  have cP := rangeAt_cell hr2 (pw_get (k := j) (by rw [hP]; omega))
  have cG := rangeAt_cell hr2 (pw_get (k := 26) (by rw [hP]; omega))
  have cW := rangeAt_cell hr (fc_W hF.len sl hj26)
  have hlw : F.W.getD j 0 = lwd F bt := by unfold lwd; rw [e2]
  rw [hlw] at cW
  rw [e2] at hb1
  obtain ⟨p1, p2⟩ := hb1
  obtain ⟨g1, g2⟩ := hb2
  obtain ⟨m1, m2⟩ := hb3
  obtain ⟨l1, l2⟩ := hb4
  rw [HLP.out]
  generalize P.getD j 0 = pj at *
  generalize P.getD 26 0 = pg at *
  generalize lwd F bt = lw at *
  have hxj : (bt.toNat : Int) - 65 = j := by omega
  have hw0 := IntWalk.u8_in ((bt.toNat : Int) - 65) ⟨by omega, by omega⟩
  rw [hxj] at hw0
  have hji : (j : Int) < 26 := by omega
  have hj0 : (0 : Int) ≤ j := by omega
  have hw1 := IntWalk.i64_in pj ⟨by omega, by omega⟩
  have hw2 := IntWalk.i64_in pg ⟨by omega, by omega⟩
  have hw3 := IntWalk.i64_in (pg * lw) ⟨by omega, by omega⟩
  have hw4 := IntWalk.i64_in (pj + pg * lw) ⟨by omega, by omega⟩
  have hw5 := IntWalk.i64_in lw ⟨by omega, by omega⟩
  clear hr hr2 hlw e2 hj HLP hP hc
  generalize (bt.toNat : Int) = x at *
  go_enter Tryd.func77, Tryd.ntmps77
  go_wp2
  go_quiet (fail)
  go_wp2
  go_ret
  exact ⟨rfl, below_drewN (Below.refl _ _) _⟩

theorem lpr_sum_bd {F : Fc} (hF : F.ok) (h : vface F = true) {P : List Int} (hP : P.length = 29) (hv : vprc P = true) {L : List UInt8} (ht : vtext L = true) : ∀ k, k ≤ (lettL L).length → 0 ≤ sumT (lprL F P L) k ∧ sumT (lprL F P L) k ≤ 2460000 := fun k hk => by
  have h1 := sumT_bd (lprL_bd hF h hP hv ht) k (by rw [lprL_len]; exact hk)
  have h2 := lprL_n (F := F) (P := P) ht
  rw [lprL_len] at h2
  omega

set_option maxRecDepth 100000 in
set_option maxHeartbeats 8000000 in
theorem l06Price_any (F : Fc) (hF : F.ok) (b : Nat) (sl : Value) (P : List Int) (hP : P.length = 29) (b2 : Nat) (s : ByteArray) (w : World) (hv : vface F = true) (ht : vtext s.data.toList = true) (hp : vprc P = true)
    (hr : w.rangeAt b 0 (fc F sl)) (hb : b < w.heap.size) (hr2 : w.rangeAt b2 0 (pw P)) (hb2 : b2 < w.heap.size) :
    Calls Tryd.prog 38 #[.pointer (some ⟨b, 0, none⟩), .pointer (some ⟨b2, 0, none⟩), .string s] w fun e w' => e = .returned (.int .i64 (P.getD 27 0 + sumT (lprL F P s.data.toList) (lettL s.data.toList).length)) ∧ Below w.heap.size w w' := by
  have hs60 : s.size ≤ 60 := by have := (vtext_true.1 ht).1; simpa using this
  have HLT := hide (l06Letters_any s w (by omega))
  have hm60 : (lettL s.data.toList).length ≤ 60 := by have := lettL_len s.data.toList; have e : s.data.toList.length = s.size := by simp
                                                      omega
  have HLB := hide (fun bt hbt => lpr_bd hF hv hP hp ht (b := bt) hbt)
  have HLW := hide (fun bt hbt => lw_bd hF hv ht bt hbt)
  have HCAP := hide (fun bt hbt => lett_cap ht (b := bt) hbt)
  have HLE := hide (fun bt h1 h2 h3 h4 h5 W hr hr2 => l06Letter_any F hF b sl P hP b2 bt W h1 h2 h3 h4 h5 hr hr2)
  have HSB := hide (lpr_sum_bd hF hv hP hp ht)
  have HSS := hide (fun k (bt : UInt8) (h : (lettL s.data.toList)[k]? = some bt) => show sumT (lprL F P s.data.toList) (k + 1) = sumT (lprL F P s.data.toList) k + lpr F P bt from sumT_succ (by unfold lprL; rw [List.getElem?_map, h]; rfl))
  have hS0 : sumT (lprL F P s.data.toList) 0 = 0 := rfl
  have c27 := rangeAt_cell hr2 (pw_get (k := 27) (by rw [hP]; omega))
  obtain ⟨q1, q2⟩ := vprc_at hp (k := 27) (by omega)
  have HR := hide hr
  have HR2 := hide hr2
  unfold LtB at HLT
  generalize sumT (lprL F P s.data.toList) = S at *
  generalize lettL s.data.toList = M at *
  generalize P.getD 27 0 = pb at *
  obtain ⟨n, hN⟩ : ∃ n, M.length = n := ⟨_, rfl⟩
  have HN := hide hN
  rw [hN] at HLT HSB hm60 ⊢
  clear hN hv ht hp hr hr2 hs60
  have hw1 := IntWalk.i64_in pb ⟨by omega, by omega⟩
  go_enter Tryd.func38, Tryd.ntmps38
  go_wp2_with (go_at_call 76; refine HLT.out.mono ?_; rintro e w1 ⟨v1, rfl, hown1, hb1⟩; obtain ⟨A1, c1, rfl, _, _⟩ := cellsIn_of_own hown1 (by omega))
  have HOWN := hide hown1
  have hws := hb1.size
  clear c27 hown1
  go_loopw [7, 9] (fun v i wr => ∃ k : Nat, k ≤ n ∧ i = .int .i64 k ∧ v = .int .i64 (pb + S k) ∧ Below w1.heap.size w1 wr) (fun _ i _ => n - (intOf i).toNat)
  case atStart => exact ⟨0, Nat.zero_le _, rfl, by rw [hS0, Int.add_zero], Below.refl _ _⟩
  case round =>
    obtain ⟨k, hk, rfl, rfl, hB⟩ := hrel
    by_cases hlt : k < n
    · obtain ⟨g, cap, e, hgb, hgs⟩ := HOWN.out.form (by omega)
      injection e with e1 e2 e3
      subst e1 e3
      obtain ⟨bt, hbt⟩ : ∃ bt, M[k]? = some bt := ⟨M[k]'(by rw [HN.out]; exact hlt), List.getElem?_eq_getElem _⟩
      have hmem := List.mem_of_getElem? hbt
      obtain ⟨h1, h2, h3, h4⟩ := HLB.out bt hmem
      have cb : wr.cell? ⟨g, k, none⟩ = some (.int .u8 (bt.toNat : Int)) := (hB.cell (p := ⟨g, k, none⟩) hgs).trans ((HOWN.out.cellAt k (by omega)).trans (by unfold Lib.byteCells; rw [List.getElem?_map, hbt]; rfl))
      have HC := hide (HLE.out bt (HCAP.out bt hmem) h1 h2 h3 (HLW.out bt hmem) wr (rangeAt_below (rangeAt_below HR.out hb1 hb) hB (Nat.lt_of_lt_of_le hb hws)) (rangeAt_below (rangeAt_below HR2.out hb1 hb2) hB (Nat.lt_of_lt_of_le hb2 hws)))
      have HS := hide (HSS.out k bt hbt)
      obtain ⟨s1, s2⟩ := HSB.out k hk
      obtain ⟨s3, s4⟩ := HSB.out (k + 1) (by omega)
      rw [HS.out] at s3 s4
      obtain ⟨t1, t2⟩ := h4
      generalize lpr F P bt = y at *
      generalize (bt.toNat : Int) = x at *
      have hw2 := IntWalk.i64_in (pb + S k + y) ⟨by omega, by omega⟩
      have hi : (k : Int) < n := by omega
      have hk0 : (0 : Int) ≤ k := by omega
      clear hbt hmem h1 h2 h3
      generalize S k = sk at *
      go_wp2_with (go_at_call 77; refine HC.out.mono ?_; rintro e w2 ⟨rfl, hb2'⟩)
      exact ⟨⟨k + 1, by omega, by go_num, by rw [HS.out, Int.add_assoc], hB.trans (hb2'.mono hB.size)⟩, by simp [intOf]; omega⟩
    · obtain rfl : k = n := by omega
      go_wp2
      go_ret
      exact ⟨rfl, hb1.trans (hB.mono hws)⟩

set_option maxRecDepth 100000 in
set_option maxHeartbeats 8000000 in
theorem specPriceOf_any (F : Fc) (hF : F.ok) (A : Option Addr) (c : Nat) (P : List Int) (hP : P.length = 29) (hPx : ∀ x ∈ P, i16ok x) (s : ByteArray) (hs : s.size ≤ maxLen) (w : World) (hA : PairsAt w w.heap.size A F.ps) :
    Calls Tryd.prog 11 #[.agg (fc F (.slice A F.ps.length c)).toArray, .agg (pw P).toArray, .string s] w fun e w' => e = .returned (.tuple #[.int .i64 (ppV F P s.data.toList), .int .i64 (ppC F P s.data.toList)]) ∧ Below w.heap.size w w' := by
  obtain ⟨W2, hW2⟩ : ∃ W2, W2 = ((w.alloc (.cells (fc F (.slice A F.ps.length c)).toArray 36)).alloc (.cells (pw P).toArray 38)) := ⟨_, rfl⟩
  have b0 : Below w.heap.size w W2 := by rw [hW2]; exact ((Below.refl _ _).alloc (Nat.le_refl _) _).alloc (by simp) _
  have r0 : W2.rangeAt w.heap.size 0 (fc F (.slice A F.ps.length c)) := by rw [hW2]; exact World.rangeAt_alloc (rangeAt_new w (fc F (.slice A F.ps.length c)) 36) (.cells (pw P).toArray 38)
  have r1 : W2.rangeAt (w.heap.size + 1) 0 (pw P) := by rw [hW2]; exact rangeAt_newg (w := w.alloc (.cells (fc F (.slice A F.ps.length c)).toArray 36)) (cs := (pw P).toArray) (t := 38) (g := w.heap.size + 1) (l := pw P) (by simp) rfl
  have s0 : w.heap.size + 2 = W2.heap.size := by rw [hW2]; simp
  have HT := hide (l06Told_any F hF w.heap.size A c P hP hPx (w.heap.size + 1) s hs true W2 r0 r1 (by omega) ((hA.below b0).mono b0.size))
  have HW2 := hide hW2
  unfold maxLen at hs
  clear hW2 hA hPx
  cases hb : ppB F P s.data.toList
  · obtain ⟨e1, e2, e3⟩ := pp_no hb
    rw [e1, e3]
    rw [hb] at HT
    clear e1 e2 e3 hb r0 r1
    generalize fc F (.slice A F.ps.length c) = fcs at *
    go_enter Tryd.func11, Tryd.ntmps11
    repeat (first | (rw [← HW2.out]) | go_step)
    refine HT.out.mono ?_
    rintro e w1 ⟨rfl, hb1⟩
    go_wp2
    go_ret2
    exact ⟨rfl, b0.trans (hb1.mono b0.size)⟩
  · obtain ⟨e1, e2, e3⟩ := pp_ok hb
    obtain ⟨hv, ht, hp⟩ := pp_parts hb
    rw [e1, e3, lprL_len]
    rw [hb] at HT
    have HPR := hide (fun W (hW : Below W2.heap.size W2 W) => l06Price_any F hF w.heap.size (.slice A F.ps.length c) P hP (w.heap.size + 1) s W hv ht hp (rangeAt_below r0 hW (by omega)) (by have := hW.size; omega) (rangeAt_below r1 hW (by omega)) (by have := hW.size; omega))
    clear e1 e2 e3 hb r0 r1 hv ht hp hP
    generalize fc F (.slice A F.ps.length c) = fcs at *
    generalize P.getD 27 0 + sumT (lprL F P s.data.toList) (lettL s.data.toList).length = V at *
    go_enter Tryd.func11, Tryd.ntmps11
    repeat (first | (rw [← HW2.out]) | go_step)
    refine HT.out.mono ?_
    rintro e w1 ⟨rfl, hb1⟩
    go_wp2_with (go_at_call 38; refine (HPR.out _ hb1).mono ?_; rintro e w2 ⟨rfl, hb2⟩)
    go_ret2
    have hB1 := b0.trans (hb1.mono b0.size)
    exact ⟨rfl, hB1.trans (hb2.mono hB1.size)⟩
end Go.Proofs.YtjgcadohjccfaaaDoor
