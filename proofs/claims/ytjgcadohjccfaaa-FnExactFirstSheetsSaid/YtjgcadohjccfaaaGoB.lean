/- Pieces of the model: PiecesFor. · SheetBound, of both. -/
import Derived.Test.YtjgcadohjccfaaaSumG
import Derived.Test.YtjgcadohjccfaaaGoA
import Derived.Test.YtjgcadohjccfaaaPlacesS
import Derived.Test.YtjgcadohjccfaaaChLM

namespace Go.Proofs.Ytjgcadohjccfaaa
open Go Go.RowKit

set_option maxRecDepth 100000 in
set_option maxHeartbeats 4000000 in
theorem l06Asked_any (F : Fc) (hF : F.ok) (b : Nat) (A : Option Addr) (c : Nat) (b2 : Nat) (wd ov : Int) (hw : i16ok wd) (ho : i8ok ov) (s : ByteArray) (hs : s.size ≤ maxLen) (w : World)
    (hr : w.rangeAt b 0 (fc F (.slice A F.ps.length c))) (hr2 : w.rangeAt b2 0 [.int .i16 wd, .int .i8 ov]) (hb2 : b2 < w.heap.size) (hA : PairsAt w w.heap.size A F.ps) :
    Calls Try.prog 52 #[.pointer (some ⟨b, 0, none⟩), .pointer (some ⟨b2, 0, none⟩), .string s] w fun e w' => e = .returned (.int .i64 (gpC F s.data.toList wd ov)) ∧ Below w.heap.size w w' := by
  have HF := hide (l01Face_any F hF b A c w hr hA)
  have HS := hide (fun W h => l06Sheet_any wd ov hw ho b2 W h)
  have HT := hide (fun W => l01Text_any s W hs)
  have HR := hide (fun w' (hb : Below w.heap.size w w') => rangeAt_below hr2 hb hb2)
  have HG := hide (show gpB F s.data.toList wd ov = (vface F && vtext s.data.toList && vsht wd ov) from rfl)
  unfold maxLen at hs
  obtain ⟨C, hC⟩ : ∃ C, gpC F s.data.toList wd ov = C := ⟨_, rfl⟩
  have HC := hide hC
  rw [hC]
  clear hr hr2 hA hC hw ho
  cases h1 : vface F
  · rw [h1] at HF
    have HE := hide (HC.out.symm.trans (gp_no (by rw [HG.out, h1]; rfl)).1)
    go_enter Try.func52, Try.ntmps52
    go_wp2_with (go_at_call 85; refine HF.out.mono ?_; rintro e w1 ⟨rfl, hb1⟩)
    go_ret
    exact ⟨ret_int HE.out.symm, hb1⟩
  · rw [h1] at HF
    cases h2 : vsht wd ov
    · rw [h2] at HS
      have HE := hide (HC.out.symm.trans (gp_no (by rw [HG.out, h1, h2, Bool.and_false])).1)
      go_enter Try.func52, Try.ntmps52
      go_wp2_with (first | (go_at_call 85; refine HF.out.mono ?_; rintro e w1 ⟨rfl, hb1⟩) | (go_at_call 49; refine (HS.out _ (HR.out _ hb1)).mono ?_; rintro e w2 ⟨rfl, rfl⟩))
      go_ret
      exact ⟨ret_int HE.out.symm, hb1⟩
    · rw [h2] at HS
      cases h3 : vtext s.data.toList
      · rw [h3] at HT
        have HE := hide (HC.out.symm.trans (gp_no (by rw [HG.out, h1, h3]; rfl)).1)
        go_enter Try.func52, Try.ntmps52
        go_wp2_with (first | (go_at_call 85; refine HF.out.mono ?_; rintro e w1 ⟨rfl, hb1⟩) | (go_at_call 49; refine (HS.out _ (HR.out _ hb1)).mono ?_; rintro e w2 ⟨rfl, rfl⟩) | (go_at_call 86; refine (HT.out _).mono ?_; rintro e w3 ⟨rfl, rfl⟩))
        go_ret
        exact ⟨ret_int HE.out.symm, hb1⟩
      · rw [h3] at HT
        have HE := hide (HC.out.symm.trans (gp_ok (by rw [HG.out, h1, h2, h3]; rfl)).1)
        go_enter Try.func52, Try.ntmps52
        go_wp2_with (first | (go_at_call 85; refine HF.out.mono ?_; rintro e w1 ⟨rfl, hb1⟩) | (go_at_call 49; refine (HS.out _ (HR.out _ hb1)).mono ?_; rintro e w2 ⟨rfl, rfl⟩) | (go_at_call 86; refine (HT.out _).mono ?_; rintro e w3 ⟨rfl, rfl⟩))
        go_ret
        exact ⟨ret_int HE.out.symm, hb1⟩

def pieT (R : List Int) (o : Int) (k : Nat) : List Int := (R.take k).map (fun x => x + o)
theorem pieT_succ {R : List Int} {o : Int} {k : Nat} {x : Int} (h : R[k]? = some x) : pieT R o (k + 1) = pieT R o k ++ [x + o] := by
  unfold pieT; rw [List.take_add_one, h]; simp
theorem pieT_all (R : List Int) (o : Int) : pieT R o R.length = R.map (fun x => x + o) := by unfold pieT; rw [List.take_length]

set_option maxRecDepth 100000 in
set_option maxHeartbeats 16000000 in
theorem l06Pieces_any (F : Fc) (hF : F.ok) (b : Nat) (A : Option Addr) (c : Nat) (b2 : Nat) (wd ov : Int) (s : ByteArray) (w : World) (hv : vface F = true) (ht : vtext s.data.toList = true) (ho : 0 ≤ ov ∧ ov ≤ 5)
    (hr : w.rangeAt b 0 (fc F (.slice A F.ps.length c))) (hb : b < w.heap.size) (hr2 : w.rangeAt b2 0 [.int .i16 wd, .int .i8 ov]) (hb2 : b2 < w.heap.size) (hA : PairsAt w w.heap.size A F.ps) :
    Calls Try.prog 53 #[.pointer (some ⟨b, 0, none⟩), .pointer (some ⟨b2, 0, none⟩), .string s] w (IntsB (pieL F s.data.toList ov) w) := by
  obtain ⟨i0, hi0, hz0, hz1, hz2⟩ := info_parts Try.infoI64
  have hwl := words_len ht
  have hs60 : s.size ≤ 1048576 := by have := (vtext_true.1 ht).1; simp at this; omega
  have HW := hide (fun w => l01WordsC_any s w hs60)
  have HBL := hide (show (bas (wordsL s.data.toList)).length = (wordsL s.data.toList).length from List.length_map _)
  have HP := hide (fun A2 c2 W (hB : Below w.heap.size w W) hS => l01Places_any F hF b A c (wordsL s.data.toList) A2 c2 W hv (fun x hx => words_mem ht hx) hwl (rangeAt_below hr hB hb) (Nat.lt_of_lt_of_le hb hB.size) ((hA.below hB).mono hB.size) hS)
  unfold PlBack at HP
  rw [show wdL F (wordsL s.data.toList) = lwL F s.data.toList from wdL_lett F _] at HP
  have HBD := hide (lwL_bd hF hv ht)
  have hn60 := lwL_n (F := F) ht
  have c1 := rangeAt_cell (k := 1) hr2 rfl
  have HAA := hide (pieT_all (lwL F s.data.toList) (2 * ov))
  change Hid (_ = pieL F s.data.toList ov) at HAA
  have HPL := hide (pieL_len F s.data.toList ov)
  obtain ⟨ho1, ho2⟩ := ho
  generalize pieL F s.data.toList ov = PP at *
  generalize lwL F s.data.toList = R at *
  generalize plL F (wordsL s.data.toList) = PLs at *
  obtain ⟨n, hN⟩ : ∃ n, R.length = n := ⟨_, rfl⟩
  have HN := hide hN
  rw [hN] at hn60 HAA HPL HP
  clear hN hA hv ht hs60 hr hr2 hF hwl
  go_enter Try.func53, Try.ntmps53
  go_wp2_with fail
  refine (HW.out w).mono ?_
  rintro e w2 ⟨A2, c2, rfl, hc2, hP2, hb2'⟩
  rw [HBL.out]
  have hS2 := hide hP2.at_
  clear hP2
  go_wp2_with fail
  refine (HP.out A2 c2 _ hb2' hS2.out).mono ?_
  rintro e w3 ⟨A3, c3, A4, c4, rfl, hc3, hI3, hI4, hb3⟩
  have hB3 := hb2'.trans (hb3.mono hb2'.size)
  have HX := hide (hI4.at_)
  have c1w := (hB3.cell (p := ⟨b2, 1, none⟩) hb2).trans c1
  have hsz3 := hB3.size
  clear hb2' hb3 hI3 hI4 HP HW c1 hc3
  go_wp2
  go_loopw [9, 10] (fun br i wr => ∃ k : Nat, k ≤ n ∧ i = .int .i64 k ∧ wr.ownsRow w3.heap.size 2 1 br k ((pieT R (2 * ov) k).map (.int .i64)) ∧ Below w3.heap.size w3 wr)
    (fun _ i _ => n - (intOf i).toNat)
  case atStart => exact ⟨0, Nat.zero_le _, rfl, World.ownsRow_made w3 _ 0 (Nat.le_refl _) (by unfold maxLen; omega) rfl, (Below.refl _ _).alloc (Nat.le_refl _) _⟩
  case round =>
    obtain ⟨k, hk, rfl, hown, hB⟩ := hrel
    obtain ⟨Ab, cbb, rfl, hcap, _⟩ := cellsIn_of_own hown (by omega)
    have hbs := hB.size
    have HOWN := hide hown
    clear hown
    by_cases hlt : k < n
    · obtain ⟨b4, o4, rfl, hb4, hxs⟩ := HX.out (by intro e; rw [e] at HN; have := HN.out; simp at this; omega)
      obtain ⟨x, hx⟩ : ∃ x, R[k]? = some x := ⟨R[k]'(by rw [HN.out]; exact hlt), List.getElem?_eq_getElem _⟩
      obtain ⟨x1, x2⟩ := HBD.out x (List.mem_of_getElem? hx)
      have c0 : wr.cell? ⟨b4, o4 + k, none⟩ = some (.int .i64 x) := (hB.cell (p := ⟨b4, o4 + k, none⟩) hb4).trans (hxs k x hx)
      have c1' : wr.cell? ⟨b2, 1, none⟩ = some (.int .i8 ov) := (hB.cell (p := ⟨b2, 1, none⟩) (by show b2 < w3.heap.size; omega)).trans c1w
      have HTS := hide (pieT_succ (o := 2 * ov) hx)
      have hi : (k : Int) < n := by omega
      have hk0 : (0 : Int) ≤ k := by omega
      have hw1 := IntWalk.i64_in ov ⟨by omega, by omega⟩
      have hw2 := IntWalk.i64_in (2 * ov) ⟨by omega, by omega⟩
      have hw3 := IntWalk.i64_in (x + 2 * ov) ⟨by omega, by omega⟩
      have HNEW := hide (one_cell (w := wr) (t := 2) (.int .i64 (x + 2 * ov)))
      have HONE := hide (one_one (v := .int .i64 (x + 2 * ov)) rfl)
      clear hxs hx
      go_wp2
      go_region_law (refine step_append_lies _ rfl (.tmp 25) (.tmp 37) 35 rfl w3.heap.size 2 i0 (.int .i64 0) 1 8 Try.underlying35 hi0 hz0 hz1 hz2 rfl (by decide) (.slice Ab k cbb) k _ (by simp [Act.eval, Act.put]) (own_go HOWN.out (((Below.refl _ _).alloc (Nat.le_refl _) _).drew)) ⟨wr.heap.size, 0, none⟩ 1 1 [.int .i64 (x + 2 * ov)] (by simp [Act.eval, Act.put]) rfl (fun j u hu => HNEW.out j u hu) HONE.out (by omega) (by unfold maxLen; omega) (by omega) (by simp; omega) _ rfl ?_; intro g cap w1 hown1 hgrow hor hlt1)
      all_goals
        have hg34 : wr.grownBy w1 _ := grown_trans (grown_trans (World.grownBy_alloc wr _ _) (show (wr.alloc (.cells #[.int .i64 (x + 2 * ov)] 2)).grownBy (wr.alloc (.cells #[.int .i64 (x + 2 * ov)] 2)).drew (Value.slice Ab k cbb).ownBlock from ⟨rfl, rfl, rfl, Nat.le_refl _, fun _ _ _ => rfl⟩)) hgrow
        have hB4 := hB.trans (grown_toBelow hg34 (by omega) (fun k hk => (HOWN.out.lt k hk).1))
        have H4 := hide hown1
        clear hown1 hgrow hg34 hor
        go_wp2
        refine ⟨⟨k + 1, by omega, by go_num, ?_, hB4⟩, by simp [intOf]; omega⟩
        rw [HTS.out, List.map_append]
        exact H4.out
    · obtain rfl : k = n := by omega
      rw [HAA.out] at HOWN
      obtain ⟨Ag, cg, e, _, hI⟩ := intsIn_of_own HOWN.out
      injection e with e1 e2 e3
      subst e1 e3
      have HI := hide hI
      clear hI
      go_wp2
      go_ret
      exact ⟨Ab, cbb, by rw [HPL.out]; rfl, by rw [HPL.out]; exact hcap, HI.out.wider hsz3, hB3.trans (hB.mono hsz3)⟩

set_option maxRecDepth 100000 in
set_option maxHeartbeats 4000000 in
theorem specPiecesFor_any (F : Fc) (hF : F.ok) (A : Option Addr) (c : Nat) (wd : Int) (hw : -32768 ≤ wd ∧ wd ≤ 32767) (ov : Int) (ho : i8ok ov) (s : ByteArray) (hs : s.size ≤ maxLen) (w : World) (hA : PairsAt w w.heap.size A F.ps) :
    Calls Try.prog 19 #[.agg (fc F (.slice A F.ps.length c)).toArray, .agg #[.int .i16 wd, .int .i8 ov], .string s] w (IntsBack (gpR F s.data.toList wd ov) (gpC F s.data.toList wd ov) w) := by
  have b0 : Below w.heap.size w ((w.alloc (.cells (fc F (.slice A F.ps.length c)).toArray 40)).alloc (.cells #[.int .i16 wd, .int .i8 ov] 27)) := ((Below.refl _ _).alloc (Nat.le_refl _) _).alloc (by simp) _
  have r0 := World.rangeAt_alloc (rangeAt_new w (fc F (.slice A F.ps.length c)) 40) (.cells #[.int .i16 wd, .int .i8 ov] 27)
  have r1 := rangeAt_newg (w := w.alloc (.cells (fc F (.slice A F.ps.length c)).toArray 40)) (cs := #[.int .i16 wd, .int .i8 ov]) (t := 27) (g := w.heap.size + 1) (by simp) rfl
  have s0 : w.heap.size + 1 < ((w.alloc (.cells (fc F (.slice A F.ps.length c)).toArray 40)).alloc (.cells #[.int .i16 wd, .int .i8 ov] 27)).heap.size := by simp
  have HAS := hide (l06Asked_any F hF _ A c _ wd ov hw ho s hs _ r0 r1 s0 ((hA.below b0).mono b0.size))
  have HA := hA
  unfold maxLen at hs
  cases hb : gpB F s.data.toList wd ov
  · obtain ⟨e1, e2⟩ := gp_no hb
    rw [e1, e2]
    rw [e1] at HAS
    clear hw ho hA HA e1 e2 hb r0 r1
    generalize fc F (.slice A F.ps.length c) = fcs at *
    go_enter Try.func19, Try.ntmps19
    go_wp2_with (go_at_call 52; refine HAS.out.mono ?_; rintro e w1 ⟨rfl, hb1⟩)
    go_ret2
    exact ⟨_, 0, rfl, IntsIn.empty _ _ _, (b0.trans (hb1.mono b0.size)).alloc (Nat.le_trans b0.size hb1.size) _⟩
  · obtain ⟨e1, e2⟩ := gp_ok hb
    obtain ⟨hv, ht, _, ho'⟩ := gp_parts hb
    rw [e1, e2]
    rw [e1] at HAS
    have HPI := hide (fun W hW => l06Pieces_any F hF w.heap.size A c (w.heap.size + 1) wd ov s W hv ht ho' (rangeAt_below r0 hW (by omega)) (Nat.lt_of_lt_of_le (Nat.lt_of_succ_lt s0) hW.size) (rangeAt_below r1 hW s0) (Nat.lt_of_lt_of_le s0 hW.size) (((hA.below b0).mono b0.size).below hW |>.mono hW.size))
    clear hw ho hA HA e1 e2 hb r0 r1 hv ht
    generalize fc F (.slice A F.ps.length c) = fcs at *
    go_enter Try.func19, Try.ntmps19
    go_wp2_with (first | (go_at_call 52; refine HAS.out.mono ?_; rintro e w1 ⟨rfl, hb1⟩) | (go_at_call 53; refine (HPI.out _ hb1).mono ?_; rintro e w2 ⟨A2, c2, rfl, hc2, hI2, hb2⟩))
    go_ret2
    have hB1 := b0.trans (hb1.mono b0.size)
    exact ⟨A2, c2, rfl, hI2.wider hB1.size, hB1.trans (hb2.mono hB1.size)⟩
end Go.Proofs.Ytjgcadohjccfaaa

namespace Go.Proofs.Ytjgcadohjccfaaa
open Go Go.RowKit

theorem quo_bd' {V N : Int} (h0 : 0 ≤ V) (h1 : V ≤ 1000000) (_ : 0 < N) : 0 ≤ V / N ∧ V / N ≤ 1000000 :=
  ⟨Int.ediv_nonneg h0 (by omega), Int.le_trans (Int.ediv_le_self _ h0) h1⟩
/-- A bound of how many sheets are needed. -/
noncomputable def sbV (F : Fc) (L : List UInt8) (wd ov : Int) : Int := if gpB F L wd ov = true then (sumT (pieL F L ov) (pieL F L ov).length + wd - 1) / wd else 0
theorem sb_no {F : Fc} {L : List UInt8} {wd ov : Int} (h : gpB F L wd ov = false) : sbV F L wd ov = 0 := by unfold sbV; rw [h]; rfl
theorem sb_ok {F : Fc} {L : List UInt8} {wd ov : Int} (h : gpB F L wd ov = true) : sbV F L wd ov = (sumT (pieL F L ov) (pieL F L ov).length + wd - 1) / wd := by unfold sbV; rw [if_pos h]
theorem pie_10 {F : Fc} (hF : F.ok) (h : vface F = true) {L : List UInt8} (ht : vtext L = true) {ov : Int} (ho : 0 ≤ ov ∧ ov ≤ 5) : ∀ x ∈ pieL F L ov, 0 ≤ x ∧ x ≤ 10000000 := fun x hx => by
  have := pieL_bd hF h ht ho x hx; omega
theorem sum_pie {F : Fc} (hF : F.ok) (h : vface F = true) {L : List UInt8} (ht : vtext L = true) {ov : Int} (ho : 0 ≤ ov ∧ ov ≤ 5) : 0 ≤ sumT (pieL F L ov) (pieL F L ov).length ∧ sumT (pieL F L ov) (pieL F L ov).length ≤ 3000 := by
  have h1 := sumT_bd (M := 50) (fun x hx => by have := pieL_bd hF h ht ho x hx; omega) (pieL F L ov).length (Nat.le_refl _)
  have h2 := pieL_n (F := F) (ov := ov) ht
  omega

set_option maxRecDepth 100000 in
set_option maxHeartbeats 4000000 in
theorem specSheetBound_any (F : Fc) (hF : F.ok) (A : Option Addr) (c : Nat) (wd : Int) (hw : -32768 ≤ wd ∧ wd ≤ 32767) (ov : Int) (ho : i8ok ov) (s : ByteArray) (hs : s.size ≤ maxLen) (w : World) (hA : PairsAt w w.heap.size A F.ps) :
    Calls Try.prog 27 #[.agg (fc F (.slice A F.ps.length c)).toArray, .agg #[.int .i16 wd, .int .i8 ov], .string s] w fun e w' => e = .returned (.tuple #[.int .i64 (sbV F s.data.toList wd ov), .int .i64 (gpC F s.data.toList wd ov)]) ∧ Below w.heap.size w w' := by
  have b0 : Below w.heap.size w ((w.alloc (.cells (fc F (.slice A F.ps.length c)).toArray 40)).alloc (.cells #[.int .i16 wd, .int .i8 ov] 27)) := ((Below.refl _ _).alloc (Nat.le_refl _) _).alloc (by simp) _
  have r0 := World.rangeAt_alloc (rangeAt_new w (fc F (.slice A F.ps.length c)) 40) (.cells #[.int .i16 wd, .int .i8 ov] 27)
  have r1 := rangeAt_newg (w := w.alloc (.cells (fc F (.slice A F.ps.length c)).toArray 40)) (cs := #[.int .i16 wd, .int .i8 ov]) (t := 27) (g := w.heap.size + 1) (by simp) rfl
  have s0 : w.heap.size + 1 < ((w.alloc (.cells (fc F (.slice A F.ps.length c)).toArray 40)).alloc (.cells #[.int .i16 wd, .int .i8 ov] 27)).heap.size := by simp
  have HAS := hide (l06Asked_any F hF _ A c _ wd ov hw ho s hs _ r0 r1 s0 ((hA.below b0).mono b0.size))
  unfold maxLen at hs
  cases hb : gpB F s.data.toList wd ov
  · obtain ⟨e1, e2⟩ := gp_no hb
    rw [e1, sb_no hb]
    rw [e1] at HAS
    clear hw ho hA e1 e2 hb r0 r1
    generalize fc F (.slice A F.ps.length c) = fcs at *
    go_enter Try.func27, Try.ntmps27
    go_wp2_with (go_at_call 52; refine HAS.out.mono ?_; rintro e w1 ⟨rfl, hb1⟩)
    go_ret2
    exact ⟨rfl, b0.trans (hb1.mono b0.size)⟩
  · obtain ⟨e1, e2⟩ := gp_ok hb
    obtain ⟨hv, ht, ⟨hw1, hw2⟩, ho'⟩ := gp_parts hb
    rw [e1, sb_ok hb]
    rw [e1] at HAS
    have HPI := hide (fun W hW => l06Pieces_any F hF w.heap.size A c (w.heap.size + 1) wd ov s W hv ht ho' (rangeAt_below r0 hW (by omega)) (Nat.lt_of_lt_of_le (Nat.lt_of_succ_lt s0) hW.size) (rangeAt_below r1 hW s0) (Nat.lt_of_lt_of_le s0 hW.size) (((hA.below b0).mono b0.size).below hW |>.mono hW.size))
    have HSU := hide (fun A c W h => l06Sum_any A (pieL F s.data.toList ov) c W (pieL_n ht) (pie_10 hF hv ht ho') h)
    obtain ⟨s1, s2⟩ := sum_pie hF hv ht ho'
    have HC := hide (fun w' (hB : Below ((w.alloc (.cells (fc F (.slice A F.ps.length c)).toArray 40)).alloc (.cells #[.int .i16 wd, .int .i8 ov] 27)).heap.size ((w.alloc (.cells (fc F (.slice A F.ps.length c)).toArray 40)).alloc (.cells #[.int .i16 wd, .int .i8 ov] 27)) w') => (hB.cell (p := ⟨w.heap.size + 1, 0, none⟩) s0).trans (rangeAt_cell (k := 0) r1 rfl))
    generalize sumT (pieL F s.data.toList ov) (pieL F s.data.toList ov).length = S at *
    have hw3 := IntWalk.i64_in wd ⟨by omega, by omega⟩
    have hw4 := IntWalk.i64_in (S + wd) ⟨by omega, by omega⟩
    have hw5 := IntWalk.i64_in (S + wd - 1) ⟨by omega, by omega⟩
    clear hw ho hA e1 e2 hb r0 r1 hv ht
    generalize fc F (.slice A F.ps.length c) = fcs at *
    obtain ⟨d0, d1⟩ := quo_bd' (V := S + wd - 1) (N := wd) (by omega) (by omega) (by omega)
    go_enter Try.func27, Try.ntmps27
    go_wp2_with (go_at_call 52; refine HAS.out.mono ?_; rintro e w1 ⟨rfl, hb1⟩; have c0 := HC.out _ hb1)
    go_wp2_with (first | (go_at_call 53; refine (HPI.out _ hb1).mono ?_; rintro e w2 ⟨A2, c2, rfl, hc2, hI2, hb2⟩) | (go_at_call 60; refine (HSU.out _ _ _ hI2.at_).mono ?_; rintro e w3 ⟨rfl, rfl⟩))
    go_ret2
    have hB1 := b0.trans (hb1.mono b0.size)
    exact ⟨rfl, hB1.trans (hb2.mono hB1.size)⟩

/-! The program -/
set_option maxHeartbeats 1000000 in
theorem sheetWide_any (wd ov : Int) (hw : -32768 ≤ wd ∧ wd ≤ 32767) (w : World) :
    Calls Try.prog 65 #[.agg #[.int .i16 wd, .int .i8 ov]] w fun e w' => e = .returned (.int .i64 wd) ∧ Below w.heap.size w w' := by
  obtain ⟨h1, h2⟩ := hw
  have b0 : Below w.heap.size w (w.alloc (.cells #[.int .i16 wd, .int .i8 ov] 27)) := (Below.refl _ _).alloc (Nat.le_refl _) _
  have HB := hide b0
  clear b0
  go_enter Try.func65, Try.ntmps65
  go_wp2
  go_ret
  exact ⟨rfl, HB.out⟩

set_option maxRecDepth 100000 in
set_option maxHeartbeats 4000000 in
theorem boundFor_any (wd ov : Int) (hw : 1 ≤ wd ∧ wd ≤ 400) (A : Option Addr) (xs : List Int) (c : Nat) (w : World) (hn : xs.length ≤ 60) (hx : ∀ x ∈ xs, 0 ≤ x ∧ x ≤ 10000000) (hs : sumT xs xs.length ≤ 3000) (hA : IntsAt w w.heap.size A xs) :
    Calls Try.prog 61 #[.agg #[.int .i16 wd, .int .i8 ov], .slice A xs.length c] w fun e w' => e = .returned (.int .i64 ((sumT xs xs.length + wd - 1) / wd)) ∧ Below w.heap.size w w' := by
  have b0 : Below w.heap.size w (w.alloc (.cells #[.int .i16 wd, .int .i8 ov] 27)) := (Below.refl _ _).alloc (Nat.le_refl _) _
  have r0 := rangeAt_newg (w := w) (cs := #[.int .i16 wd, .int .i8 ov]) (t := 27) (g := w.heap.size) rfl rfl
  have s0 : w.heap.size < (w.alloc (.cells #[.int .i16 wd, .int .i8 ov] 27)).heap.size := by simp
  have hss := (sumT_bd hx xs.length (Nat.le_refl _)).1
  have HSU := hide (fun W (h : Below (w.alloc (.cells #[.int .i16 wd, .int .i8 ov] 27)).heap.size (w.alloc (.cells #[.int .i16 wd, .int .i8 ov] 27)) W) => sumOfG_any A xs c W hn hx (((hA.below b0).mono b0.size).go h))
  obtain ⟨hw1, hw2⟩ := hw
  have HW := hide (fun W => sheetWide_any wd ov ⟨by omega, by omega⟩ W)
  have HI2 := hide (show (Try.prog.info? 27).map (·.size) = some ([.int .i16 wd, .int .i8 ov] : List Value).length from by kernel_rfl)
  generalize sumT xs xs.length = S at *
  have hw3 := IntWalk.i64_in wd ⟨by omega, by omega⟩
  have hw4 := IntWalk.i64_in (S + wd) ⟨by omega, by omega⟩
  have hw5 := IntWalk.i64_in (S + wd - 1) ⟨by omega, by omega⟩
  obtain ⟨d0, d1⟩ := quo_bd' (V := S + wd - 1) (N := wd) (by omega) (by omega) (by omega)
  have hz : (wd == 0) = false := by simp; omega
  clear hA hx
  generalize xs.length = n at *
  go_enter Try.func61, Try.ntmps61
  go_wp2
  generalize (w.alloc (.cells #[.int .i16 wd, .int .i8 ov] 27)) = W0 at *
  have HROW := hide (over_row r0 s0)
  refine wp_region_over (by kernel_rfl) (by kernel_rfl) ?_
  repeat (first | (refine wpQuiet_load_row rfl 27 (.tmp 2) rfl _ 0 rfl _ _ HROW.out Try.underlying27 rfl HI2.out ?_; simp only [Act.put, List.setIfInBounds_toArray, List.set_cons_zero, List.set_cons_succ]) | go_big_quiet_step (first | (go_at_call 92; exact over_same (HSU.out _ (Over.h _))) | (go_at_call 65; exact over_call (HW.out _))))
  refine wpQuiet_nil ?_
  intro w1 hb1
  go_wp2
  go_ret
  exact ⟨rfl, b0.trans (hb1.mono b0.size)⟩

set_option maxRecDepth 100000 in
set_option maxHeartbeats 8000000 in
theorem implSheetBound_any (F : Fc) (hF : F.ok) (A : Option Addr) (c : Nat) (wd : Int) (hw : -32768 ≤ wd ∧ wd ≤ 32767) (ov : Int) (ho : i8ok ov) (s : ByteArray) (hs : s.size ≤ maxLen) (w : World) (hG : Glob w) (hA : PairsAt w w.heap.size A F.ps) :
    Calls Try.prog 28 #[.agg (fc F (.slice A F.ps.length c)).toArray, .agg #[.int .i16 wd, .int .i8 ov], .string s] w fun e w' => e = .returned (.tuple #[.int .i64 (sbV F s.data.toList wd ov), .int .i64 (gpC F s.data.toList wd ov)]) ∧ Below w.heap.size w w' := by
  have b0 : Below w.heap.size w ((w.alloc (.cells (fc F (.slice A F.ps.length c)).toArray 40)).alloc (.cells #[.int .i16 wd, .int .i8 ov] 27)) := ((Below.refl _ _).alloc (Nat.le_refl _) _).alloc (by simp) _
  have r0 := World.rangeAt_alloc (rangeAt_new w (fc F (.slice A F.ps.length c)) 40) (.cells #[.int .i16 wd, .int .i8 ov] 27)
  have r1 := rangeAt_newg (w := w.alloc (.cells (fc F (.slice A F.ps.length c)).toArray 40)) (cs := #[.int .i16 wd, .int .i8 ov]) (t := 27) (g := w.heap.size + 1) (by simp) rfl
  have s0 : w.heap.size + 1 < ((w.alloc (.cells (fc F (.slice A F.ps.length c)).toArray 40)).alloc (.cells #[.int .i16 wd, .int .i8 ov] 27)).heap.size := by simp
  have HI29 := hide (show (Try.prog.info? 40).map (·.size) = some (fc F (.slice A F.ps.length c)).length from by rw [fc_length hF.len]; kernel_rfl)
  have HI2 := hide (show (Try.prog.info? 27).map (·.size) = some ([.int .i16 wd, .int .i8 ov] : List Value).length from by kernel_rfl)
  have HPF := hide (fun W h1 h2 => implPiecesFor_any F hF A c wd hw ov ho s hs W h1 h2)
  have HA := hide ((hA.below b0).mono b0.size)
  have HG := hide (hG.below b0)
  have HBO := hide (fun (h : gpB F s.data.toList wd ov = true) A' c' W hI => boundFor_any wd ov (gp_parts h).2.2.1 A' (pieL F s.data.toList ov) c' W (pieL_n (gp_parts h).2.1) (pie_10 hF (gp_parts h).1 (gp_parts h).2.1 (gp_parts h).2.2.2) (sum_pie hF (gp_parts h).1 (gp_parts h).2.1 (gp_parts h).2.2.2).2 hI)
  unfold maxLen at hs
  clear hA hG hw ho
  generalize fc F (.slice A F.ps.length c) = fcs at *
  cases hb : gpB F s.data.toList wd ov
  · obtain ⟨e1, e2⟩ := gp_no hb
    rw [e1, sb_no hb]
    rw [e1, e2] at HPF
    clear e1 e2 hb HBO
    go_enter Try.func28, Try.ntmps28
    repeat (first | (refine wpList_load_mid rfl 40 (.tmp 3) rfl _ 0 rfl fcs _ r0 Try.underlying40 rfl HI29.out ?_) | (refine wpList_load_mid rfl 27 (.tmp 4) rfl _ 0 rfl [.int .i16 wd, .int .i8 ov] _ r1 Try.underlying27 rfl HI2.out ?_) | go_step)
    refine (HPF.out _ HG.out HA.out).mono ?_
    rintro e w1 ⟨A1, c1, rfl, hI1, hb1⟩
    go_wp2
    go_ret2
    exact ⟨rfl, b0.trans (hb1.mono b0.size)⟩
  · obtain ⟨e1, e2⟩ := gp_ok hb
    have HBB := hide (HBO.out hb)
    rw [e1, sb_ok hb]
    rw [e1, e2] at HPF
    clear e1 e2 hb HBO
    generalize pieL F s.data.toList ov = P at *
    go_enter Try.func28, Try.ntmps28
    repeat (first | (refine wpList_load_mid rfl 40 (.tmp 3) rfl _ 0 rfl fcs _ r0 Try.underlying40 rfl HI29.out ?_) | (refine wpList_load_mid rfl 27 (.tmp 4) rfl _ 0 rfl [.int .i16 wd, .int .i8 ov] _ r1 Try.underlying27 rfl HI2.out ?_) | go_step)
    refine (HPF.out _ HG.out HA.out).mono ?_
    rintro e w1 ⟨A1, c1, rfl, hI1, hb1⟩
    have r1' := rangeAt_below r1 hb1 s0
    have hAt := hI1.at_
    go_wp2_with (first | (refine wpList_load_mid rfl 27 (.tmp 4) rfl _ 0 rfl [.int .i16 wd, .int .i8 ov] _ r1' Try.underlying27 rfl HI2.out ?_) | (go_at_call 61; refine (HBB.out _ _ _ hAt).mono ?_; rintro e w2 ⟨rfl, hb2⟩))
    go_ret2
    have hB1 := b0.trans (hb1.mono b0.size)
    exact ⟨rfl, hB1.trans (hb2.mono hB1.size)⟩
end Go.Proofs.Ytjgcadohjccfaaa
