/- PricesText of the program. -/
import Derived.Test.YtjmkbdghenjlaaaDoorPtD
import Derived.Test.YtjmkbdghenjlaaaDoorShelf
import Derived.Shelf.Strings.OnBuilder
import Derived.Shelf.Strconv.Itoa3
import Derived.Lib.LaidTab
namespace Go.Proofs.YtjmkbdghenjlaaaDoor
open Go Go.RowKit Go.Shelf

/-- The library's table of powers of ten is as it is laid. -/
def PowT (w : World) : Prop := Lib.TabIs Tryd.prog w "internal/strconv.uint64pow10" .u64 Lib.pow10Tab
theorem pow_named : Tryd.prog.globalNamed "internal/strconv.uint64pow10" = some 1 := by kernel_rfl
theorem PowT.below {w w' : World} (h : PowT w) (hb : Below w.heap.size w w') : PowT w' := by
  unfold PowT Lib.TabIs World.var? at h ⊢
  rw [pow_named] at h ⊢
  simp only [Option.bind_some] at h ⊢
  have hlt : 1 < w.heap.size := by
    rcases Nat.lt_or_ge 1 w.heap.size with h' | h'
    · exact h'
    · rw [Array.getElem?_eq_none h'] at h; cases h
  rw [hb.block _ hlt]
  exact h
theorem below_grow (w : World) (os : Array Obj) : Below w.heap.size w (Go.Sort.grow w os) := ⟨rfl, rfl, rfl, by simp [Go.Sort.grow], fun i hi => by simp only [Go.Sort.grow]; exact Array.getElem?_append_left hi⟩
theorem itoa_any (n : Nat) (h : n ≤ 1000) (w : World) (hT : PowT w) :
    Calls Tryd.prog 64 #[.int .i64 n] w fun e w' => e = .returned (.string ⟨(Lib.decDigits n).toArray⟩) ∧ Below w.heap.size w w' := by
  refine (Tryd.strconv_Itoa n (by omega) (by omega) w hT).mono ?_
  rintro e w' ⟨rfl, k, os, rfl⟩
  refine ⟨?_, (below_drewN (Below.refl _ _) k).trans ((below_grow (w.drewN k) os).mono (below_drewN (Below.refl w.heap.size w) k).size)⟩
  have : Lib.itoa (n : Int) = Lib.decDigits n := by unfold Lib.itoa; rw [if_neg (by omega)]; simp
  rw [this]
def nP (P : List Int) (k : Nat) : List Value := ((P.take k).map dgt).map encStr

set_option maxRecDepth 100000 in
set_option maxHeartbeats 16000000 in
theorem implPricesText_any (P : List Int) (hP : P.length = 29) (hPx : ∀ x ∈ P, i16ok x) (w : World) (hT : PowT w) :
    Calls Tryd.prog 32 #[.agg (pw P).toArray] w fun e w' => e = .returned (.string (ptx P)) ∧ Below w.heap.size w w' := by
  obtain ⟨i0, hi0, hz0, hz1, hz2⟩ := info_parts Tryd.infoString
  obtain ⟨W0, hW0⟩ : ∃ W0, W0 = w.alloc (.cells (pw P).toArray 57) := ⟨_, rfl⟩
  have HI := hide (show (Tryd.prog.info? 57).map (·.size) = some (pw P).length by rw [pw_length, hP]; kernel_rfl)
  have r0 : W0.rangeAt w.heap.size 0 (pw P) := by rw [hW0]; exact rangeAt_new w (pw P) 57
  have b0 : Below w.heap.size w W0 := by rw [hW0]; exact (Below.refl _ _).alloc (Nat.le_refl _) _
  have s0 : w.heap.size < W0.heap.size := by rw [hW0]; simp
  have HW0 := hide hW0
  have HTB := hide (hT.below b0)
  have HC := hide (fun W => implValidPrices_any P hP hPx W)
  have HX := hide (show ptx P = if vprc P = true then ⟨(tT P 29).toArray⟩ else ⟨#[]⟩ from rfl)
  have HO := hide (fun W => others_any P hP W)
  clear hW0 hT
  cases h1 : vprc P
  · rw [h1] at HC HX
    clear hP hPx
    go_enter Tryd.func32, Tryd.ntmps32
    repeat (first | (rw [← HW0.out]) | (refine wpList_load_mid rfl 57 (.tmp 1) rfl _ 0 rfl (pw P) _ r0 Tryd.underlying57 rfl HI.out ?_) | go_step)
    refine (HC.out _).mono ?_
    rintro e w1 ⟨rfl, hb1⟩
    go_wp2
    go_ret
    exact ⟨ret_st (by rw [HX.out]; rfl), b0.trans (hb1.mono b0.size)⟩
  · rw [h1] at HC HX
    have HV := hide (fun k (hk : k < 29) => vprc_at h1 (k := k) (by rw [hP]; exact hk))
    have HJ := hide (tT_join P 29 (by omega))
    have HTL := hide (tT_len (S := P) (fun k => by
      by_cases hk : k < 29
      · exact (vprc_at h1 (k := k) (by rw [hP]; exact hk)).2
      · rw [List.getD_eq_getElem?_getD, List.getElem?_eq_none (by omega)]; simp))
    have HS := hide hP
    have HG := hide (fun (k : Nat) (h : k < 29) => show P[k]? = some (P.getD k 0) from by rw [List.getD_eq_getElem?_getD, List.getElem?_eq_getElem (by omega)]; rfl)
    have HTK0 := hide (fun (k : Nat) (h : k < 29) => show nP P (k + 1) = nP P k ++ [encStr (dgt (P.getD k 0))] from by
      have hx := List.getElem?_eq_getElem (show k < P.length by omega)
      have hg : P.getD k 0 = P[k]'(by omega) := by simp [List.getD, hx]
      unfold nP
      rw [List.take_add_one, hx, Option.toList_some, List.map_append, List.map_append, List.map_cons, List.map_nil, List.map_cons, List.map_nil, ← hg])
    have HCON := hide (fun (bs b2 c : Nat) (W : World) (hbs : bs < W.heap.size) (hw0 : w.heap.size < W.heap.size) (hb2 : b2 < W.heap.size) (e1 : W.cell? ⟨bs, 0, none⟩ = some (.slice (some ⟨w.heap.size, 0, none⟩) 26 26)) (e2 : W.cell? ⟨bs, 1, none⟩ = some (.slice (some ⟨b2, 0, none⟩) 3 3))
        (h1 : W.rangeAt w.heap.size 0 (pw P)) (h2 : ∀ (k : Nat) (x : Int), [P.getD 26 0, P.getD 27 0, P.getD 28 0][k]? = some x → W.cell? ⟨b2, k, none⟩ = some (.int .i16 x)) =>
      show Calls Tryd.prog 62 #[.slice (some ⟨bs, 0, none⟩) 2 c] W (fun e w' => ∃ A' c', e = .returned (.slice A' 29 c') ∧ 29 ≤ c' ∧ CellsIn w' W.heap.size A' (pw P) ∧ Below W.heap.size W w') from by
        have l26 : (P.take 26).length = 26 := by simp [hP]
        have hcat : catH [(some ⟨w.heap.size, 0, none⟩, 26, P.take 26), (some ⟨b2, 0, none⟩, 3, [P.getD 26 0, P.getD 27 0, P.getD 28 0])] = P := by
          conv => rhs; rw [p29 hP]
          simp [catH]
        have := concatH_any bs 0 c [(some ⟨w.heap.size, 0, none⟩, 26, P.take 26), (some ⟨b2, 0, none⟩, 3, [P.getD 26 0, P.getD 27 0, P.getD 28 0])] W (by simp) (by rw [hcat, hP]; omega) hbs
          (fun j y hj => by
            match j, hj with
            | 0, hj => simp at hj; subst hj; simp only [Nat.add_zero, l26]; exact e1
            | 1, hj => simp at hj; subst hj; exact e2
            | j + 2, hj => simp at hj)
          (fun y hy => by
            simp only [List.mem_cons, List.not_mem_nil, or_false] at hy
            rcases hy with rfl | rfl
            · refine ⟨fun _ => ⟨w.heap.size, 0, rfl, hw0, fun k x hx => ?_⟩, fun h => by cases h⟩
              have hk : k < 26 := by have := (List.getElem?_eq_some_iff.1 hx).1; rw [l26] at this; exact this
              rw [List.getElem?_take, if_pos hk] at hx
              exact h1 k _ (by unfold pw; rw [List.getElem?_map, hx]; rfl)
            · exact ⟨fun _ => ⟨b2, 0, rfl, hb2, fun k x hx => by rw [Nat.zero_add]; exact h2 k x hx⟩, fun h => by cases h⟩)
        rw [hcat, hP] at this
        exact this)
    clear hP hPx h1
    go_enter Tryd.func32, Tryd.ntmps32
    repeat (first | (rw [← HW0.out]) | (refine wpList_load_mid rfl 57 (.tmp 1) rfl _ 0 rfl (pw P) _ r0 Tryd.underlying57 rfl HI.out ?_) | go_step)
    refine (HC.out _).mono ?_
    rintro e w1 ⟨rfl, hb1⟩
    have r1 := rangeAt_below r0 hb1 s0
    have s1 : w.heap.size < w1.heap.size := Nat.lt_of_lt_of_le s0 hb1.size
    have hB1 := b0.trans (hb1.mono b0.size)
    have HT1 := hide (HTB.out.below hb1)
    have HR1 := hide (fun w' (hb : Below w1.heap.size w1 w') => rangeAt_below r1 hb s1)
    clear r0 b0 s0 hb1 HTB r1
    go_wp2
    refine wp_region_script [(0, true), (1, true), (2, true), (7, true), (3, false), (4, false), (5, false), (6, false)]
      (fun w' => Below w1.heap.size w1 w') (by kernel_rfl) (by kernel_rfl) (of_decide_eq_true (by kernel_rfl)) (by kernel_rfl) (fun _ _ d _ _ h => by cases d <;> exact h) ((Below.refl _ _).drew) ?_
    refine sc_take (.pointer (some ⟨w.heap.size, 0, none⟩)) rfl (.inl ⟨rfl, fun w _ => by kernel_rfl⟩) ?_
    refine sc_take (.slice (some ⟨w.heap.size, 0, none⟩) 26 26) rfl (.inl ⟨rfl, fun w' _ => ?_⟩) ?_
    · first | (simp only [Act.put, List.setIfInBounds_toArray, List.set_cons_zero, List.set_cons_succ, execOp, Act.eval]; go_simp; done) | kernel_rfl
    refine sc_take (.agg (pw P).toArray) rfl (yieldsIf_load_mid (by rfl) _ (.tmp 1) rfl _ 0 rfl _ _ (fun w h => HR1.out w h) Tryd.underlying57 rfl HI.out) ?_
    refine sc_take (.int .i64 0) rfl (.inl ⟨rfl, fun w _ => by kernel_rfl⟩) ?_
    simp only [Act.put, List.setIfInBounds_toArray, List.set_cons_zero, List.set_cons_succ]
    refine sc_step rfl ?_
    go_wp2_with fail
    refine (HO.out _).mono ?_
    rintro e w2 ⟨b2, rfl, hlb, hltb, hcell, hb2⟩
    replace hb2 := (Below.refl _ _).drew.trans hb2
    change Below w1.heap.size w1 w2 at hb2
    go_wp2_with fail
    have HCL2 := hide hcell
    clear hcell
    refine ⟨hb2, sc_step rfl ?_⟩
    go_wp2_with fail
    have rA := rangeAt_newg (w := w2) (cs := #[.slice (some ⟨w.heap.size, 0, none⟩) 26 26, .slice (some ⟨b2, 0, none⟩) 3 3]) (t := 108) (g := w2.heap.size) (l := [.slice (some ⟨w.heap.size, 0, none⟩) 26 26, .slice (some ⟨b2, 0, none⟩) 3 3]) rfl rfl
    have bA : Below w2.heap.size w2 (w2.alloc (.cells #[.slice (some ⟨w.heap.size, 0, none⟩) 26 26, .slice (some ⟨b2, 0, none⟩) 3 3] 108)) := (Below.refl _ _).alloc (Nat.le_refl _) _
    have sA : (w2.alloc (.cells #[.slice (some ⟨w.heap.size, 0, none⟩) 26 26, .slice (some ⟨b2, 0, none⟩) 3 3] 108)).heap.size = w2.heap.size + 1 := by simp
    have hbA := hb2.trans (bA.mono hb2.size)
    have hzw2 := hb2.size
    have HCC := hide (HCON.out w2.heap.size b2 2 _ (by omega) (by omega) (by omega) (rA 0 _ rfl) (rA 1 _ rfl) (HR1.out _ hbA) (fun k x hx => (bA.cell (p := ⟨b2, k, none⟩) hltb).trans (HCL2.out k x hx)))
    refine ⟨hbA, sc_step rfl ?_⟩
    generalize (w2.alloc (.cells #[.slice (some ⟨w.heap.size, 0, none⟩) 26 26, .slice (some ⟨b2, 0, none⟩) 3 3] 108)) = W3 at *
    go_wp2_with fail
    refine HCC.out.mono ?_
    rintro e w4 ⟨A4, c4, rfl, hc4, hI4, hb4⟩
    have hB4 := hbA.trans (hb4.mono hbA.size)
    go_wp2_with fail
    refine ⟨hB4, sc_step rfl ?_⟩
    go_wp2_with fail
    refine ⟨hB4, sc_nil ?_⟩
    obtain ⟨b5, o5, rfl, _, hl5, hr5, _⟩ := hI4 (by intro e; have := congrArg List.length e; rw [pw_length, HS.out] at this; simp at this)
    have HT4 := hide (HT1.out.below hB4)
    have HC5 := hide (fun (k : Nat) (h : k < 29) W (hW : Below w4.heap.size w4 W) => show W.cell? ⟨b5, o5 + k, none⟩ = some (.int .i16 (P.getD k 0)) from
      (hW.cell (p := ⟨b5, o5 + k, none⟩) hl5).trans (hr5 k _ (pw_get (k := k) (by rw [HS.out]; exact h))))
    have hfin := hB1.trans (hB4.mono hB1.size)
    have hzf := hfin.size
    clear hr5 hI4 rA bA hb2 hbA hb4 hltb hlb hB4 HCC HCON HCL2 HR1
    go_wp2
    go_loopw [3, 16] (fun br i wr => ∃ k : Nat, k ≤ 29 ∧ i = .int .i64 k ∧ wr.ownsRow w4.heap.size 9 1 br k (nP P k) ∧ Below w4.heap.size w4 wr)
      (fun _ i _ => 29 - (intOf i).toNat)
    case atStart => exact ⟨0, by omega, rfl, World.ownsRow_nil _ _ _ _, Below.refl _ _⟩
    case round =>
      obtain ⟨k, hk, rfl, hown, hB⟩ := hrel
      have hbs := hB.size
      by_cases hlt : k < 29
      · obtain ⟨Ab, cbb, rfl, hcap, _⟩ := cellsIn_of_own hown (by omega)
        have HOWN := hide hown
        have c0 := HC5.out k hlt wr hB
        obtain ⟨x1, x2⟩ := HV.out k hlt
        obtain ⟨n, hn⟩ : ∃ n : Nat, P.getD k 0 = n := ⟨(P.getD k 0).toNat, by omega⟩
        have HIT := hide (itoa_any n (by omega) wr (HT4.out.below hB))
        have HTK := hide (HTK0.out k hlt)
        rw [hn] at c0 x1 x2
        have HDG : Hid (dgt (P.getD k 0) = Lib.decDigits n) := hide (by rw [hn]; rfl)
        rw [HDG.out] at HTK
        have hi : (k : Int) < 29 := by omega
        have hk0 : (0 : Int) ≤ k := by omega
        clear hown hn
        generalize Lib.decDigits n = y at HIT HTK HDG
        go_wp2_with fail
        refine HIT.out.mono ?_
        rintro e w5 ⟨rfl, hb5⟩
        have hown5 := own_go HOWN.out hb5
        have hB5 := hB.trans (hb5.mono hbs)
        have hs5 := hB5.size
        clear hb5 c0
        go_wp2_with (at_builtin; refine wpList_append_own _ rfl (.tmp 20) (.tmp 24) 107 rfl w4.heap.size 9 i0 _ 1 16 Tryd.underlying107 hi0 hz0 hz1 hz2 rfl (by decide) _ k _ rfl (hown5.alloc _) ⟨w5.heap.size, 0, none⟩ 1 1 [encStr y] rfl rfl (one_cell _) (one_one rfl) ?h1 ?h2 ?h3 ?_)
        case h1 => unfold maxLen; omega
        case h2 => omega
        case h3 => first | omega | (simp; omega) | simp
        intro v' w6 hown6 hg6 _
        have H6 := hide hown6
        have hg56 : w5.grownBy w6 _ := grown_trans (World.grownBy_alloc w5 _ _) hg6
        have hB6 := hB5.trans (grown_toBelow hg56 (by omega) (fun k hk => (hown5.lt k hk).1))
        clear hown6 hg6 hg56 hown5
        go_wp2
        refine ⟨⟨k + 1, by omega, by go_num, ?_, hB6⟩, by simp [intOf]; omega⟩
        rw [HTK.out]
        exact H6.out
      · obtain rfl : k = 29 := by omega
        have hl29 : ((P.take 29).map dgt).length = 29 := by rw [List.length_map, List.length_take, HS.out]; rfl
        obtain ⟨A5, c5, rfl, hc5, hst⟩ := strsIn_of_own (ss := (P.take 29).map dgt) hown hl29.symm
        have hll : (((P.take 29).map dgt).map fun x => (⟨x.toArray⟩ : ByteArray)).length = 29 := by rw [List.length_map]; exact hl29
        obtain ⟨b6, o6, rfl, _, hb6, hc, _⟩ := hst (by intro e; rw [e] at hll; simp at hll)
        have hmm : (((P.take 29).map dgt).map fun x => (⟨x.toArray⟩ : ByteArray)).map (·.data.toList) = (P.take 29).map dgt := by rw [List.map_map]; simp [Function.comp_def]
        have hjl : (Lib.join ((((P.take 29).map dgt).map fun x => (⟨x.toArray⟩ : ByteArray)).map (·.data.toList)) (⟨#[32]⟩ : ByteArray).data.toList).length ≤ 140737488355328 := by
          rw [hmm]; have := HTL.out 29; rw [HJ.out] at this; show (Lib.join _ [32]).length ≤ _; omega
        have hJO := Tryd.strings_Join b6 o6 c5 (((P.take 29).map dgt).map fun x => (⟨x.toArray⟩ : ByteArray)) ⟨#[32]⟩ wr hc hb6 (by rw [hll]; omega) (by rw [hll]; exact hc5) hjl
        rw [hll, hmm] at hJO
        change Calls _ _ _ _ fun e w' => e = .returned (.string ⟨(Lib.join ((P.take 29).map dgt) [32]).toArray⟩) ∧ _ at hJO
        rw [← HJ.out] at hJO
        have HJO := hide hJO
        clear hJO hjl hmm hc hst hll hl29 hown
        generalize (⟨(tT P 29).toArray⟩ : ByteArray) = T at HX HJO
        go_wp2_with (go_at_call 65; refine HJO.out.mono ?_; rintro e w7 ⟨rfl, hb7⟩)
        go_ret
        exact ⟨ret_st (by rw [HX.out]; rfl), hfin.trans ((hB.trans (hb7.mono hB.size)).mono hfin.size)⟩
end Go.Proofs.YtjmkbdghenjlaaaDoor
