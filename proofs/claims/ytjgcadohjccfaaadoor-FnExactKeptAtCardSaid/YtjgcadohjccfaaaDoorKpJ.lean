/- Letters at their places of the program: placedIn, keptAt, KeptAt. -/
import Derived.Test.YtjgcadohjccfaaaDoorKpI
import Derived.Test.YtjgcadohjccfaaaDoorLaP
import Derived.Test.YtjgcadohjccfaaaDoorPrC
namespace Go.Proofs.YtjgcadohjccfaaaDoor
open Go Go.RowKit

set_option maxRecDepth 100000 in
set_option maxHeartbeats 4000000 in
theorem indicesPl_any (A : Option Addr) (n c : Nat) (w : World) (hn : n ≤ 1048576) :
    Calls Tryd.prog 97 #[.slice A n c] w (IntsB (idxL n) w) := by
  obtain ⟨i0, hi0, hz0, hz1, hz2⟩ := info_parts Tryd.infoI64
  have hmk := fun W => run_make_rowN (P := Tryd.prog) 51 2 i0 _ Tryd.underlying51 hi0 hz0 .i64 .i64 n n (Nat.le_refl _) (by rw [hz2]; omega) (by omega) W
  go_enter Tryd.func97, Tryd.ntmps97
  go_wp2
  go_loopw [10] (fun i wr => ∃ k : Nat, k ≤ n ∧ i = .int .i64 k ∧ Below w.heap.size w wr ∧ w.heap.size < wr.heap.size ∧ wr.there w.heap.size 0 n ∧ (∀ j, j < k → wr.cell? ⟨w.heap.size, j, none⟩ = some (.int .i64 (j : Int))))
    (fun i _ => n - (intOf i).toNat)
  case atStart =>
    exact ⟨0, by omega, rfl, (Below.refl _ _).alloc (Nat.le_refl _) _, by simp, there_newg rfl (by simp [madeCells, hz1]), fun j hj => by omega⟩
  case round =>
    obtain ⟨k, hk, rfl, hB, hsz, ht, hr⟩ := hrel
    by_cases hlt : k < n
    · obtain ⟨v0, hv0, hf0⟩ := there_some ht (j := k) hlt
      simp only [Nat.zero_add] at hv0 hf0
      have hi : (k : Int) < n := by omega
      have h0 : (0 : Int) ≤ k := by omega
      have HR := hide hr
      clear hr hmk
      go_wp2
      refine ⟨⟨k + 1, by omega, by go_num, hB.setCell (p := ⟨w.heap.size, k, none⟩) (Nat.le_refl _) _, by rw [size_setCell]; exact hsz, there_set ht _ _, fun j hj => ?_⟩, by simp [intOf]; omega⟩
      by_cases e : j = k
      · subst e; exact World.cell?_setCell_same' _ _ _ (by rw [hv0]; rfl)
      · rw [World.cell?_setCell_other _ _ _ _ (by intro he; injection he with _ he; exact e he.symm)]
        exact HR.out j (by omega)
    · obtain rfl : k = n := by omega
      have hI : IntsIn wr w.heap.size (some ⟨w.heap.size, 0, none⟩) (idxL k) := fun _ => ⟨w.heap.size, 0, rfl, Nat.le_refl _, hsz, fun j x hx => by
        have hj := (List.getElem?_eq_some_iff.1 hx).1
        rw [idxL_len] at hj
        rw [idxL_get hj] at hx
        injection hx with hx
        rw [Nat.zero_add, ← hx]
        exact hr j hj, by rw [idxL_len]; exact ht⟩
      have HI := hide hI
      have HIL := hide (idxL_len k)
      clear hr ht hI
      go_wp2
      go_ret
      exact ⟨_, k, by rw [HIL.out]; rfl, by rw [HIL.out]; omega, HI.out, hB⟩
set_option maxRecDepth 100000 in
set_option maxHeartbeats 4000000 in
theorem those3_any (f : FuncId) (he : Enters Tryd.prog f) (Q Q2 Q3 : Nat) (p : Int → Bool) (A : Option Addr) (xs : List Int) (c : Nat) (w : World) (hn : xs.length ≤ 1048576) (hA : IntsAt w w.heap.size A xs)
    (hf : ∀ x ∈ xs, ∀ W, Below w.heap.size w W → Calls Tryd.prog f #[.int .i64 x, .pointer (some ⟨Q, 0, none⟩), .pointer (some ⟨Q2, 0, none⟩), .pointer (some ⟨Q3, 0, none⟩)] W fun e w' => e = .returned (.bool (p x)) ∧ Below W.heap.size W w') :
    Calls Tryd.prog 96 #[.slice A xs.length c, .func (.func f) #[] #[.pointer (some ⟨Q, 0, none⟩), .pointer (some ⟨Q2, 0, none⟩), .pointer (some ⟨Q3, 0, none⟩)]] w (IntsB (xs.filter p) w) := by
  obtain ⟨i0, hi0, hz0, hz1, hz2⟩ := info_parts Tryd.infoI64
  have HF := hide hf
  have HX := hide hA
  have HLN : Hid (∀ k, ((xs.take k).filter p).length ≤ k) := hide (fun k => Nat.le_trans (List.length_filter_le _ _) (by simp; omega))
  obtain ⟨n, hL⟩ : ∃ n, xs.length = n := ⟨_, rfl⟩
  have HL := hide hL
  rw [hL] at hn ⊢
  clear hL hf hA
  unfold Enters at he
  go_enter Tryd.func96, Tryd.ntmps96
  go_wp2
  go_loopw [5, 10] (fun br i wr => ∃ k : Nat, k ≤ n ∧ i = .int .i64 k ∧ wr.ownsRow w.heap.size 2 1 br ((xs.take k).filter p).length (((xs.take k).filter p).map (.int .i64)) ∧ Below w.heap.size w wr)
    (fun _ i _ => n - (intOf i).toNat)
  case atStart => exact ⟨0, by omega, rfl, by simp only [List.take_zero, List.filter_nil, List.map_nil, List.length_nil]; exact World.ownsRow_nil _ _ _ _, Below.refl _ _⟩
  case round =>
    obtain ⟨k, hk, rfl, hown, hB⟩ := hrel
    obtain ⟨Ab, cbb, rfl, hcap, _⟩ := cellsIn_of_own hown (by omega)
    have hbs := hB.size
    have HOWN := hide hown
    clear hown
    by_cases hlt : k < n
    · obtain ⟨b, o, rfl, hb, hxs⟩ := HX.out (by intro e; rw [e] at HL; have := HL.out; simp at this; omega)
      obtain ⟨x, hx⟩ : ∃ x, xs[k]? = some x := ⟨xs[k]'(by rw [HL.out]; exact hlt), List.getElem?_eq_getElem _⟩
      have c0 : wr.cell? ⟨b, o + k, none⟩ = some (.int .i64 x) := (hB.cell (p := ⟨b, o + k, none⟩) hb).trans (hxs k x hx)
      have hi : (k : Int) < n := by omega
      have h0 : (0 : Int) ≤ k := by omega
      have hln := HLN.out k
      have HC := hide (HF.out x (List.mem_of_getElem? hx) wr hB)
      have HTK : Hid (xs.take (k + 1) = xs.take k ++ [x]) := hide (by rw [List.take_add_one, hx]; rfl)
      clear hxs hx
      cases hp : p x
      · have HE : Hid ((xs.take (k + 1)).filter p = (xs.take k).filter p) := hide (by rw [HTK.out, List.filter_append]; simp [hp])
        rw [hp] at HC
        go_wp2_with (go_at_fn f; refine HC.out.mono ?_; rintro e w1 ⟨rfl, hb1⟩)
        refine ⟨⟨k + 1, by omega, by go_num, ?_, hB.trans (hb1.mono hbs)⟩, by simp [intOf]; omega⟩
        rw [HE.out]
        exact own_go HOWN.out hb1
      · have HE : Hid ((xs.take (k + 1)).filter p = (xs.take k).filter p ++ [x]) := hide (by rw [HTK.out, List.filter_append]; simp [hp])
        rw [hp] at HC
        go_wp2_with fail
        go_at_fn f
        refine HC.out.mono ?_
        rintro e w1 ⟨rfl, hb1⟩
        have hown3 := own_go HOWN.out hb1
        have hB3 := hB.trans (hb1.mono hbs)
        have hs3 := hB3.size
        clear hb1 HC
        go_wp2_with (at_builtin; refine wpList_append_own _ rfl (.tmp 17) (.tmp 19) 51 rfl w.heap.size 2 i0 (.int .i64 0) 1 8 Tryd.underlying51 hi0 hz0 hz1 hz2 rfl (by decide) _ ((xs.take k).filter p).length _ rfl (hown3.alloc _) ⟨w1.heap.size, 0, none⟩ 1 1 [.int .i64 x] rfl rfl (one_cell _) (one_one rfl) ?h1 ?h2 ?h3 ?_)
        case h1 => unfold maxLen; omega
        case h2 => omega
        case h3 => simp; omega
        intro v' w4 hown4 hg4 _
        obtain ⟨A4, c4, rfl, _, _⟩ := cellsIn_of_own hown4 (by omega)
        have H4 := hide hown4
        have hg34 : w1.grownBy w4 _ := grown_trans (World.grownBy_alloc w1 _ _) hg4
        have hB4 := hB3.trans (grown_toBelow hg34 (by omega) (fun k hk => (hown3.lt k hk).1))
        clear hown4 hg4 hg34 hown3
        go_wp2
        refine ⟨⟨k + 1, by omega, by go_num, ?_, hB4⟩, by simp [intOf]; omega⟩
        rw [HE.out, List.map_append, List.length_append]
        exact H4.out
    · obtain rfl : k = n := by omega
      obtain ⟨Ag, cg, e, _, hI⟩ := intsIn_of_own HOWN.out
      injection e with e1 e2 e3
      subst e1 e3
      have HI := hide hI
      have HTA : Hid (xs.take k = xs) := hide (by rw [← HL.out]; exact List.take_length)
      clear hI
      rw [HTA.out] at HI hcap ⊢
      go_wp2
      go_ret
      exact ⟨Ab, cbb, rfl, hcap, HI.out, hB⟩



/-- The letters of a line at their places. -/
def psL (F : Fc) (L : List UInt8) : List Pr := psT (lettL L) (plL F (wordsL L)) (lettL L).length

set_option maxRecDepth 100000 in
set_option maxHeartbeats 8000000 in
theorem placedIn_any (F : Fc) (hF : F.ok) (A : Option Addr) (c : Nat) (s : ByteArray) (w : World) (hv : vface F = true) (ht : vtext s.data.toList = true) (hG : Glob w) (hA : PairsAt w w.heap.size A F.ps) :
    Calls Tryd.prog 63 #[.agg (fc F (.slice A F.ps.length c)).toArray, .string s] w (PlB (psL F s.data.toList) w) := by
  obtain ⟨i0, hi0, hz0, hz1, hz2⟩ := info_parts Tryd.infoPlaced
  have b0 : Below w.heap.size w (w.alloc (.cells (fc F (.slice A F.ps.length c)).toArray 36)) := (Below.refl _ _).alloc (Nat.le_refl _) _
  have r0 := rangeAt_new w (fc F (.slice A F.ps.length c)) 36
  have s0 : w.heap.size < (w.alloc (.cells (fc F (.slice A F.ps.length c)).toArray 36)).heap.size := by simp
  have HI29 := hide (show (Tryd.prog.info? 36).map (·.size) = some (fc F (.slice A F.ps.length c)).length from by rw [fc_length hF.len]; kernel_rfl)
  have hs60 : s.size ≤ 60 := by have := (vtext_true.1 ht).1; simpa using this
  have HLT := hide (lettersOf_any s _ (by omega) (hG.below b0))
  have hA1 := (hA.below b0).mono b0.size
  have HPL := hide (fun W (h : Below (w.alloc (.cells (fc F (.slice A F.ps.length c)).toArray 36)).heap.size (w.alloc (.cells (fc F (.slice A F.ps.length c)).toArray 36)) W) => placesOf_any F hF A c s W hv ht (hA1.go h (Nat.le_refl _)))
  have hPn := plL_lett F s.data.toList
  have hm60 : (lettL s.data.toList).length ≤ 60 := by have := lettL_len s.data.toList; have e : s.data.toList.length = s.size := by simp
                                                      omega
  unfold psL
  generalize hX : lettL s.data.toList = X at *
  generalize plL F (wordsL s.data.toList) = a at *
  obtain ⟨n, hN⟩ : ∃ n, X.length = n := ⟨_, rfl⟩
  obtain ⟨T, hT⟩ : ∃ T : ByteArray, T = ⟨X.toArray⟩ := ⟨_, rfl⟩
  have hTs : T.size = n := by rw [hT, ← hN]; simp [ByteArray.size]
  have HGET := hide (fun (k : Nat) (h : k < T.size) => show ((T[k].toNat : Nat) : Int) = byteAt X k from by
    subst hT
    have h' : k < X.length := by rw [hN, ← hTs]; exact h
    unfold byteAt
    rw [List.getD_eq_getElem?_getD, List.getElem?_eq_getElem h']; rfl)
  rw [← hT] at HLT
  have hPn2 : a.length = n := hPn.trans hN
  have HPG := hide (fun (k : Nat) (h : k < n) => show a[k]? = some (a.getD k 0) from by
    rw [List.getD_eq_getElem?_getD, List.getElem?_eq_getElem (by omega)]; rfl)
  have HPS := hide (psT_succ X a)
  have HPZ := hide (psT_len X a)
  rw [hN] at hm60 ⊢
  rw [hPn2] at HPL
  generalize hcs : fc F (.slice A F.ps.length c) = fcs at *
  clear hPn hPn2 hN hT hX hcs hv ht hG hA hA1
  have HPB : Hid (PlB (psT X a n) w = fun e w' => ∃ A' c', e = .returned (.slice A' n c') ∧ n ≤ c' ∧ RowsIn 2 plc w' w.heap.size A' (psT X a n) ∧ Below w.heap.size w w') := hide (by unfold PlB; rw [psT_len])
  rw [HPB.out]
  clear HPB
  go_enter Tryd.func63, Tryd.ntmps63
  go_wp2_with fail
  generalize (w.alloc (.cells fcs.toArray 36)) = W0 at *
  refine HLT.out.mono ?_
  rintro e w1 ⟨rfl, hb1⟩
  have r1 := rangeAt_below r0 hb1 s0
  go_wp2_with (refine wpList_load_mid rfl 36 (.tmp 2) rfl _ 0 rfl fcs _ r1 Tryd.underlying36 rfl HI29.out ?_)
  refine (HPL.out _ hb1).mono ?_
  rintro e w2 ⟨A2, c2, rfl, hc2, hI2, hb2⟩
  have hB2 := hb1.trans (hb2.mono hb1.size)
  have hfin := b0.trans (hB2.mono b0.size)
  have HI2 := hide hI2
  clear r0 r1 hb1 hb2 hI2
  go_wp2
  go_loopw [5, 15] (fun br i wr => ∃ k : Nat, k ≤ n ∧ i = .int .i64 k ∧ wr.ownsRow w2.heap.size 145 2 br k ((psT X a k).flatMap plc) ∧ Below w2.heap.size w2 wr)
    (fun _ i _ => n - (intOf i).toNat)
  case atStart => exact ⟨0, by omega, rfl, World.ownsRow_nil _ _ _ _, Below.refl _ _⟩
  case round =>
    obtain ⟨k, hk, rfl, hown, hB⟩ := hrel
    obtain ⟨Ab, cbb, rfl, hcap, _⟩ := cellsIn_of_own hown (by omega)
    have hbs := hB.size
    have HOWN := hide hown
    by_cases hlt : k < n
    · obtain ⟨b, o, rfl, _, hb, hps, _⟩ := HI2.out (by intro e; have := HPG.out k hlt; rw [e] at this; simp at this)
      have c0 : wr.cell? ⟨b, o + k, none⟩ = some (.int .i64 (a.getD k 0)) := (hB.cell (p := ⟨b, o + k, none⟩) hb).trans (hps k _ (HPG.out k hlt))
      have hi : (k : Int) < n := by omega
      have h0 : (0 : Int) ≤ k := by omega
      have HG := hide (HGET.out k (by omega))
      have hit : (k : Int) < T.size := by omega
      have hkt : k < T.size := by omega
      have HE := hide (HPS.out k)
      clear hps hown
      generalize a.getD k 0 = x at *
      go_wp2_with (at_builtin; refine wpList_append_own _ rfl (.tmp 20) (.tmp 26) 99 rfl w2.heap.size 145 i0 (.agg #[.int .u8 0, .int .i64 0]) 2 16 Tryd.underlying99 hi0 hz0 hz1 hz2 rfl (by decide) _ k _ rfl (HOWN.out.alloc _) ⟨wr.heap.size, 0, none⟩ 1 1 [.int .u8 (T[k].toNat : Int), .int .i64 x] rfl rfl (two_cell _ _) (two_one rfl rfl) ?h1 ?h2 ?h3 ?_)
      case h1 => unfold maxLen; omega
      case h2 => omega
      case h3 => simp; omega
      intro v' w6 hown6 hg6 _
      obtain ⟨A6, c6, rfl, _, _⟩ := cellsIn_of_own hown6 (by omega)
      have H6 := hide hown6
      have hg56 : wr.grownBy w6 _ := grown_trans (World.grownBy_alloc wr _ _) hg6
      have hB6 := hB.trans (grown_toBelow hg56 (by omega) (fun k hk => (HOWN.out.lt k hk).1))
      clear hown6 hg6 hg56
      go_wp2
      refine ⟨⟨k + 1, by omega, by go_num, ?_, hB6⟩, by simp [intOf]; omega⟩
      rw [HE.out, List.flatMap_append, ← HG.out]
      exact H6.out
    · obtain rfl : k = n := by omega
      obtain ⟨Ag, cg, e, hcg, hI⟩ := rowsIn_of_own plc_len (by omega) HOWN.out (HPZ.out k).symm
      injection e with e1 e2 e3
      subst e1 e3
      have HI := hide hI
      have hfin2 := hfin.trans (hB.mono hfin.size)
      have hw2 := hfin.size
      clear hI hown
      go_wp2
      go_ret
      exact ⟨Ab, cbb, rfl, hcap, HI.out.wider hw2, hfin2⟩
end Go.Proofs.YtjgcadohjccfaaaDoor
