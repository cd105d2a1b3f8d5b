/- Letters at their places of the program: placedIn, keptAt, KeptAt. -/
import Derived.Test.YtngondeaeipcfaaDoorKpI
import Derived.Test.YtngondeaeipcfaaDoorLaP
import Derived.Test.YtngondeaeipcfaaDoorBsP
import Derived.Test.YtngondeaeipcfaaDoorPrC
namespace Go.Proofs.YtngondeaeipcfaaDoor
open Go Go.RowKit

set_option maxRecDepth 100000 in
set_option maxHeartbeats 8000000 in
theorem placedIn_any (F : Fc) (hF : F.ok) (A : Option Addr) (c : Nat) (s : ByteArray) (w : World) (hv : vface F = true) (ht : vtext s.data.toList = true) (hG : Glob w) (hA : PairsAt w w.heap.size A F.ps) :
    Calls Tryd.prog 119 #[.agg (fc F (.slice A F.ps.length c)).toArray, .string s] w (PlB (psL F s.data.toList) w) := by
  obtain ⟨i0, hi0, hz0, hz1, hz2⟩ := info_parts Tryd.infoPlaced
  have b0 : Below w.heap.size w (w.alloc (.cells (fc F (.slice A F.ps.length c)).toArray 53)) := (Below.refl _ _).alloc (Nat.le_refl _) _
  have r0 := rangeAt_new w (fc F (.slice A F.ps.length c)) 53
  have s0 : w.heap.size < (w.alloc (.cells (fc F (.slice A F.ps.length c)).toArray 53)).heap.size := by simp
  have HI29 := hide (show (Tryd.prog.info? 53).map (·.size) = some (fc F (.slice A F.ps.length c)).length from by rw [fc_length hF.len]; kernel_rfl)
  have hs60 : s.size ≤ 60 := by have := (vtext_true.1 ht).1; simpa using this
  have HLT := hide (lettersOf_any s _ (by omega) (hG.below b0))
  have hA1 := (hA.below b0).mono b0.size
  have HPL := hide (fun W (h : Below (w.alloc (.cells (fc F (.slice A F.ps.length c)).toArray 53)).heap.size (w.alloc (.cells (fc F (.slice A F.ps.length c)).toArray 53)) W) => placesOf_any F hF A c s W hv ht (hA1.go h (Nat.le_refl _)))
  have hPn := plL_lett F s.data.toList
  have hm60 : (lettL s.data.toList).length ≤ 60 := by have := lettL_len s.data.toList; have e : s.data.toList.length = s.size := by simp
                                                      omega
  unfold psL
  generalize hX : lettL s.data.toList = X at *
  generalize plL F (wordsL s.data.toList) = a at *
  obtain ⟨n, hN⟩ : ∃ n, X.length = n := ⟨_, rfl⟩
  obtain ⟨T, hT⟩ : ∃ T : ByteArray, T = ⟨X.toArray⟩ := ⟨_, rfl⟩
  have hTs : T.size = n := by rw [hT, ← hN]; simp [ByteArray.size]
  have HGET := hide (fun (k : Nat) (h : k < T.size) => show ((T[k].toNat : Nat) : Int) = byteAt X k from by
    subst hT
    have h' : k < X.length := by rw [hN, ← hTs]; exact h
    unfold byteAt
    rw [List.getD_eq_getElem?_getD, List.getElem?_eq_getElem h']; rfl)
  rw [← hT] at HLT
  have hPn2 : a.length = n := hPn.trans hN
  have HPG := hide (fun (k : Nat) (h : k < n) => show a[k]? = some (a.getD k 0) from by
    rw [List.getD_eq_getElem?_getD, List.getElem?_eq_getElem (by omega)]; rfl)
  have HPS := hide (psT_succ X a)
  have HPZ := hide (psT_len X a)
  rw [hN] at hm60 ⊢
  rw [hPn2] at HPL
  generalize hcs : fc F (.slice A F.ps.length c) = fcs at *
  clear hPn hPn2 hN hT hX hcs hv ht hG hA hA1
  have HPB : Hid (PlB (psT X a n) w = fun e w' => ∃ A' c', e = .returned (.slice A' n c') ∧ n ≤ c' ∧ RowsIn 2 plc w' w.heap.size A' (psT X a n) ∧ Below w.heap.size w w') := hide (by unfold PlB; rw [psT_len])
  rw [HPB.out]
  clear HPB
  go_enter Tryd.func119, Tryd.ntmps119
  go_wp2_with fail
  generalize (w.alloc (.cells fcs.toArray 53)) = W0 at *
  refine HLT.out.mono ?_
  rintro e w1 ⟨rfl, hb1⟩
  have r1 := rangeAt_below r0 hb1 s0
  go_wp2_with (refine wpList_load_mid rfl 53 (.tmp 2) rfl _ 0 rfl fcs _ r1 Tryd.underlying53 rfl HI29.out ?_)
  refine (HPL.out _ hb1).mono ?_
  rintro e w2 ⟨A2, c2, rfl, hc2, hI2, hb2⟩
  have hB2 := hb1.trans (hb2.mono hb1.size)
  have hfin := b0.trans (hB2.mono b0.size)
  have HI2 := hide hI2
  clear r0 r1 hb1 hb2 hI2
  go_wp2
  go_loopw [5, 15] (fun br i wr => ∃ k : Nat, k ≤ n ∧ i = .int .i64 k ∧ wr.ownsRow w2.heap.size 247 2 br k ((psT X a k).flatMap plc) ∧ Below w2.heap.size w2 wr)
    (fun _ i _ => n - (intOf i).toNat)
  case atStart => exact ⟨0, by omega, rfl, World.ownsRow_nil _ _ _ _, Below.refl _ _⟩
  case round =>
    obtain ⟨k, hk, rfl, hown, hB⟩ := hrel
    obtain ⟨Ab, cbb, rfl, hcap, _⟩ := cellsIn_of_own hown (by omega)
    have hbs := hB.size
    have HOWN := hide hown
    by_cases hlt : k < n
    · obtain ⟨b, o, rfl, _, hb, hps, _⟩ := HI2.out (by intro e; have := HPG.out k hlt; rw [e] at this; simp at this)
      have c0 : wr.cell? ⟨b, o + k, none⟩ = some (.int .i64 (a.getD k 0)) := (hB.cell (p := ⟨b, o + k, none⟩) hb).trans (hps k _ (HPG.out k hlt))
      have hi : (k : Int) < n := by omega
      have h0 : (0 : Int) ≤ k := by omega
      have HG := hide (HGET.out k (by omega))
      have hit : (k : Int) < T.size := by omega
      have hkt : k < T.size := by omega
      have HE := hide (HPS.out k)
      clear hps hown
      generalize a.getD k 0 = x at *
      go_wp2_with (at_builtin; refine wpList_append_own _ rfl (.tmp 20) (.tmp 26) 175 rfl w2.heap.size 247 i0 (.agg #[.int .u8 0, .int .i64 0]) 2 16 Tryd.underlying175 hi0 hz0 hz1 hz2 rfl (by decide) _ k _ rfl (HOWN.out.alloc _) ⟨wr.heap.size, 0, none⟩ 1 1 [.int .u8 (T[k].toNat : Int), .int .i64 x] rfl rfl (two_cell _ _) (two_one rfl rfl) ?h1 ?h2 ?h3 ?_)
      case h1 => unfold maxLen; omega
      case h2 => omega
      case h3 => simp; omega
      intro v' w6 hown6 hg6 _
      obtain ⟨A6, c6, rfl, _, _⟩ := cellsIn_of_own hown6 (by omega)
      have H6 := hide hown6
      have hg56 : wr.grownBy w6 _ := grown_trans (World.grownBy_alloc wr _ _) hg6
      have hB6 := hB.trans (grown_toBelow hg56 (by omega) (fun k hk => (HOWN.out.lt k hk).1))
      clear hown6 hg6 hg56
      go_wp2
      refine ⟨⟨k + 1, by omega, by go_num, ?_, hB6⟩, by simp [intOf]; omega⟩
      rw [HE.out, List.flatMap_append, ← HG.out]
      exact H6.out
    · obtain rfl : k = n := by omega
      obtain ⟨Ag, cg, e, hcg, hI⟩ := rowsIn_of_own plc_len (by omega) HOWN.out (HPZ.out k).symm
      injection e with e1 e2 e3
      subst e1 e3
      have HI := hide hI
      have hfin2 := hfin.trans (hB.mono hfin.size)
      have hw2 := hfin.size
      clear hI hown
      go_wp2
      go_ret
      exact ⟨Ab, cbb, rfl, hcap, HI.out.wider hw2, hfin2⟩
end Go.Proofs.YtngondeaeipcfaaDoor
