/- The text of prices: the model's list of all numbers. -/
import Derived.Test.YtjmkbdghenjlaaaDoorPtA
import Derived.Test.YtjmkbdghenjlaaaDoorGs
import Derived.Test.YtjmkbdghenjlaaaDoorIvTh
import Derived.Lib.Join
namespace Go.Proofs.YtjmkbdghenjlaaaDoor
open Go Go.RowKit

set_option maxRecDepth 100000 in
set_option maxHeartbeats 8000000 in
theorem l06List_any (P : List Int) (hP : P.length = 29) (hPx : ∀ x ∈ P, i16ok x) (b : Nat) (w : World) (hb : b < w.heap.size) (hr : w.rangeAt b 0 (pw P)) :
    Calls Tryd.prog 97 #[.pointer (some ⟨b, 0, none⟩)] w (IntsB P w) := by
  obtain ⟨i0, hi0, hz0, hz1, hz2⟩ := info_parts Tryd.infoI64
  have HC := hide (fun (k : Nat) (h : k < 29) W (hW : Below w.heap.size w W) => show W.cell? ⟨b, k, none⟩ = some (.int .i16 (P.getD k 0)) from
    (hW.cell (p := ⟨b, k, none⟩) hb).trans (by have := rangeAt_cell hr (pw_get (k := k) (by rw [hP]; exact h)); exact this))
  have HX := hide (fun k => show i16ok (P.getD k 0) from pw_at hPx k)
  have HT := hide (fun (k : Nat) (h : k < 29) => show P.take (k + 1) = P.take k ++ [P.getD k 0] from by
    have hx := List.getElem?_eq_getElem (show k < P.length by omega)
    have hg : P.getD k 0 = P[k]'(by omega) := by simp [List.getD, hx]
    rw [List.take_add_one, hx, hg]; rfl)
  have HL := hide hP
  have HE : Hid (P = P.take 26 ++ [P.getD 26 0, P.getD 27 0, P.getD 28 0]) := hide (p29 hP)
  clear hr hPx hP
  go_enter Tryd.func97, Tryd.ntmps97
  go_wp2
  go_loopw [3, 4] (fun br i wr => ∃ k : Nat, k ≤ 26 ∧ i = .int .i64 k ∧ wr.ownsRow w.heap.size 2 1 br k ((P.take k).map (.int .i64)) ∧ Below w.heap.size w wr)
    (fun _ i _ => 26 - (intOf i).toNat)
  case atStart => exact ⟨0, Nat.zero_le _, rfl, World.ownsRow_made w _ 0 (Nat.le_refl _) (by unfold maxLen; omega) rfl, (Below.refl _ _).alloc (Nat.le_refl _) _⟩
  case round =>
    obtain ⟨k, hk, rfl, hown, hB⟩ := hrel
    obtain ⟨Ab, cbb, rfl, hcap, _⟩ := cellsIn_of_own hown (by omega)
    have hbs := hB.size
    have HOWN := hide hown
    clear hown
    by_cases hlt : k < 26
    · have c0 := HC.out k (by omega) wr hB
      obtain ⟨x1, x2⟩ := HX.out k
      have HTK := hide (HT.out k (by omega))
      have hi : (k : Int) < 26 := by omega
      have h0 : (0 : Int) ≤ k := by omega
      generalize P.getD k 0 = x at *
      have hw1 := IntWalk.i64_in x ⟨by omega, by omega⟩
      go_wp2_with (at_builtin; refine wpList_append_own _ rfl (.tmp 10) (.tmp 18) 39 rfl w.heap.size 2 i0 (.int .i64 0) 1 8 Tryd.underlying39 hi0 hz0 hz1 hz2 rfl (by decide) _ k _ rfl (HOWN.out.alloc _) ⟨wr.heap.size, 0, none⟩ 1 1 [.int .i64 x] rfl rfl (one_cell _) (one_one rfl) ?h1 ?h2 ?h3 ?_)
      case h1 => unfold maxLen; omega
      case h2 => omega
      case h3 => simp; omega
      intro v' w4 hown4 hg4 _
      obtain ⟨A4, c4, rfl, _, _⟩ := cellsIn_of_own hown4 (by omega)
      have H4 := hide hown4
      have hg34 : wr.grownBy w4 _ := grown_trans (World.grownBy_alloc wr _ _) hg4
      have hB4 := hB.trans (grown_toBelow hg34 (by omega) (fun k hk => (HOWN.out.lt k hk).1))
      clear hown4 hg4 hg34
      go_wp2
      refine ⟨⟨k + 1, by omega, by go_num, ?_, hB4⟩, by simp [intOf]; omega⟩
      rw [HTK.out, List.map_append, List.map_take]
      exact H4.out
    · obtain rfl : k = 26 := by omega
      have HC26 := hide (HC.out 26 (by omega))
      have HC27 := hide (HC.out 27 (by omega))
      have HC28 := hide (HC.out 28 (by omega))
      obtain ⟨g1, g2⟩ := HX.out 26
      obtain ⟨f1, f2⟩ := HX.out 27
      obtain ⟨e1, e2⟩ := HX.out 28
      have HLN : Hid (P.length = 29) := HL
      rw [HE.out] at HLN
      have HIB : Hid (IntsB P w = IntsB (P.take 26 ++ [P.getD 26 0, P.getD 27 0, P.getD 28 0]) w) := hide (congrArg (fun q => IntsB q w) HE.out)
      generalize P.getD 26 0 = xg at *
      generalize P.getD 27 0 = xb at *
      generalize P.getD 28 0 = xf at *
      have hw1 := IntWalk.i64_in xg ⟨by omega, by omega⟩
      have hw2 := IntWalk.i64_in xb ⟨by omega, by omega⟩
      have hw3 := IntWalk.i64_in xf ⟨by omega, by omega⟩
      clear HE HX HC
      go_wp2
      refine wp_region_script [(0, true), (1, true), (2, true), (3, true), (4, true), (5, true), (6, true), (7, true), (8, true), (9, true), (10, true), (11, true), (12, true), (13, true), (14, true), (15, true), (16, false), (17, false), (18, false)]
        (fun w' => Below w.heap.size w w') (by kernel_rfl) (by kernel_rfl) (of_decide_eq_true (by kernel_rfl)) (by kernel_rfl) (fun _ _ d _ _ h => by cases d <;> exact h) hB.drew ?_
      refine sc_take (.slice Ab 26 cbb) rfl (.inl ⟨rfl, fun w' h => ?_⟩) ?_
      · first | (have c26 := HC26.out w' h; have c27 := HC27.out w' h; have c28 := HC28.out w' h; simp only [execOp, Act.eval]; go_simp; done) | rfl
      simp only [Act.put, List.setIfInBounds_toArray, List.set_cons_zero, List.set_cons_succ]
      refine sc_take (.pointer (some ⟨b, 0, none⟩)) rfl (.inl ⟨rfl, fun w' h => ?_⟩) ?_
      · first | (have c26 := HC26.out w' h; have c27 := HC27.out w' h; have c28 := HC28.out w' h; simp only [execOp, Act.eval]; go_simp; done) | rfl
      simp only [Act.put, List.setIfInBounds_toArray, List.set_cons_zero, List.set_cons_succ]
      refine sc_take (.pointer (some ⟨b, 0, none⟩)) rfl (.inl ⟨rfl, fun w' h => ?_⟩) ?_
      · first | (have c26 := HC26.out w' h; have c27 := HC27.out w' h; have c28 := HC28.out w' h; simp only [execOp, Act.eval]; go_simp; done) | rfl
      simp only [Act.put, List.setIfInBounds_toArray, List.set_cons_zero, List.set_cons_succ]
      refine sc_take (.pointer (some ⟨b, 26, none⟩)) rfl (.inl ⟨rfl, fun w' h => ?_⟩) ?_
      · first | (have c26 := HC26.out w' h; have c27 := HC27.out w' h; have c28 := HC28.out w' h; simp only [execOp, Act.eval]; go_simp; done) | rfl
      simp only [Act.put, List.setIfInBounds_toArray, List.set_cons_zero, List.set_cons_succ]
      refine sc_take (.int .i16 xg) rfl (.inl ⟨rfl, fun w' h => ?_⟩) ?_
      · first | (have c26 := HC26.out w' h; have c27 := HC27.out w' h; have c28 := HC28.out w' h; simp only [execOp, Act.eval]; go_simp; done) | rfl
      simp only [Act.put, List.setIfInBounds_toArray, List.set_cons_zero, List.set_cons_succ]
      refine sc_take (.int .i64 xg) rfl (.inl ⟨rfl, fun w' h => ?_⟩) ?_
      · first | (have c26 := HC26.out w' h; have c27 := HC27.out w' h; have c28 := HC28.out w' h; simp only [execOp, Act.eval]; go_simp; done) | rfl
      simp only [Act.put, List.setIfInBounds_toArray, List.set_cons_zero, List.set_cons_succ]
      refine sc_take (.pointer (some ⟨b, 0, none⟩)) rfl (.inl ⟨rfl, fun w' h => ?_⟩) ?_
      · first | (have c26 := HC26.out w' h; have c27 := HC27.out w' h; have c28 := HC28.out w' h; simp only [execOp, Act.eval]; go_simp; done) | rfl
      simp only [Act.put, List.setIfInBounds_toArray, List.set_cons_zero, List.set_cons_succ]
      refine sc_take (.pointer (some ⟨b, 0, none⟩)) rfl (.inl ⟨rfl, fun w' h => ?_⟩) ?_
      · first | (have c26 := HC26.out w' h; have c27 := HC27.out w' h; have c28 := HC28.out w' h; simp only [execOp, Act.eval]; go_simp; done) | rfl
      simp only [Act.put, List.setIfInBounds_toArray, List.set_cons_zero, List.set_cons_succ]
      refine sc_take (.pointer (some ⟨b, 27, none⟩)) rfl (.inl ⟨rfl, fun w' h => ?_⟩) ?_
      · first | (have c26 := HC26.out w' h; have c27 := HC27.out w' h; have c28 := HC28.out w' h; simp only [execOp, Act.eval]; go_simp; done) | rfl
      simp only [Act.put, List.setIfInBounds_toArray, List.set_cons_zero, List.set_cons_succ]
      refine sc_take (.int .i16 xb) rfl (.inl ⟨rfl, fun w' h => ?_⟩) ?_
      · first | (have c26 := HC26.out w' h; have c27 := HC27.out w' h; have c28 := HC28.out w' h; simp only [execOp, Act.eval]; go_simp; done) | rfl
      simp only [Act.put, List.setIfInBounds_toArray, List.set_cons_zero, List.set_cons_succ]
      refine sc_take (.int .i64 xb) rfl (.inl ⟨rfl, fun w' h => ?_⟩) ?_
      · first | (have c26 := HC26.out w' h; have c27 := HC27.out w' h; have c28 := HC28.out w' h; simp only [execOp, Act.eval]; go_simp; done) | rfl
      simp only [Act.put, List.setIfInBounds_toArray, List.set_cons_zero, List.set_cons_succ]
      refine sc_take (.pointer (some ⟨b, 0, none⟩)) rfl (.inl ⟨rfl, fun w' h => ?_⟩) ?_
      · first | (have c26 := HC26.out w' h; have c27 := HC27.out w' h; have c28 := HC28.out w' h; simp only [execOp, Act.eval]; go_simp; done) | rfl
      simp only [Act.put, List.setIfInBounds_toArray, List.set_cons_zero, List.set_cons_succ]
      refine sc_take (.pointer (some ⟨b, 0, none⟩)) rfl (.inl ⟨rfl, fun w' h => ?_⟩) ?_
      · first | (have c26 := HC26.out w' h; have c27 := HC27.out w' h; have c28 := HC28.out w' h; simp only [execOp, Act.eval]; go_simp; done) | rfl
      simp only [Act.put, List.setIfInBounds_toArray, List.set_cons_zero, List.set_cons_succ]
      refine sc_take (.pointer (some ⟨b, 28, none⟩)) rfl (.inl ⟨rfl, fun w' h => ?_⟩) ?_
      · first | (have c26 := HC26.out w' h; have c27 := HC27.out w' h; have c28 := HC28.out w' h; simp only [execOp, Act.eval]; go_simp; done) | rfl
      simp only [Act.put, List.setIfInBounds_toArray, List.set_cons_zero, List.set_cons_succ]
      refine sc_take (.int .i16 xf) rfl (.inl ⟨rfl, fun w' h => ?_⟩) ?_
      · first | (have c26 := HC26.out w' h; have c27 := HC27.out w' h; have c28 := HC28.out w' h; simp only [execOp, Act.eval]; go_simp; done) | rfl
      simp only [Act.put, List.setIfInBounds_toArray, List.set_cons_zero, List.set_cons_succ]
      refine sc_take (.int .i64 xf) rfl (.inl ⟨rfl, fun w' h => ?_⟩) ?_
      · first | (have c26 := HC26.out w' h; have c27 := HC27.out w' h; have c28 := HC28.out w' h; simp only [execOp, Act.eval]; go_simp; done) | rfl
      simp only [Act.put, List.setIfInBounds_toArray, List.set_cons_zero, List.set_cons_succ]
      refine sc_step rfl ?_
      go_wp2_with fail
      have hBd : Below w.heap.size w (wr.alloc (.cells #[.int .i64 xg, .int .i64 xb, .int .i64 xf] 2)).drew := (hB.alloc hbs _).drew
      refine ⟨hBd, sc_step rfl ?_⟩
      have hownd : (wr.alloc (.cells #[.int .i64 xg, .int .i64 xb, .int .i64 xf] 2)).drew.ownsRow w.heap.size 2 1 (.slice Ab 26 cbb) 26 ((P.take 26).map (.int .i64)) := own_go (HOWN.out.alloc _) ((Below.refl _ _).drew)
      have hnews : ∀ (j : Nat) (u : Value), [Value.int .i64 xg, .int .i64 xb, .int .i64 xf][j]? = some u → (wr.alloc (.cells #[.int .i64 xg, .int .i64 xb, .int .i64 xf] 2)).drew.cell? ((⟨wr.heap.size, 0, none⟩ : Addr).add j) = some u := fun j u hu => by
        have := rangeAt_new' wr #[.int .i64 xg, .int .i64 xb, .int .i64 xf] 2 j u hu
        rw [addr_add]; exact this
      have hone : ∀ u ∈ [Value.int .i64 xg, .int .i64 xb, .int .i64 xf], u.oneCell' = true := by
        intro u hu
        simp only [List.mem_cons, List.not_mem_nil, or_false] at hu
        rcases hu with rfl | rfl | rfl <;> rfl
      refine wpList_append_own _ rfl (.tmp 20) (.tmp 36) 39 rfl w.heap.size 2 i0 (.int .i64 0) 1 8 Tryd.underlying39 hi0 hz0 hz1 hz2 rfl (by decide) _ 26 ((P.take 26).map (.int .i64)) rfl hownd ⟨wr.heap.size, 0, none⟩ 3 3 [.int .i64 xg, .int .i64 xb, .int .i64 xf] rfl rfl hnews hone ?h1 ?h2 ?h3 ?_
      case h1 => unfold maxLen; omega
      case h2 => omega
      case h3 => exact hBd.size
      intro v' w4 hown4 hg4 _
      have hB4 := hBd.trans (grown_toBelow hg4 hBd.size (fun k hk => (HOWN.out.lt k hk).1))
      have hI4 : w4.ownsRow w.heap.size 2 1 v' 29 ((P.take 26 ++ [xg, xb, xf]).map (.int .i64)) := by
        rw [List.map_append]; exact hown4
      obtain ⟨A4, c4, rfl, hc4, hI⟩ := intsIn_of_own hI4
      have HI := hide hI
      clear hown4 hg4 hI4 hI hownd hnews hone hBd
      go_wp2_with fail
      refine ⟨hB4, sc_step rfl ?_⟩
      go_wp2_with fail
      refine ⟨hB4, sc_nil ?_⟩
      go_wp2
      go_ret
      rw [HIB.out]
      exact ⟨A4, c4, by rw [HLN.out]; rfl, by rw [HLN.out]; exact hc4, HI.out, hB4⟩
end Go.Proofs.YtjmkbdghenjlaaaDoor
