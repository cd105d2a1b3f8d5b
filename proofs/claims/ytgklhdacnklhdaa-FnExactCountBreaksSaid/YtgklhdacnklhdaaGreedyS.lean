/- GreedyBreaks and FewestLines of the model. -/
import Derived.Test.YtgklhdacnklhdaaGreedyI
namespace Go.Proofs.Ytgklhdacnklhdaa
open Go Go.RowKit

set_option maxRecDepth 100000 in
set_option maxHeartbeats 4000000 in
theorem l02Wide_any (F : Fc) (hF : F.ok) (b : Nat) (A : Option Addr) (c : Nat) (s : ByteArray) (x : Int) (w : World) (hs : s.size ≤ maxLen) (hr : w.rangeAt b 0 (fc F (.slice A F.ps.length c))) (hA : PairsAt w w.heap.size A F.ps) :
    Calls Try.prog 77 #[.pointer (some ⟨b, 0, none⟩), .string s, .int .i64 x] w fun e w' => e = .returned (.int .i64 (askC F s.data.toList (inB x 0 4000))) ∧ Below w.heap.size w w' := by
  have HC := hide (l01Asked_any F hF b A c s (inB x 0 4000) w hs hr hA)
  generalize askC F s.data.toList (inB x 0 4000) = C at *
  generalize hI : inB x 0 4000 = I at HC
  have HIN := hide hI
  clear hI hr hA
  go_enter Try.func77, Try.ntmps77
  go_wp2_with (first | (go_at_call 141; refine (l01Room_any _ _).mono ?_; rintro e w' ⟨rfl, rfl⟩; rw [HIN.out]) | (go_at_call 140; refine HC.out.mono ?_; rintro e w1 ⟨rfl, hb1⟩))
  go_ret
  exact ⟨rfl, hb1⟩

theorem fit_no {F : Fc} {ws : List (List UInt8)} {x : Int} {k : Nat} (hk : k < ws.length) (h : x < wideL F (ws.getD k [])) : fitB F ws x = false := fitB_false.2 (fun hf => by have := hf k hk; omega)

set_option maxRecDepth 100000 in
set_option maxHeartbeats 4000000 in
theorem l02Fits_any (F : Fc) (hF : F.ok) (b : Nat) (A : Option Addr) (c : Nat) (ws : List (List UInt8)) (A2 : Option Addr) (c2 : Nat) (x : Int) (w : World) (hv : vface F = true) (hw : ∀ x ∈ ws, x.length ≤ 60 ∧ allCap x) (hn : ws.length ≤ 61)
    (hr : w.rangeAt b 0 (fc F (.slice A F.ps.length c))) (hb : b < w.heap.size) (hA : PairsAt w w.heap.size A F.ps) (hS : StrsAt w w.heap.size A2 (bas ws)) :
    Calls Try.prog 132 #[.pointer (some ⟨b, 0, none⟩), .slice A2 ws.length c2, .int .i64 x] w fun e w' => e = .returned (.bool (fitB F ws x)) ∧ Below w.heap.size w w' := by
  have HL1 := hide (fun (k : Nat) (hk : k < ws.length) (W : World) (hB : Below w.heap.size w W) => l01Wide_any F hF b A c ⟨(ws.getD k []).toArray⟩ W hv (hw _ (getD_mem hk)).2 (by simpa [ByteArray.size] using (hw _ (getD_mem hk)).1) (rangeAt_below hr hB hb) ((hA.below hB).mono hB.size))
  have HBG := hide (fun (k : Nat) (hk : k < ws.length) => bas_get hk)
  have HYES := hide (fun (h : ∀ j, j < ws.length → wideL F (ws.getD j []) ≤ x) => fitB_true.2 (show fitP F ws x from h))
  have HNO := hide (fun (k : Nat) (hk : k < ws.length) h => fit_no (F := F) (x := x) hk h)
  generalize fitB F ws x = R at *
  generalize hL : ws.length = n at *
  clear hA hw hL hr
  go_enter Try.func132, Try.ntmps132
  go_wp2
  go_loopw [7] (fun i wr => ∃ k : Nat, k ≤ n ∧ i = .int .i64 k ∧ (∀ j, j < k → wideL F (ws.getD j []) ≤ x) ∧ Below w.heap.size w wr)
    (fun i _ => n - (intOf i).toNat)
  case atStart => exact ⟨0, by omega, rfl, fun j h => by omega, Below.refl _ _⟩
  case round =>
    obtain ⟨k, hk, rfl, hfit, hB⟩ := hrel
    have HFIT := hide hfit
    clear hfit
    by_cases hlt : k < n
    · have hi : (k : Int) < n := by omega
      have h0 : (0 : Int) ≤ k := by omega
      have hne : bas ws ≠ [] := by intro e; have := HBG.out k hlt; rw [e] at this; cases this
      obtain ⟨b2, o2, rfl, hb2, hps⟩ := hS hne
      have cw : wr.cell? ⟨b2, o2 + k, none⟩ = some (.string ⟨(ws.getD k []).toArray⟩) := (hB.cell (p := ⟨b2, o2 + k, none⟩) hb2).trans (hps k _ (HBG.out k hlt))
      have HW1 := hide (HL1.out k hlt wr hB)
      have HNK := hide (HNO.out k hlt)
      have HSTEP := hide (fun (h : wideL F (ws.getD k []) ≤ x) => show ∀ j, j < k + 1 → wideL F (ws.getD j []) ≤ x from fun j hj => by
        rcases Nat.lt_or_ge j k with h' | h'
        · exact HFIT.out j h'
        · obtain rfl : j = k := by omega
          exact h)
      clear hps hne
      by_cases hw : wideL F (ws.getD k []) ≤ x
      · have HSTEP := hide (HSTEP.out hw)
        generalize ws.getD k [] = y at cw HW1 hw
        have hw' : ¬ x < wideL F y := by omega
        go_wp2_with (go_at_call 180; refine HW1.out.mono ?_; rintro e w1 ⟨rfl, hb1⟩)
        exact ⟨⟨k + 1, by omega, by go_num, HSTEP.out, hB.trans (hb1.mono hB.size)⟩, by simp [intOf]; omega⟩
      · have HNN := hide (HNK.out (by omega))
        clear HSTEP HNK
        generalize ws.getD k [] = y at cw HW1 hw
        have hw' : x < wideL F y := by omega
        go_wp2_with (go_at_call 180; refine HW1.out.mono ?_; rintro e w1 ⟨rfl, hb1⟩)
        go_ret
        exact ⟨ret_bool HNN.out.symm, hB.trans (hb1.mono hB.size)⟩
    · obtain rfl : k = n := by omega
      have HYY := hide (HYES.out HFIT.out)
      go_wp2
      go_ret
      exact ⟨ret_bool HYY.out.symm, hB⟩

theorem strsAt_seg {w : World} {B b o : Nat} {ws : List (List UInt8)} (h : ∀ k x, (bas ws)[k]? = some x → w.cell? ⟨b, o + k, none⟩ = some (.string x)) (hb : b < B) (f k : Nat) : StrsAt w B (some ⟨b, o + f, none⟩) (bas (seg ws f k)) := fun _ => by
  refine ⟨b, o + f, rfl, hb, fun j x hx => ?_⟩
  have : (bas ws)[f + j]? = some x := by
    unfold bas seg at hx
    rw [List.getElem?_map, List.getElem?_drop, List.getElem?_take] at hx
    split at hx
    · rw [List.getElem?_map]; exact hx
    · cases hx
  have := h _ _ this
  rwa [← Nat.add_assoc] at this

set_option maxRecDepth 100000 in
set_option maxHeartbeats 2000000 in
/-- The words, and that there is room for them. -/
theorem l01WordsC_any (s : ByteArray) (w : World) (hs : s.size ≤ 1048576) :
    Calls Try.prog 73 #[.string s] w fun e w' => ∃ A c, e = .returned (.slice A (bas (wordsL s.data.toList)).length c) ∧ (wordsL s.data.toList).length ≤ c ∧ StrsIn w' w.heap.size A (bas (wordsL s.data.toList)) ∧ Below w.heap.size w w' := by
  have hsp := l01Split_any s w hs
  by_cases h0 : s.size = 0
  · have hte := toList_nil h0
    have he : s.data.toList = [] := List.length_eq_zero_iff.1 (by simpa using h0)
    have hw : wordsL s.data.toList = [] := by rw [he]; rfl
    rw [hw]
    clear he hw hsp h0
    go_enter Try.func73, Try.ntmps73
    go_wp2
    go_ret
    exact ⟨_, _, rfl, Nat.zero_le _, StrsIn.empty _ _ _, (Below.refl _ _).alloc (Nat.le_refl _) _⟩
  · have hte := toList_cons h0
    have hne : s.data.toList ≠ [] := fun e => h0 (by have := congrArg List.length e; simpa using this)
    have hw : wordsL s.data.toList = splitL s.data.toList := by unfold wordsL; rw [if_neg hne]
    rw [hw]
    have HSP := hide hsp
    clear hne hw hsp h0
    go_enter Try.func73, Try.ntmps73
    go_wp2_with (go_at_call 133; refine HSP.out.mono ?_; rintro e w1 ⟨A, c, rfl, hc, hP, hb⟩)
    go_ret
    exact ⟨A, c, by rw [List.length_map]; rfl, hc, hP, hb⟩

set_option maxRecDepth 100000 in
set_option maxHeartbeats 4000000 in
theorem l02Found_any (F : Fc) (hF : F.ok) (b : Nat) (A : Option Addr) (c : Nat) (s : ByteArray) (x : Int) (w : World) (hs : s.size ≤ maxLen) (hr : w.rangeAt b 0 (fc F (.slice A F.ps.length c))) (hb : b < w.heap.size) (hA : PairsAt w w.heap.size A F.ps) :
    Calls Try.prog 72 #[.pointer (some ⟨b, 0, none⟩), .string s, .int .i64 x] w fun e w' => e = .returned (.int .i64 (fdC F s.data.toList x)) ∧ Below w.heap.size w w' := by
  have HC := hide (l02Wide_any F hF b A c s x w hs hr hA)
  rcases ask_cases F s.data.toList x with ⟨hv, ht, hi, h4⟩ | h
  · have hwl := words_len ht
    have hs60 : s.size ≤ 1048576 := by have := (vtext_true.1 ht).1; simp at this; omega
    have HW := hide (fun w => l01Words_any s w hs60)
    have HL := hide (fun A2 c2 W (hB : Below w.heap.size w W) hS => l02Fits_any F hF b A c (wordsL s.data.toList) A2 c2 x W hv (fun x hx => words_mem ht hx) hwl (rangeAt_below hr hB hb) (Nat.lt_of_lt_of_le hb hB.size) ((hA.below hB).mono hB.size) hS)
    have HOK := hide (fun h => (fd_ok (F := F) h4 h).1)
    have HNO := hide (fun h => (fd_wide (F := F) h4 h).1)
    have HBL := hide (show (bas (wordsL s.data.toList)).length = (wordsL s.data.toList).length from List.length_map _)
    rw [h4] at HC
    generalize fdC F s.data.toList x = C at *
    clear hA hv ht hi h4 hs60 hwl hr
    cases hfit : fitB F (wordsL s.data.toList) x
    · have HP := hide (HNO.out hfit)
      rw [hfit] at HL
      clear hfit HOK HNO
      go_enter Try.func72, Try.ntmps72
      go_wp2_with (go_at_call 77; refine HC.out.mono ?_; rintro e w1 ⟨rfl, hb1⟩)
      refine (HW.out w1).mono ?_
      rintro e w2 ⟨A2, c2, rfl, hP2, hb2⟩
      rw [HBL.out]
      have hB2 := hb1.trans (hb2.mono hb1.size)
      go_wp2_with (go_at_call 132; refine (HL.out A2 c2 _ hB2 hP2.at_).mono ?_; rintro e w3 ⟨rfl, hb3⟩)
      go_ret
      exact ⟨ret_int HP.out.symm, hB2.trans (hb3.mono hB2.size)⟩
    · have HP := hide (HOK.out hfit)
      rw [hfit] at HL
      clear hfit HOK HNO
      go_enter Try.func72, Try.ntmps72
      go_wp2_with (go_at_call 77; refine HC.out.mono ?_; rintro e w1 ⟨rfl, hb1⟩)
      refine (HW.out w1).mono ?_
      rintro e w2 ⟨A2, c2, rfl, hP2, hb2⟩
      rw [HBL.out]
      have hB2 := hb1.trans (hb2.mono hb1.size)
      go_wp2_with (go_at_call 132; refine (HL.out A2 c2 _ hB2 hP2.at_).mono ?_; rintro e w3 ⟨rfl, hb3⟩)
      go_ret
      exact ⟨ret_int HP.out.symm, hB2.trans (hb3.mono hB2.size)⟩
  · have hno : askC F s.data.toList (inB x 0 4000) ≠ 0 := by rcases h with ⟨h, _⟩ | ⟨h, _⟩ <;> rw [h] <;> decide
    obtain ⟨p1, _, _⟩ := fd_no (F := F) hno
    rw [p1]
    have hv2 : askC F s.data.toList (inB x 0 4000) = 2 ∨ askC F s.data.toList (inB x 0 4000) = 1 := by rcases h with ⟨h, _⟩ | ⟨h, _⟩ <;> simp [h]
    clear h hA hr p1 hno
    rcases hv2 with e | e
    all_goals
      rw [e] at HC ⊢
      clear e
      go_enter Try.func72, Try.ntmps72
      go_wp2_with (go_at_call 77; refine HC.out.mono ?_; rintro e w1 ⟨rfl, hb1⟩)
      go_ret
      exact ⟨rfl, hb1⟩

end Go.Proofs.Ytgklhdacnklhdaa
