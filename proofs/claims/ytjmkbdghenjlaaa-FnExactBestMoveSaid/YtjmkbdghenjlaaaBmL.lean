/- The first of the least moves; BestMove of the program. -/
import Derived.Test.YtjmkbdghenjlaaaBmC
import Derived.Test.YtjmkbdghenjlaaaBmS
import Derived.Test.YtjmkbdghenjlaaaRbC
namespace Go.Proofs.Ytjmkbdghenjlaaa
open Go Go.RowKit

def msA (o : Option Mm) : Mm := o.getD (0, 0, 0)
theorem ms_some : ∀ (xs : List Mm), xs ≠ [] → ∃ q, msO xs = some q := fun xs h => by
  rcases msO_best xs with ⟨e, _⟩ | ⟨b, hb, _⟩
  · exact (h e).elim
  · exact ⟨b, hb⟩
theorem ms_ok {xs : List Mm} (h : ∀ p ∈ xs, okM p) {q : Mm} (hq : msO xs = some q) : okM q := by
  rcases msO_best xs with ⟨_, e⟩ | ⟨b, hb, hm, _⟩
  · rw [e] at hq; cases hq
  · rw [hb] at hq; injection hq with hq; subst hq; exact h _ hm
abbrev MmAt := RowsAt 3 mmC
theorem mmC_one (p : Mm) : (mmC p).toArray.all (·.oneCell') = true := all_oneCell_toArray (by simp [mmC, Value.oneCell'])
theorem mmC_info (p : Mm) : (Try.prog.info? 48).map (·.size) = some (mmC p).toArray.size := by kernel_rfl
theorem mmC_info' (p : Mm) : (Try.prog.info? 48).map (·.size) = some (mmC p).length := by kernel_rfl
theorem stored_mm (w : World) (p : Mm) : ∃ W5, W5 = (w.alloc (.cells #[.int .i64 0, .int .i64 0, .int .i64 0] 48)).setCells w.heap.size 0 (mmC p).toArray.toList ∧ W5.rangeAt w.heap.size 0 (mmC p) ∧
    Below w.heap.size w W5 ∧ w.heap.size < W5.heap.size ∧ (w.alloc (.cells #[.int .i64 0, .int .i64 0, .int .i64 0] 48)).there w.heap.size 0 (mmC p).toArray.size := by
  have t1 : (w.alloc (.cells #[.int .i64 0, .int .i64 0, .int .i64 0] 48)).there w.heap.size 0 3 := there_newg rfl rfl
  refine ⟨_, rfl, ?_, ?_, ?_, t1⟩
  · exact World.rangeAt_setCells_same _ _ _ _ t1
  · exact below_setCells _ _ _ _ ((Below.refl _ _).alloc (Nat.le_refl _) _) (Nat.le_refl _)
  · rw [size_setCells]; simp
theorem compareM (p q : Mm) (hp : okM p) (hq : okM q) (w : World) :
    Calls Try.prog 20 #[.agg (mmC p).toArray, .agg (mmC q).toArray] w fun e w' => e = .returned (.int .i64 (cmM p q)) ∧ Below w.heap.size w w' :=
  compareMoves_any p.1 p.2.1 p.2.2 q.1 q.2.1 q.2.2 hp hq w

set_option maxRecDepth 100000 in
set_option maxHeartbeats 8000000 in
theorem leastM_any (A : Option Addr) (xs : List Mm) (c : Nat) (w : World) (hn : xs.length ≤ 1000) (hok : ∀ p ∈ xs, okM p) (hA : MmAt w w.heap.size A xs) :
    Calls Try.prog 19 #[.slice A xs.length c, .func (.func 20) #[] #[]] w fun e w' => e = .returned (.agg (mmC (msA (msO xs))).toArray) ∧ Below w.heap.size w w' := by
  have HX := hide hA
  have HTA : Hid (xs.take xs.length = xs) := hide List.take_length
  have HOK := hide hok
  have HMO := hide (fun k q (h : msO (xs.take k) = some q) => ms_ok (fun p hp => hok p (List.mem_of_mem_take hp)) h)
  have HTK0 := hide (fun k p (h : xs[k]? = some p) => msO_take h)
  obtain ⟨n, hL⟩ : ∃ n, xs.length = n := ⟨_, rfl⟩
  have HL := hide hL
  rw [hL] at hn HTA ⊢
  clear hL hA hok
  go_enter Try.func19, Try.ntmps19
  go_wp2
  go_loopw [10] (fun i wr => ∃ k : Nat, k ≤ n ∧ i = .int .i64 k ∧ Below w.heap.size w wr ∧ wr.there w.heap.size 0 3 ∧ wr.there (w.heap.size + 1) 0 3 ∧ wr.rangeAt (w.heap.size + 1) 0 (mmC (msA (msO (xs.take k)))))
    (fun i _ => n - (intOf i).toNat)
  case atStart =>
    refine ⟨0, by omega, rfl, ((Below.refl _ _).alloc (Nat.le_refl _) _).alloc (by simp) _, World.there_alloc (there_newg rfl rfl) _, there_newg (by simp) rfl, ?_⟩
    exact rangeAt_newg (l := [.int .i64 0, .int .i64 0, .int .i64 0]) (by simp) rfl
  case round =>
    obtain ⟨k, hk, rfl, hB, ht1, ht2, hbest⟩ := hrel
    have hbs := hB.size
    by_cases hlt : k < n
    · obtain ⟨p, hq⟩ : ∃ q, xs[k]? = some q := ⟨xs[k]'(by rw [HL.out]; exact hlt), List.getElem?_eq_getElem _⟩
      obtain ⟨b, o, rfl, hb, hrow⟩ := HX.out (by intro e; rw [e] at hq; simp at hq)
      have hr := rangeAt_below (hrow k _ hq) hB hb
      have hi : (k : Int) < n := by omega
      have h0 : (0 : Int) ≤ k := by omega
      have HTK := hide (HTK0.out k _ hq)
      have HPO := hide (HOK.out _ (List.mem_of_getElem? hq))
      have HLS := hide (fun h => ms_some (xs.take k) h)
      have HTL : Hid (k ≠ 0 → xs.take k ≠ []) := hide (fun hk0 e => by
        have := congrArg List.length e
        rw [List.length_take, HL.out] at this
        simp at this; omega)
      have HMK := hide (HMO.out k)
      have ht2lt : w.heap.size + 1 < wr.heap.size := World.block_lt_of_cell? (a := ⟨w.heap.size + 1, 0, none⟩) _ (hbest 0 _ rfl)
      obtain ⟨W7, hW7, r7, b7, s7, t70⟩ := stored_mm wr p
      have HW7 := hide hW7
      have hB7 := hB.trans (b7.mono hbs)
      have t1 := there_below ht1 b7 (by omega)
      have t2 := there_below ht2 b7 ht2lt
      have hbest7 := rangeAt_below hbest b7 ht2lt
      clear hW7 hrow
      by_cases hk0 : k = 0
      · have hk1 : ((k : Int) == 0) = true := by simp [hk0]
        have HE : Hid (msO (xs.take (k + 1)) = some p) := hide (by rw [HTK.out, hk0]; rfl)
        clear hbest7 hbest hk0
        go_wp2_with (first
          | (refine wpList_load_mid rfl 48 (.tmp 13) rfl b (o + k * 3) rfl (mmC p) _ hr Try.underlying48 rfl (mmC_info' p) ?_)
          | (refine wpList_store_mid rfl 48 (.tmp 7) (.tmp 14) rfl wr.heap.size 0 (mmC p).toArray rfl rfl t70 (mmC_info p) (mmC_one p) ?_; rw [← HW7.out])
          | (refine wpList_load_mid rfl 48 (.tmp 7) rfl wr.heap.size 0 rfl (mmC p) _ r7 Try.underlying48 rfl (mmC_info' p) ?_)
          | (refine wpList_store_mid rfl 48 (.tmp 5) (.tmp 24) rfl (w.heap.size + 1) 0 (mmC p).toArray rfl rfl t2 (mmC_info p) (mmC_one p) ?_))
        refine ⟨⟨k + 1, by omega, by go_num, below_setCells _ _ _ _ hB7 (by omega), World.there_setCells t1 _ _ _, World.there_setCells t2 _ _ _, ?_⟩, by simp [intOf]; omega⟩
        rw [HE.out]; exact World.rangeAt_setCells_same _ _ _ _ t2
      · have hk1 : ((k : Int) == 0) = false := by simpa using hk0
        obtain ⟨q, hq1⟩ := HLS.out (HTL.out hk0)
        have HQO := hide (HMK.out q hq1)
        rw [hq1] at hbest7 HTK
        change W7.rangeAt (w.heap.size + 1) 0 (mmC q) at hbest7
        have HCM := hide (compareM p q HPO.out HQO.out)
        have HKY := hide (cmM_key HPO.out HQO.out)
        clear hk0 hq1 hbest
        generalize cmM p q = CM at *
        go_wp2_with (first
          | (refine wpList_load_mid rfl 48 (.tmp 13) rfl b (o + k * 3) rfl (mmC p) _ hr Try.underlying48 rfl (mmC_info' p) ?_)
          | (refine wpList_store_mid rfl 48 (.tmp 7) (.tmp 14) rfl wr.heap.size 0 (mmC p).toArray rfl rfl t70 (mmC_info p) (mmC_one p) ?_; rw [← HW7.out])
          | (refine wpList_load_mid_g rfl 48 (.tmp 7) rfl wr.heap.size 0 rfl (mmC p) _ r7 Try.underlying48 rfl (mmC_info' p) ?_)
          | (refine wpList_load_mid_g rfl 48 (.tmp 5) rfl (w.heap.size + 1) 0 rfl (mmC q) _ hbest7 Try.underlying48 rfl (mmC_info' q) ?_))
        refine (HCM.out _).mono ?_
        rintro e w1 ⟨rfl, hb1⟩
        have r1 := rangeAt_below r7 hb1 s7
        have t1 := there_below t1 hb1 (by omega)
        have t2 := there_below t2 hb1 (by omega)
        have hbest1 := rangeAt_below hbest7 hb1 (by omega)
        have hB1 := hB7.trans (hb1.mono hB7.size)
        clear hb1 hbest7 r7
        by_cases hlt2 : CM < 0
        · have HE : Hid (msO (xs.take (k + 1)) = some p) := hide (HTK.out.trans (by show (if kyM p < kyM q then _ else _) = _; rw [if_pos (HKY.out.1 hlt2)]))
          have hd : decide (CM < 0) = true := by simpa using hlt2
          clear hlt2
          go_wp2_with (first
            | (refine wpList_load_mid rfl 48 (.tmp 7) rfl wr.heap.size 0 rfl (mmC p) _ r1 Try.underlying48 rfl (mmC_info' p) ?_)
            | (refine wpList_store_mid rfl 48 (.tmp 5) (.tmp 24) rfl (w.heap.size + 1) 0 (mmC p).toArray rfl rfl t2 (mmC_info p) (mmC_one p) ?_))
          refine ⟨⟨k + 1, by omega, by go_num, below_setCells _ _ _ _ hB1 (by omega), World.there_setCells t1 _ _ _, World.there_setCells t2 _ _ _, ?_⟩, by simp [intOf]; omega⟩
          rw [HE.out]; exact World.rangeAt_setCells_same _ _ _ _ t2
        · have HE : Hid (msO (xs.take (k + 1)) = some q) := hide (HTK.out.trans (by show (if kyM p < kyM q then _ else _) = _; rw [if_neg (fun h => hlt2 (HKY.out.2 h))]))
          have hd : decide (CM < 0) = false := by simpa using hlt2
          clear hlt2
          go_wp2
          refine ⟨⟨k + 1, by omega, by go_num, hB1, t1, t2, ?_⟩, by simp [intOf]; omega⟩
          rw [HE.out]; exact hbest1
    · obtain rfl : k = n := by omega
      rw [HTA.out] at hbest
      generalize hV : msA (msO xs) = V at *
      have HVV := hide hV
      clear hV
      go_wp2_with (first
        | (refine wpList_load_mid rfl 48 (.tmp 5) rfl (w.heap.size + 1) 0 rfl (mmC V) _ hbest Try.underlying48 rfl (mmC_info' V) ?_)
        | (refine wpList_store_mid rfl 48 (.tmp 4) (.tmp 26) rfl w.heap.size 0 (mmC V).toArray rfl rfl ht1 (mmC_info V) (mmC_one V) ?_))
      exact bodyPost_ret (results_mid rfl _ _ w.heap.size 0 (mmC V) _ rfl (World.rangeAt_setCells_same _ _ _ _ ht1) Try.underlying48 rfl (mmC_info' V)) rfl ⟨by rw [HVV.out], below_setCells _ _ _ _ hB (Nat.le_refl _)⟩
end Go.Proofs.Ytjmkbdghenjlaaa
