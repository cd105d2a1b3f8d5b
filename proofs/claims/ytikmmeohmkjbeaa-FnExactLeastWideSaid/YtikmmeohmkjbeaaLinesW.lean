/- What is left in each line, and whether breaks are right: the program's. -/
import Derived.Test.YtikmmeohmkjbeaaBreaksW
namespace Go.Proofs.Ytikmmeohmkjbeaa
open Go Go.RowKit

set_option maxRecDepth 100000 in
set_option maxHeartbeats 4000000 in
theorem cutAt_zero (A : Option Addr) (c : Nat) (B : Option Addr) (cb : Nat) (w : World) :
    Calls Try.prog 153 #[.slice A 0 c, .slice B 0 cb] w fun e w' => ∃ A' c' Ap cp, e = .returned (.slice A' 1 c') ∧ CellsIn w' w.heap.size A' [.slice Ap 0 cp] ∧ Below w.heap.size w w' := by
  obtain ⟨i0, hi0, hz0, hz1, hz2⟩ := info_parts Try.infoSpans
  go_enter Try.func153, Try.ntmps153
  go_wp2_with (refine wpList_make_own _ rfl _ _ 188 rfl w.heap.size 111 i0 (.slice none 0 0) 1 Try.underlying188 hi0 hz0 hz1 .i64 .i64 _ 1 rfl rfl (by omega) (by rw [hz2]; omega) (by unfold maxLen; omega) (Nat.le_refl _) ?_; intro w1 hown1 hg1)
  have hB1 : Below w.heap.size w w1 := grown_toBelow hg1 (Nat.le_refl _) (fun k hk => by cases hk)
  have HO1 := hide hown1
  have hbs := hB1.size
  clear hown1 hg1
  go_loop [5, 6, 15] (fun cut f i => cut = .slice (some ⟨w.heap.size, 0, none⟩) 0 1 ∧ i = .int .i64 0 ∧ f = .int .i64 0) (fun _ _ _ => 0)
  case atStart => exact ⟨rfl, rfl, rfl⟩
  case round =>
    obtain ⟨rfl, rfl, rfl⟩ := hrel
    cases A with
    | none =>
      go_wp2_with (at_builtin; refine wpList_append_own _ rfl (.tmp 28) (.tmp 32) 188 rfl w.heap.size 111 i0 (.slice none 0 0) 1 24 Try.underlying188 hi0 hz0 hz1 hz2 rfl (by decide) _ 0 _ rfl (HO1.out.alloc _) ⟨w1.heap.size, 0, none⟩ 1 1 [.slice none 0 c] rfl rfl (one_cell _) (one_one rfl) (by unfold maxLen; omega) (by omega) (by simp; omega) ?_)
      intro v' w4 hown4 hg4 _
      obtain ⟨A4, c4, rfl, _, hI⟩ := cellsIn_of_own hown4 (by omega)
      have HI := hide hI
      have hg34 : w1.grownBy w4 _ := grown_trans (World.grownBy_alloc w1 _ _) hg4
      have hB4 := hB1.trans (grown_toBelow hg34 (by omega) (fun k hk => (HO1.out.lt k hk).1))
      clear hown4 hg4 hg34 hI
      go_wp2
      go_ret
      exact ⟨A4, c4, _, c, rfl, HI.out, hB4⟩
    | some p =>
      go_wp2_with (at_builtin; refine wpList_append_own _ rfl (.tmp 28) (.tmp 32) 188 rfl w.heap.size 111 i0 (.slice none 0 0) 1 24 Try.underlying188 hi0 hz0 hz1 hz2 rfl (by decide) _ 0 _ rfl (HO1.out.alloc _) ⟨w1.heap.size, 0, none⟩ 1 1 [.slice (some p) 0 c] rfl rfl (one_cell _) (one_one rfl) (by unfold maxLen; omega) (by omega) (by simp; omega) ?_)
      intro v' w4 hown4 hg4 _
      obtain ⟨A4, c4, rfl, _, hI⟩ := cellsIn_of_own hown4 (by omega)
      have HI := hide hI
      have hg34 : w1.grownBy w4 _ := grown_trans (World.grownBy_alloc w1 _ _) hg4
      have hB4 := hB1.trans (grown_toBelow hg34 (by omega) (fun k hk => (HO1.out.lt k hk).1))
      clear hown4 hg4 hg34 hI
      go_wp2
      go_ret
      exact ⟨A4, c4, _, c, rfl, HI.out, hB4⟩

theorem room_bds {F : Fc} {n : Nat} {f k : Nat} {ws : List (List UInt8)} (hpb : ∀ k, k ≤ n → 0 ≤ preL F ws k ∧ preL F ws k ≤ 3640 * (k : Int)) (hmem : ∀ k, k < n → 0 ≤ wideL F (ws.getD k []) ∧ wideL F (ws.getD k []) ≤ 3600) (hn : n ≤ 61) (h : f < k) (hk : k ≤ n) :
    (0 ≤ preL F ws f ∧ preL F ws f ≤ 222040) ∧ (0 ≤ preL F ws (k - 1) + wideL F (ws.getD (k - 1) []) ∧ preL F ws (k - 1) + wideL F (ws.getD (k - 1) []) ≤ 229640) := by
  have h1 := hpb f (by omega)
  have h2 := hpb (k - 1) (by omega)
  have h3 := hmem (k - 1) (by omega)
  omega

/-- The lines, whether there are words or none. -/
def LinesCut (F : Fc) (ws : List (List UInt8)) (bs : List Int) (w : World) : Ending → World → Prop := fun e w' =>
  ∃ A2 c2 vs, e = .returned (.slice A2 (bs.length + 1) c2) ∧ CellsIn w' w.heap.size A2 vs ∧ (∀ k, k ≤ bs.length → ∃ Ak ck, vs[k]? = some (.slice Ak (enL ws.length bs k - stL bs k) ck) ∧ ∀ wr, Below w.heap.size w wr → EndsAt wr Ak (enL ws.length bs k - stL bs k) (preL F ws (stL bs k)) (preL F ws (enL ws.length bs k - 1) + wideL F (ws.getD (enL ws.length bs k - 1) []))) ∧ Below w.heap.size w w'
theorem told_len {n : Nat} {bs : List Int} (h : toldP n bs) : bs.length ≤ n := by
  have key : ∀ i, i < bs.length → (i : Int) + 1 ≤ bs.getD i 0 := by
    intro i
    induction i with
    | zero => intro hi; have := (h 0 hi).1; omega
    | succ i ih =>
      intro hi
      have h1 := ih (by omega)
      have h2 := (h (i + 1) hi).2.2 (by omega)
      simp only [Nat.add_sub_cancel] at h2
      omega
  rcases Nat.eq_zero_or_pos bs.length with e | e
  · omega
  · have h1 := key (bs.length - 1) (by omega)
    have h2 := (h (bs.length - 1) (by omega)).2.1
    omega
theorem cutAt_both (F : Fc) (ws : List (List UInt8)) (A' : Option Addr) (c' : Nat) (B : Option Addr) (bs : List Int) (cb : Nat) (w : World) (hn : ws.length ≤ 61) (hc' : ws.length ≤ c') (ht : toldP ws.length bs) (hS : CellsAt w w.heap.size A' (spanFrom F 0 ws)) (hB : IntsAt w w.heap.size B bs) :
    Calls Try.prog 153 #[.slice A' ws.length c', .slice B bs.length cb] w (LinesCut F ws bs w) := by
  have hl := told_len ht
  rcases Nat.eq_zero_or_pos ws.length with h0 | h0
  · have hb0 : bs.length = 0 := by omega
    rw [h0, hb0]
    refine (cutAt_zero A' c' B cb w).mono fun e w' ⟨A2, c2, Ap, cp, he, hI, hb⟩ => ⟨A2, c2, _, by rw [hb0]; exact he, hI, fun k hk => ?_, hb⟩
    have hk0 : k = 0 := by omega
    subst hk0
    have e1 : enL ws.length bs 0 - stL bs 0 = 0 := by unfold enL stL; rw [if_neg (by omega), if_pos rfl, h0]
    rw [e1]
    exact ⟨Ap, cp, rfl, fun wr _ h => (h rfl).elim⟩
  · obtain ⟨b, o, rfl, _⟩ := hS (by intro e; have := congrArg List.length e; rw [spanFrom_len] at this; simp at this; omega)
    refine (cutAt_any b o c' ws.length B bs cb w hn h0 hc' ht hl hB).mono fun e w' ⟨A2, c2, he, hI, hb⟩ => ⟨A2, c2, _, he, hI, fun k hk => ?_, hb⟩
    obtain ⟨q1, q2, q3⟩ := told_ends ht k hk
    refine ⟨_, _, pieces_get _ _ _ _ _ (by omega), fun wr hwr => ends_seg ((hS.below hwr)) (q3 h0) q2⟩

theorem roomAt_room (F : Fc) (ws : List (List UInt8)) (x : Int) {bs : List Int} (ht : toldP ws.length bs) {k : Nat} (hk : k ≤ bs.length) :
    room x (preL F ws (stL bs k)) (preL F ws (enL ws.length bs k - 1) + wideL F (ws.getD (enL ws.length bs k - 1) [])) (enL ws.length bs k - stL bs k) = roomAt F ws x bs k := by
  obtain ⟨q1, q2, q3⟩ := told_ends ht k hk
  unfold roomAt
  rcases Nat.eq_zero_or_pos ws.length with h0 | h0
  · have e1 : enL ws.length bs k - stL bs k = 0 := by omega
    rw [e1]; unfold room roomL; rw [if_pos rfl, lineL_seg_le F ws (by omega)]; omega
  · exact room_seg F ws x (q3 h0) q2
def roomsTo (F : Fc) (ws : List (List UInt8)) (x : Int) (bs : List Int) (k : Nat) : List Int := (List.range k).map (roomAt F ws x bs)
theorem roomsTo_succ (F : Fc) (ws : List (List UInt8)) (x : Int) (bs : List Int) (k : Nat) : roomsTo F ws x bs (k + 1) = roomsTo F ws x bs k ++ [roomAt F ws x bs k] := by simp [roomsTo, List.range_succ]
theorem roomsTo_len (F : Fc) (ws : List (List UInt8)) (x : Int) (bs : List Int) (k : Nat) : (roomsTo F ws x bs k).length = k := by simp [roomsTo]
theorem room_zero (x y z : Int) : room x y z 0 = x := by unfold room; rw [if_pos rfl]

/-- Numbers come back, in memory of the call's own, with room for them. -/
def IntsRetC (xs : List Int) (w : World) : Ending → World → Prop := fun e w' =>
  ∃ A c, e = .returned (.slice A xs.length c) ∧ xs.length ≤ c ∧ IntsIn w' w.heap.size A xs ∧ Below w.heap.size w w'
def IntsBackC (xs : List Int) (code : Int) (w : World) : Ending → World → Prop := fun e w' =>
  ∃ A c, e = .returned (.tuple #[.slice A xs.length c, .int .i64 code]) ∧ xs.length ≤ c ∧ IntsIn w' w.heap.size A xs ∧ Below w.heap.size w w'

set_option maxRecDepth 100000 in
set_option maxHeartbeats 4000000 in
theorem linesAt_any (F : Fc) (ws : List (List UInt8)) (A' : Option Addr) (c' : Nat) (x : Int) (B : Option Addr) (bs : List Int) (cb : Nat) (w : World) (x0 : 0 ≤ x) (x1 : x ≤ 4000) (hn : ws.length ≤ 61) (hc' : ws.length ≤ c') (ht : toldP ws.length bs)
    (hpb : ∀ k, k ≤ ws.length → 0 ≤ preL F ws k ∧ preL F ws k ≤ 3640 * (k : Int)) (hmem : ∀ k, k < ws.length → 0 ≤ wideL F (ws.getD k []) ∧ wideL F (ws.getD k []) ≤ 3600) (hS : CellsAt w w.heap.size A' (spanFrom F 0 ws)) (hB : IntsAt w w.heap.size B bs) :
    Calls Try.prog 101 #[.slice A' ws.length c', .int .i64 x, .slice B bs.length cb] w (IntsRetC (roomsL F ws x bs) w) := by
  obtain ⟨i0, hi0, hz0, hz1, hz2⟩ := info_parts Try.infoI64
  have hl := told_len ht
  have HCU := hide (cutAt_both F ws A' c' B bs cb w hn hc' ht hS hB)
  have HEN := hide (told_ends ht)
  have HRA := hide (fun k hk => roomAt_room F ws x (bs := bs) ht (k := k) hk)
  have HBDS := hide (fun f k (h : f < k) hk => room_bds (F := F) (n := ws.length) (ws := ws) hpb hmem hn h hk)
  have HRL := hide (show roomsL F ws x bs = roomsTo F ws x bs (bs.length + 1) from rfl)
  obtain ⟨m, hm⟩ : ∃ m, bs.length = m := ⟨_, rfl⟩
  rw [hm] at hl HEN HRA HRL
  have HM := hide hm
  rw [hm] at HCU ⊢
  clear hm ht hpb hmem hS hB hc'
  go_enter Try.func101, Try.ntmps101
  go_wp2_with fail
  refine HCU.out.mono ?_
  rintro e w1 ⟨A2, c2, vs, rfl, hI, hpc, hb1⟩
  rw [HM.out] at hpc ⊢
  have HIA := hide hI.at_
  have HPC := hide hpc
  have hbs1 := hb1.size
  clear hI hpc HCU
  go_wp2
  go_loopw [7, 14] (fun br i wr => ∃ k : Nat, k ≤ m + 1 ∧ i = .int .i64 k ∧ wr.ownsRow w1.heap.size 2 1 br k ((roomsTo F ws x bs k).map (.int .i64)) ∧ Below w1.heap.size w1 wr)
    (fun _ i _ => (m + 1) - (intOf i).toNat)
  case atStart => exact ⟨0, by omega, rfl, World.ownsRow_nil _ _ _ _, Below.refl _ _⟩
  case round =>
    obtain ⟨k, hk, rfl, hown, hB'⟩ := hrel
    obtain ⟨Ab, cbb, rfl, hcap, _⟩ := cellsIn_of_own hown (by omega)
    have hbs2 := hB'.size
    by_cases hlt : k < m + 1
    · have hi : (k : Int) < ((m + 1 : Nat) : Int) := by omega
      have h00 : (0 : Int) ≤ k := by omega
      obtain ⟨q1, q2, q3⟩ := HEN.out k (by omega)
      obtain ⟨Ak, ck, hvk, hends⟩ := HPC.out k (by omega)
      obtain ⟨b2, o2, rfl, hb2, hcs⟩ := HIA.out (by intro e; rw [e] at hvk; simp at hvk)
      have cck := (hB'.cell (p := ⟨b2, o2 + k, none⟩) hb2).trans (hcs k _ hvk)
      have HOWN := hide hown
      have HPS := hide (roomsTo_succ F ws x bs k)
      have HRT := hide (fun (y z : Int) (hy : 0 ≤ y ∧ y ≤ 222040) (hz : 0 ≤ z ∧ z ≤ 229640) (h : EndsAt wr Ak (enL ws.length bs k - stL bs k) y z) => roomBeside_any Ak (enL ws.length bs k - stL bs k) ck x y z wr (by omega) ⟨x0, x1⟩ hy hz h)
      have HRB : Hid (Calls Try.prog 154 #[.slice Ak (enL ws.length bs k - stL bs k) ck, .int .i64 x] wr fun e w' => e = .returned (.int .i64 (roomAt F ws x bs k)) ∧ Below wr.heap.size wr w') := by
        have hE := hends wr (hb1.trans (hB'.mono hbs1))
        by_cases h0 : enL ws.length bs k - stL bs k = 0
        · have h1 := HRT.out 0 0 (by omega) (by omega) (fun h => absurd h0 h)
          have h2 := HRA.out k (by omega)
          rw [h0, room_zero] at h1 h2
          rw [h0, ← h2]
          exact h1
        · obtain ⟨d1, d2⟩ := HBDS.out (stL bs k) (enL ws.length bs k) (by omega) q2
          have h1 := HRT.out _ _ d1 d2 hE
          rw [HRA.out k (by omega)] at h1
          exact h1
      clear hown hcs hvk hends HRT q1 q2 q3
      generalize roomAt F ws x bs k = R at *
      generalize enL ws.length bs k - stL bs k = g at *
      go_wp2_with fail
      refine HRB.out.mono ?_
      rintro e w3 ⟨rfl, hb3⟩
      have hs3 := hb3.size
      have hown3 := own_go HOWN.out hb3
      have hB3 := hB'.trans (hb3.mono hB'.size)
      go_wp2_with (at_builtin; refine wpList_append_own _ rfl (.tmp 18) (.tmp 22) 88 rfl w1.heap.size 2 i0 (.int .i64 0) 1 8 Try.underlying88 hi0 hz0 hz1 hz2 rfl (by decide) _ k _ rfl (hown3.alloc _) ⟨w3.heap.size, 0, none⟩ 1 1 [.int .i64 R] rfl rfl (one_cell _) (one_one rfl) (by unfold maxLen; omega) (by omega) (by simp; omega) ?_)
      intro v' w4 hown4 hg4 _
      obtain ⟨A4, c4, rfl, _, _⟩ := cellsIn_of_own hown4 (by omega)
      have H4 := hide hown4
      have hg34 : w3.grownBy w4 _ := grown_trans (World.grownBy_alloc w3 _ _) hg4
      have hB4 := hB3.trans (grown_toBelow hg34 (by omega) (fun k hk => (hown3.lt k hk).1))
      clear hown4 hg4 hg34 hown3 hb3
      go_wp2
      refine ⟨⟨k + 1, by omega, by go_num, ?_, hB4⟩, by simp [intOf]; omega⟩
      rw [HPS.out, List.map_append]
      exact H4.out
    · obtain rfl : k = m + 1 := by omega
      obtain ⟨Ag, cg, e, _, hI⟩ := intsIn_of_own hown
      injection e with e1 e2 e3
      subst e1 e3
      have HI := hide hI
      clear hown hI
      go_wp2
      go_ret
      exact ⟨Ab, cbb, ret_slice (by rw [HRL.out, roomsTo_len]), by rw [HRL.out, roomsTo_len]; exact hcap, by rw [HRL.out]; exact IntsIn.wider HI.out hbs1, hb1.trans (hB'.mono hbs1)⟩
end Go.Proofs.Ytikmmeohmkjbeaa
