/- Lists of lists of numbers: all their numbers together, copies that lie apart, marks. -/
import Derived.Test.YtjmkbdghenjlaaaDoorHnA
namespace Go.Proofs.YtjmkbdghenjlaaaDoor
open Go Go.RowKit

def totL (ls : List Iss) : Nat := (ls.map (fun l => l.2.1.length)).sum
theorem totL_take {ls : List Iss} {k : Nat} {l : Iss} (h : ls[k]? = some l) : totL (ls.take (k + 1)) = totL (ls.take k) + l.2.1.length := by
  unfold totL
  rw [List.take_add_one, h]
  simp
theorem totL_le (ls : List Iss) (k : Nat) : totL (ls.take k) ≤ totL ls := by
  unfold totL
  have h := congrArg (fun l => (l.map (fun l : Iss => l.2.1.length)).sum) (List.take_append_drop k ls)
  simp only [List.map_append, List.sum_append] at h
  omega
theorem totL_iss {ls ls' : List Iss} (h : issD ls' = issD ls) : totL ls' = totL ls := by
  have e : ∀ l : List Iss, totL l = ((issD l).map List.length).sum := fun l => by unfold totL issD; rw [List.map_map]; rfl
  rw [e, e, h]

set_option maxRecDepth 100000 in
set_option maxHeartbeats 4000000 in
theorem szInt64SS_tot (A : Option Addr) (ls : List Iss) (c : Nat) (w : World) (hn : ls.length ≤ maxLen) (hl : IssOk w ls) (hA : IssAt w w.heap.size A ls) :
    Calls Tryd.prog 18 #[.slice A ls.length c, .int .i64 1048576] w fun e w' => (∃ z : Int, e = .returned (.int .i64 z) ∧ (0 ≤ z → shortI ls.length ls ∧ totL ls ≤ 1048576)) ∧ w = w' := by
  unfold maxLen at hn
  have HSZ := hide (fun (l : Iss) (h : l ∈ ls) z (h0 : -1 ≤ z) (h1 : z ≤ 1048576) => szInt64S_any l.1 l.2.1.length l.2.2 z w h0 h1 (hl l h).1)
  have HTT := hide (fun k l (h : ls[k]? = some l) => totL_take h)
  have HTA : Hid (ls.take ls.length = ls) := hide List.take_length
  have HA := hide hA
  obtain ⟨n, hN⟩ : ∃ n, ls.length = n := ⟨_, rfl⟩
  have HN := hide hN
  rw [hN] at hn HTA ⊢
  clear hN hA hl
  by_cases hbig : 1048576 < n
  · have hw := IntWalk.i64_in ((1048576 : Int) - n) ⟨by omega, by omega⟩
    have hd : decide ((1048576 : Int) - n < 0) = true := by simp; omega
    go_enter Tryd.func18, Tryd.ntmps18
    go_wp2
    go_ret
    exact ⟨⟨-1, rfl, fun h => absurd h (by decide)⟩, rfl⟩
  · have hw := IntWalk.i64_in ((1048576 : Int) - n) ⟨by omega, by omega⟩
    have hd : decide ((1048576 : Int) - n < 0) = false := by simp; omega
    go_enter Tryd.func18, Tryd.ntmps18
    go_wp2
    go_loop [1, 5] (fun v i => ∃ (k : Nat) (z : Int), k ≤ n ∧ i = .int .i64 k ∧ v = .int .i64 z ∧ 0 ≤ z ∧ z ≤ 1048576 ∧ Hid (z + totL (ls.take k) ≤ 1048576) ∧ Hid (∀ (j : Nat) (l : Iss), j < k → ls[j]? = some l → l.2.1.length ≤ 1048576)) (fun _ i => n - (intOf i).toNat)
    case atStart => exact ⟨0, _, Nat.zero_le _, rfl, rfl, by omega, by omega, hide (by rw [List.take_zero]; show _ + ((0 : Nat) : Int) ≤ _; omega), hide (fun j l h => by omega)⟩
    case round =>
      obtain ⟨k, z, hk, rfl, rfl, z0, z1, HZT, HALL⟩ := hrel
      by_cases hlt : k < n
      · obtain ⟨b, o, rfl, hb, hxs⟩ := HA.out (by intro e; rw [e] at HN; have := HN.out; simp at this; omega)
        obtain ⟨l, hlk⟩ : ∃ l, ls[k]? = some l := ⟨ls[k]'(by rw [HN.out]; exact hlt), List.getElem?_eq_getElem _⟩
        have hc := hxs k l hlk
        have HC := hide (HSZ.out l (List.mem_of_getElem? hlk) z (by omega) z1)
        have HX := hide hlk
        have hi : (k : Int) < n := by omega
        have h0 : (0 : Int) ≤ k := by omega
        clear hxs hlk
        by_cases hneg : szL z l.2.1.length < 0
        · have hd2 : decide (szL z l.2.1.length < 0) = true := by simpa using hneg
          clear hneg
          generalize szL z l.2.1.length = q at *
          go_wp2_with fail
          refine HC.out.mono ?_
          rintro e w' ⟨rfl, rfl⟩
          go_wp2
          go_ret
          exact ⟨⟨-1, rfl, fun h => absurd h (by decide)⟩, rfl⟩
        · have hd2 : decide (szL z l.2.1.length < 0) = false := by simpa using hneg
          have hq : 0 ≤ szL z l.2.1.length ∧ szL z l.2.1.length ≤ 1048576 ∧ l.2.1.length ≤ 1048576 ∧ szL z l.2.1.length = z - l.2.1.length := by unfold szL at hneg ⊢; split at hneg <;> split <;> omega
          obtain ⟨q0, q1, q2, q3⟩ := hq
          have HZ2 : Hid (szL z l.2.1.length + totL (ls.take (k + 1)) ≤ 1048576) := hide (by rw [HTT.out k l HX.out, q3]; have := HZT.out; omega)
          have HN2 : Hid (∀ (j : Nat) (l : Iss), j < k + 1 → ls[j]? = some l → l.2.1.length ≤ 1048576) := hide (fun j y hj hy => by
            by_cases e : j = k
            · subst e; rw [HX.out] at hy; injection hy with hy; subst hy; exact q2
            · exact HALL.out j y (by omega) hy)
          clear hneg q2 q3
          generalize szL z l.2.1.length = q at *
          go_wp2_with fail
          refine HC.out.mono ?_
          rintro e w' ⟨rfl, rfl⟩
          go_wp2
          exact ⟨⟨k + 1, q, by omega, by go_num, rfl, q0, q1, HZ2, HN2⟩, by simp [intOf]; omega⟩
      · obtain rfl : k = n := by omega
        go_wp2
        go_ret
        refine ⟨⟨z, rfl, fun _ => ⟨⟨by omega, fun l hl => ?_⟩, by have := HZT.out; rw [HTA.out] at this; omega⟩⟩, rfl⟩
        obtain ⟨j, hj⟩ := List.getElem?_of_mem hl
        exact HALL.out j l (by have := (List.getElem?_eq_some_iff.1 hj).1; have := HN.out; omega) hj

/-- A copy of lists: the list of them in one block, each of them in a block of its own behind it. -/
def IssAp (w : World) (O : Nat) (A' : Option Addr) (ls ls' : List Iss) : Prop :=
  ls'.length = ls.length ∧ issD ls' = issD ls ∧ IssAt w (O + 1) A' ls' ∧ (∀ l ∈ ls', IntsIn w (O + 1) l.1 l.2.1) ∧ O < w.heap.size ∧ ls'.Pairwise (fun l l' => ∀ b, blkI l.1 l.2.1 = some b → blkI l'.1 l'.2.1 ≠ some b)
theorem IssAp.cp {w : World} {O : Nat} {A' : Option Addr} {ls ls' : List Iss} (h : IssAp w O A' ls ls') : IssCp w O A' ls ls' :=
  ⟨h.1, h.2.1, fun hn => by obtain ⟨b, o, e, hb, hx⟩ := h.2.2.1 hn; exact ⟨b, o, e, by have := h.2.2.2.2.1; omega, hx⟩, fun l hl => (h.2.2.2.1 l hl).wider (by omega)⟩
theorem IssAp.go {w w' : World} {O : Nat} {A' : Option Addr} {ls ls' : List Iss} (h : IssAp w O A' ls ls') (hb : Below w.heap.size w w') : IssAp w' O A' ls ls' :=
  ⟨h.1, h.2.1, h.2.2.1.below (hb.mono h.2.2.2.2.1), fun l hl => (h.2.2.2.1 l hl).go hb, Nat.lt_of_lt_of_le h.2.2.2.2.1 hb.size, h.2.2.2.2.2⟩

set_option maxRecDepth 100000 in
set_option maxHeartbeats 8000000 in
theorem toInt64SS_ap (A : Option Addr) (ls : List Iss) (c : Nat) (w : World) (hs : shortI ls.length ls) (hl : IssOk w ls) (hA : IssAt w w.heap.size A ls) :
    Calls Tryd.prog 20 #[.slice A ls.length c] w fun e w' => ∃ A' ls', e = .returned (.slice A' ls.length ls.length) ∧ IssAp w' w.heap.size A' ls ls' ∧ Below w.heap.size w w' := by
  have hn := hs.1
  obtain ⟨i0, hi0, hz0, hz1, hz2⟩ := info_parts Tryd.infoI64S
  have hmk := fun W => run_make_rowN (P := Tryd.prog) 38 39 i0 _ Tryd.underlying38 hi0 hz0 .i64 .i64 ls.length ls.length (Nat.le_refl _) (by rw [hz2]; omega) (by omega) W
  have HT := hide (fun l (h : l ∈ ls) W (hA : IntsAt W W.heap.size l.1 l.2.1) => toInt64S_any l.1 l.2.1 l.2.2 W hA (hs.2 l h))
  have HOK := hide hl
  have HA := hide hA
  obtain ⟨n, hN⟩ : ∃ n, ls.length = n := ⟨_, rfl⟩
  have HL := hide hN
  have HTA : Hid (ls.take n = ls) := hide (by rw [← hN]; exact List.take_length)
  rw [hN] at hn hmk ⊢
  clear hN hA hl hs
  go_enter Tryd.func20, Tryd.ntmps20
  go_wp2
  go_loopw [4] (fun i wr => ∃ (k : Nat) (ls' : List Iss), k ≤ n ∧ i = .int .i64 k ∧ Below w.heap.size w wr ∧ w.heap.size < wr.heap.size ∧ wr.there w.heap.size 0 n ∧ Hid (issD ls' = issD (ls.take k) ∧ ls'.length = k ∧ (∀ j l, ls'[j]? = some l → wr.cell? ⟨w.heap.size, j, none⟩ = some (.slice l.1 l.2.1.length l.2.2)) ∧ (∀ l ∈ ls', IntsIn wr (w.heap.size + 1) l.1 l.2.1) ∧ ls'.Pairwise (fun l l' => ∀ b, blkI l.1 l.2.1 = some b → blkI l'.1 l'.2.1 ≠ some b)))
    (fun i _ => n - (intOf i).toNat)
  case atStart =>
    refine ⟨0, [], by omega, rfl, (Below.refl _ _).alloc (Nat.le_refl _) _, by simp, there_newg rfl (by simp [madeCells]), hide ⟨by simp [issD], rfl, by simp, by simp, .nil⟩⟩
  case round =>
    obtain ⟨k, ls', hk, rfl, hB, hsz, ht, HRW⟩ := hrel
    by_cases hlt : k < n
    · obtain ⟨b, o, rfl, hb, hps⟩ := HA.out (by intro e; rw [e] at HL; have := HL.out; simp at this; omega)
      obtain ⟨p, hp⟩ : ∃ p, ls[k]? = some p := ⟨ls[k]'(by rw [HL.out]; exact hlt), List.getElem?_eq_getElem _⟩
      have hc : wr.cell? ⟨b, o + k, none⟩ = some (.slice p.1 p.2.1.length p.2.2) := (hB.cell (p := ⟨b, o + k, none⟩) hb).trans (hps k p hp)
      have hmem := List.mem_of_getElem? hp
      have HC := hide (HT.out p hmem wr ((HOK.out p hmem).2.go hB))
      have HP := hide hp
      have hi : (k : Int) < n := by omega
      have h0 : (0 : Int) ≤ k := by omega
      clear hps hmk hp hmem
      go_wp2_with fail
      refine HC.out.mono ?_
      rintro e w1 ⟨A1, rfl, hI1, hb1⟩
      have ht1 := there_below ht hb1 hsz
      obtain ⟨v0, hv0, hf0⟩ := there_some ht1 (j := k) hlt
      simp only [Nat.zero_add] at hv0 hf0
      have hB1 := hB.trans (hb1.mono hB.size)
      have hs1 := hb1.size
      have HI1 := hide hI1
      have HB1 := hide hb1
      clear ht hI1 hb1 hc
      go_wp2
      refine ⟨⟨k + 1, ls' ++ [(A1, p.2.1, p.2.1.length)], by omega, by go_num, hB1.setCell (p := ⟨w.heap.size, k, none⟩) (Nat.le_refl _) _, by rw [size_setCell]; omega, there_set ht1 _ _, hide ⟨?_, ?_, ?_, ?_, ?_⟩⟩, by simp [intOf]; omega⟩
      · rw [List.take_add_one, HP.out]
        unfold issD
        rw [List.map_append, Option.toList_some, List.map_append]
        have := HRW.out.1
        unfold issD at this
        rw [this]; rfl
      · rw [List.length_append, HRW.out.2.1]; rfl
      · intro j l hj
        by_cases e : j = k
        · subst e
          have hl' := HRW.out.2.1
          have hj' : (ls' ++ [(A1, p.2.1, p.2.1.length)])[j]? = some (A1, p.2.1, p.2.1.length) := by rw [← hl']; simp
          rw [hj'] at hj
          injection hj with hj
          subst hj
          rw [World.cell?_setCell_same' _ _ _ (by rw [hv0]; rfl)]
        · rw [World.cell?_setCell_other _ _ _ _ (by intro h; injection h with _ h; exact e h.symm)]
          have hjl : j < ls'.length := by
            have := (List.getElem?_eq_some_iff.1 hj).1
            rw [List.length_append] at this
            have := HRW.out.2.1
            simp at *; omega
          rw [List.getElem?_append_left hjl] at hj
          have hh := HRW.out.2.2.1 j l hj
          exact (HB1.out.cell (p := ⟨w.heap.size, j, none⟩) hsz).trans hh
      · intro l hl
        rcases List.mem_append.1 hl with hl | hl
        · exact grown_intsIn (grown_set (grown_refl _ _) _ _) ((HRW.out.2.2.2.1 l hl).go HB1.out) (fun b hb => by
            have := (blkI_bd ((HRW.out.2.2.2.1 l hl).go HB1.out) b hb).1
            intro e; injection e with e; omega)
        · simp at hl
          subst hl
          exact grown_intsIn (grown_set (grown_refl _ _) _ _) (HI1.out.wider (by omega)) (fun b hb => by
            have := (blkI_bd HI1.out b hb).1
            intro e; injection e with e; omega)
      · refine List.pairwise_append.2 ⟨HRW.out.2.2.2.2, List.pairwise_singleton _ _, fun l hl l' hl' b hb => ?_⟩
        simp only [List.mem_singleton] at hl'
        subst hl'
        have h1 := (blkI_bd (HRW.out.2.2.2.1 l hl) b hb).2
        intro e
        have h2 := (blkI_bd HI1.out b e).1
        omega
    · have hk' : k = n := by omega
      subst hk'
      have HRR := hide (show IssAp wr w.heap.size (some ⟨w.heap.size, 0, none⟩) ls ls' from ⟨by rw [HRW.out.2.1, HL.out], by rw [HRW.out.1, HTA.out], fun _ => ⟨w.heap.size, 0, rfl, by omega, fun j l hj => by rw [Nat.zero_add]; exact HRW.out.2.2.1 j l hj⟩, HRW.out.2.2.2.1, hsz, HRW.out.2.2.2.2⟩)
      clear ht HRW
      go_wp2
      go_ret
      exact ⟨_, ls', rfl, HRR.out, hB⟩


set_option maxRecDepth 100000 in
set_option maxHeartbeats 8000000 in
theorem markInt64SS_any (A : Option Addr) (ls : List Iss) (c : Nat) (B M : Nat) (w : World) (hn : ls.length ≤ 1048576) (htot : totL ls ≤ 1048576) (hA : IssAt w B A ls) (hB : B ≤ w.heap.size) (hl : ∀ l ∈ ls, IntsIn w B l.1 l.2.1)
    (hM : ∀ l ∈ ls, ∀ b, blkI l.1 l.2.1 = some b → b < M) (hP : ls.Pairwise (fun l l' => ∀ b, blkI l.1 l.2.1 = some b → blkI l'.1 l'.2.1 ≠ some b)) :
    Calls Tryd.prog 27 #[.slice A ls.length c, .int .i64 1] w fun e w' => (∃ k : Nat, e = .returned (.int .i64 k)) ∧ Below B w w' ∧ w.heap.size ≤ w'.heap.size ∧ ∀ i, M ≤ i → i < w.heap.size → w'.heap[i]? = w.heap[i]? := by
  have HA := hide hA
  have HL := hide hl
  have HM := hide hM
  have HP := hide hP
  have HTT := hide (fun k l (h : ls[k]? = some l) => totL_take h)
  have HTL := hide (fun k => Nat.le_trans (totL_le ls k) htot)
  obtain ⟨n, hN⟩ : ∃ n, ls.length = n := ⟨_, rfl⟩
  have HN := hide hN
  rw [hN] at hn ⊢
  clear hN hA hl hM hP htot
  go_enter Tryd.func27, Tryd.ntmps27
  go_wp2
  go_loopw [1, 5] (fun v i wr => ∃ k : Nat, k ≤ n ∧ i = .int .i64 k ∧ v = .int .i64 ((1 + totL (ls.take k) : Nat) : Int) ∧ Hid (∀ j l, k ≤ j → ls[j]? = some l → IntsIn wr B l.1 l.2.1) ∧ Hid (∀ i, M ≤ i → i < w.heap.size → wr.heap[i]? = w.heap[i]?) ∧ Below B w wr ∧ w.heap.size ≤ wr.heap.size) (fun _ i _ => n - (intOf i).toNat)
  case atStart => exact ⟨0, by omega, rfl, by simp [totL], hide (fun j l _ h => HL.out l (List.mem_of_getElem? h)), hide (fun _ _ _ => rfl), Below.refl _ _, Nat.le_refl _⟩
  case round =>
    obtain ⟨k, hk, rfl, rfl, HI, HF, hBw, hsz⟩ := hrel
    by_cases hlt : k < n
    · obtain ⟨b, o, rfl, hb, hxs⟩ := HA.out (by intro e; rw [e] at HN; have := HN.out; simp at this; omega)
      obtain ⟨l, hlk⟩ : ∃ l, ls[k]? = some l := ⟨ls[k]'(by rw [HN.out]; exact hlt), List.getElem?_eq_getElem _⟩
      have hc : wr.cell? ⟨b, o + k, none⟩ = some (.slice l.1 l.2.1.length l.2.2) := (hBw.cell (p := ⟨b, o + k, none⟩) hb).trans (hxs k l hlk)
      have ht1 := HTL.out (k + 1)
      have HT1 := hide (HTT.out k l hlk)
      rw [HT1.out] at ht1
      have HI0 := hide (HI.out k l (Nat.le_refl _) hlk)
      have HC := hide (markInt64S_any l.1 l.2.1 l.2.2 (1 + totL (ls.take k)) B wr (by omega) (by omega) HI0.out)
      have HMK := hide (HM.out l (List.mem_of_getElem? hlk))
      have HI2 := hide (fun w' (hg : wr.grownBy w' (blkI l.1 l.2.1)) j l' (hj : k + 1 ≤ j) (hl' : ls[j]? = some l') => show IntsIn w' B l'.1 l'.2.1 from
        grown_intsIn hg (HI.out j l' (by omega) hl') (fun b hb e => by
          have hkj : k < j := by omega
          have h1 := (List.getElem?_eq_some_iff.1 hlk)
          have h2 := (List.getElem?_eq_some_iff.1 hl')
          obtain ⟨h1a, h1b⟩ := h1
          obtain ⟨h2a, h2b⟩ := h2
          have := List.pairwise_iff_getElem.1 HP.out k j h1a h2a hkj b (by rw [h1b]; exact e.symm)
          rw [h2b] at this
          exact this hb))
      have HBL := hide (fun k hk => (blkI_bd HI0.out k hk).1)
      have hi : (k : Int) < n := by omega
      have h0 : (0 : Int) ≤ k := by omega
      have hBs : B ≤ wr.heap.size := by omega
      clear hxs hlk ht1
      go_wp2_with fail
      refine HC.out.mono ?_
      rintro e w2 ⟨rfl, hg, _⟩
      have HG := hide hg
      have hb2 := hBw.trans (grown_toBelow hg hBs (fun k hk => HBL.out k hk))
      have hs2 := hg.size
      clear hg hc
      go_wp2
      refine ⟨⟨k + 1, by omega, by go_num, by rw [HT1.out]; congr 1; omega, hide (HI2.out w2 HG.out), hide (fun i hi hi2 => ?_), hb2, by omega⟩, by simp [intOf]; omega⟩
      rw [HG.out.block i (by omega) (fun e => by have := HMK.out i e.symm; omega)]
      exact HF.out i hi hi2
    · obtain rfl : k = n := by omega
      go_wp2
      go_ret
      exact ⟨⟨_, rfl⟩, hBw, hsz, HF.out⟩
end Go.Proofs.YtjmkbdghenjlaaaDoor
