/- Lists of lists of numbers: how many numbers they have, their copies, whether two are equal. -/
import Derived.Test.YtjmkbdghenjlaaaDoorHnP
import Derived.Test.YtjmkbdghenjlaaaDoorG2
import Derived.Test.YtjmkbdghenjlaaaDoorFlat
namespace Go.Proofs.YtjmkbdghenjlaaaDoor
open Go Go.RowKit

set_option maxHeartbeats 400000 in
theorem szInt64S_any (A : Option Addr) (n c : Nat) (l : Int) (w : World) (h0 : -1 ≤ l) (h1 : l ≤ 1048576) (hn : n ≤ maxLen) :
    Calls Tryd.prog 49 #[.slice A n c, .int .i64 l] w fun e w' => e = .returned (.int .i64 (szL l n)) ∧ w = w' := by
  unfold maxLen at hn
  go_enter Tryd.func49, Tryd.ntmps49
  go_wp2
  all_goals (go_ret; exact ⟨ret_int (by unfold szL; split <;> omega), rfl⟩)

def shortI (n : Nat) (ls : List Iss) : Prop := n ≤ 1048576 ∧ ∀ l ∈ ls, l.2.1.length ≤ 1048576
set_option maxRecDepth 100000 in
set_option maxHeartbeats 4000000 in
theorem szInt64SS_any (A : Option Addr) (ls : List Iss) (c : Nat) (w : World) (hn : ls.length ≤ maxLen) (hl : IssOk w ls) (hA : IssAt w w.heap.size A ls) :
    Calls Tryd.prog 18 #[.slice A ls.length c, .int .i64 1048576] w fun e w' => (∃ z : Int, e = .returned (.int .i64 z) ∧ (0 ≤ z → shortI ls.length ls)) ∧ w = w' := by
  unfold maxLen at hn
  have HSZ := hide (fun (l : Iss) (h : l ∈ ls) z (h0 : -1 ≤ z) (h1 : z ≤ 1048576) => szInt64S_any l.1 l.2.1.length l.2.2 z w h0 h1 (hl l h).1)
  have HA := hide hA
  obtain ⟨n, hN⟩ : ∃ n, ls.length = n := ⟨_, rfl⟩
  have HN := hide hN
  rw [hN] at hn ⊢
  clear hN hA hl
  by_cases hbig : 1048576 < n
  · have hw := IntWalk.i64_in ((1048576 : Int) - n) ⟨by omega, by omega⟩
    have hd : decide ((1048576 : Int) - n < 0) = true := by simp; omega
    go_enter Tryd.func18, Tryd.ntmps18
    go_wp2
    go_ret
    exact ⟨⟨-1, rfl, fun h => absurd h (by decide)⟩, rfl⟩
  · have hw := IntWalk.i64_in ((1048576 : Int) - n) ⟨by omega, by omega⟩
    have hd : decide ((1048576 : Int) - n < 0) = false := by simp; omega
    go_enter Tryd.func18, Tryd.ntmps18
    go_wp2
    go_loop [1, 5] (fun v i => ∃ (k : Nat) (z : Int), k ≤ n ∧ i = .int .i64 k ∧ v = .int .i64 z ∧ 0 ≤ z ∧ z ≤ 1048576 ∧ Hid (∀ (j : Nat) (l : Iss), j < k → ls[j]? = some l → l.2.1.length ≤ 1048576)) (fun _ i => n - (intOf i).toNat)
    case atStart => exact ⟨0, _, Nat.zero_le _, rfl, rfl, by omega, by omega, hide (fun j l h => by omega)⟩
    case round =>
      obtain ⟨k, z, hk, rfl, rfl, z0, z1, HALL⟩ := hrel
      by_cases hlt : k < n
      · obtain ⟨b, o, rfl, hb, hxs⟩ := HA.out (by intro e; rw [e] at HN; have := HN.out; simp at this; omega)
        obtain ⟨l, hlk⟩ : ∃ l, ls[k]? = some l := ⟨ls[k]'(by rw [HN.out]; exact hlt), List.getElem?_eq_getElem _⟩
        have hc := hxs k l hlk
        have HC := hide (HSZ.out l (List.mem_of_getElem? hlk) z (by omega) z1)
        have HX := hide hlk
        have hi : (k : Int) < n := by omega
        have h0 : (0 : Int) ≤ k := by omega
        clear hxs hlk
        by_cases hneg : szL z l.2.1.length < 0
        · have hd2 : decide (szL z l.2.1.length < 0) = true := by simpa using hneg
          clear hneg
          generalize szL z l.2.1.length = q at *
          go_wp2_with fail
          refine HC.out.mono ?_
          rintro e w' ⟨rfl, rfl⟩
          go_wp2
          go_ret
          exact ⟨⟨-1, rfl, fun h => absurd h (by decide)⟩, rfl⟩
        · have hd2 : decide (szL z l.2.1.length < 0) = false := by simpa using hneg
          have hq : 0 ≤ szL z l.2.1.length ∧ szL z l.2.1.length ≤ 1048576 ∧ l.2.1.length ≤ 1048576 := by unfold szL at hneg ⊢; split at hneg <;> split <;> omega
          obtain ⟨q0, q1, q2⟩ := hq
          have HN2 : Hid (∀ (j : Nat) (l : Iss), j < k + 1 → ls[j]? = some l → l.2.1.length ≤ 1048576) := hide (fun j y hj hy => by
            by_cases e : j = k
            · subst e; rw [HX.out] at hy; injection hy with hy; subst hy; exact q2
            · exact HALL.out j y (by omega) hy)
          clear hneg q2
          generalize szL z l.2.1.length = q at *
          go_wp2_with fail
          refine HC.out.mono ?_
          rintro e w' ⟨rfl, rfl⟩
          go_wp2
          exact ⟨⟨k + 1, q, by omega, by go_num, rfl, q0, q1, HN2⟩, by simp [intOf]; omega⟩
      · obtain rfl : k = n := by omega
        go_wp2
        go_ret
        refine ⟨⟨z, rfl, fun _ => ⟨by omega, fun l hl => ?_⟩⟩, rfl⟩
        obtain ⟨j, hj⟩ := List.getElem?_of_mem hl
        exact HALL.out j l (by have := (List.getElem?_eq_some_iff.1 hj).1; have := HN.out; omega) hj

theorem Tryd.infoI64S : (Tryd.prog.info? 39).map (fun i => (i.zero, i.size, i.bytes)) = some (some (.slice none 0 0), 1, 24) := by kernel_rfl

/-- A copy of lists: each one in a block of its own. -/
def IssCp (w : World) (L : Nat) (A' : Option Addr) (ls ls' : List Iss) : Prop :=
  ls'.length = ls.length ∧ issD ls' = issD ls ∧ IssAt w w.heap.size A' ls' ∧ ∀ l ∈ ls', IntsIn w L l.1 l.2.1
theorem IssCp.ok {w : World} {L : Nat} {A' : Option Addr} {ls ls' : List Iss} (h : IssCp w L A' ls ls') (hl : ∀ l ∈ ls, l.2.1.length ≤ maxLen) : IssOk w ls' := fun l h' => by
  refine ⟨?_, (h.2.2.2 l h').at_⟩
  have : l.2.1 ∈ issD ls' := List.mem_map.2 ⟨l, h', rfl⟩
  rw [h.2.1] at this
  obtain ⟨m, hm, e⟩ := List.mem_map.1 this
  rw [← e]
  exact hl m hm
theorem IssCp.go {w w' : World} {L : Nat} {A' : Option Addr} {ls ls' : List Iss} (h : IssCp w L A' ls ls') (hb : Below w.heap.size w w') : IssCp w' L A' ls ls' :=
  ⟨h.1, h.2.1, h.2.2.1.go hb, fun l hl => (h.2.2.2 l hl).go hb⟩

set_option maxRecDepth 100000 in
set_option maxHeartbeats 8000000 in
theorem toInt64SS_any (A : Option Addr) (ls : List Iss) (c : Nat) (w : World) (hs : shortI ls.length ls) (hl : IssOk w ls) (hA : IssAt w w.heap.size A ls) :
    Calls Tryd.prog 20 #[.slice A ls.length c] w fun e w' => ∃ A' ls', e = .returned (.slice A' ls.length ls.length) ∧ IssCp w' w.heap.size A' ls ls' ∧ Below w.heap.size w w' := by
  have hn := hs.1
  obtain ⟨i0, hi0, hz0, hz1, hz2⟩ := info_parts Tryd.infoI64S
  have hmk := fun W => run_make_rowN (P := Tryd.prog) 38 39 i0 _ Tryd.underlying38 hi0 hz0 .i64 .i64 ls.length ls.length (Nat.le_refl _) (by rw [hz2]; omega) (by omega) W
  have HT := hide (fun l (h : l ∈ ls) W (hA : IntsAt W W.heap.size l.1 l.2.1) => toInt64S_any l.1 l.2.1 l.2.2 W hA (hs.2 l h))
  have HOK := hide hl
  have HA := hide hA
  obtain ⟨n, hN⟩ : ∃ n, ls.length = n := ⟨_, rfl⟩
  have HL := hide hN
  have HTA : Hid (ls.take n = ls) := hide (by rw [← hN]; exact List.take_length)
  rw [hN] at hn hmk ⊢
  clear hN hA hl hs
  go_enter Tryd.func20, Tryd.ntmps20
  go_wp2
  go_loopw [4] (fun i wr => ∃ (k : Nat) (ls' : List Iss), k ≤ n ∧ i = .int .i64 k ∧ Below w.heap.size w wr ∧ w.heap.size < wr.heap.size ∧ wr.there w.heap.size 0 n ∧ Hid (issD ls' = issD (ls.take k) ∧ ls'.length = k ∧ (∀ j l, ls'[j]? = some l → wr.cell? ⟨w.heap.size, j, none⟩ = some (.slice l.1 l.2.1.length l.2.2)) ∧ ∀ l ∈ ls', IntsIn wr (w.heap.size + 1) l.1 l.2.1))
    (fun i _ => n - (intOf i).toNat)
  case atStart =>
    refine ⟨0, [], by omega, rfl, (Below.refl _ _).alloc (Nat.le_refl _) _, by simp, there_newg rfl (by simp [madeCells]), hide ⟨by simp [issD], rfl, by simp, by simp⟩⟩
  case round =>
    obtain ⟨k, ls', hk, rfl, hB, hsz, ht, HRW⟩ := hrel
    by_cases hlt : k < n
    · obtain ⟨b, o, rfl, hb, hps⟩ := HA.out (by intro e; rw [e] at HL; have := HL.out; simp at this; omega)
      obtain ⟨p, hp⟩ : ∃ p, ls[k]? = some p := ⟨ls[k]'(by rw [HL.out]; exact hlt), List.getElem?_eq_getElem _⟩
      have hc : wr.cell? ⟨b, o + k, none⟩ = some (.slice p.1 p.2.1.length p.2.2) := (hB.cell (p := ⟨b, o + k, none⟩) hb).trans (hps k p hp)
      have hmem := List.mem_of_getElem? hp
      have HC := hide (HT.out p hmem wr ((HOK.out p hmem).2.go hB))
      have HP := hide hp
      have hi : (k : Int) < n := by omega
      have h0 : (0 : Int) ≤ k := by omega
      clear hps hmk hp hmem
      go_wp2_with fail
      refine HC.out.mono ?_
      rintro e w1 ⟨A1, rfl, hI1, hb1⟩
      have ht1 := there_below ht hb1 hsz
      obtain ⟨v0, hv0, hf0⟩ := there_some ht1 (j := k) hlt
      simp only [Nat.zero_add] at hv0 hf0
      have hB1 := hB.trans (hb1.mono hB.size)
      have hs1 := hb1.size
      have HI1 := hide hI1
      have HB1 := hide hb1
      clear ht hI1 hb1 hc
      go_wp2
      refine ⟨⟨k + 1, ls' ++ [(A1, p.2.1, p.2.1.length)], by omega, by go_num, hB1.setCell (p := ⟨w.heap.size, k, none⟩) (Nat.le_refl _) _, by rw [size_setCell]; omega, there_set ht1 _ _, hide ⟨?_, ?_, ?_, ?_⟩⟩, by simp [intOf]; omega⟩
      · rw [List.take_add_one, HP.out]
        unfold issD
        rw [List.map_append, Option.toList_some, List.map_append]
        have := HRW.out.1
        unfold issD at this
        rw [this]; rfl
      · rw [List.length_append, HRW.out.2.1]; rfl
      · intro j l hj
        by_cases e : j = k
        · subst e
          have hl' := HRW.out.2.1
          have hj' : (ls' ++ [(A1, p.2.1, p.2.1.length)])[j]? = some (A1, p.2.1, p.2.1.length) := by rw [← hl']; simp
          rw [hj'] at hj
          injection hj with hj
          subst hj
          rw [World.cell?_setCell_same' _ _ _ (by rw [hv0]; rfl)]
        · rw [World.cell?_setCell_other _ _ _ _ (by intro h; injection h with _ h; exact e h.symm)]
          have hjl : j < ls'.length := by
            have := (List.getElem?_eq_some_iff.1 hj).1
            rw [List.length_append] at this
            have := HRW.out.2.1
            simp at *; omega
          rw [List.getElem?_append_left hjl] at hj
          have hh := HRW.out.2.2.1 j l hj
          exact (HB1.out.cell (p := ⟨w.heap.size, j, none⟩) hsz).trans hh
      · intro l hl
        rcases List.mem_append.1 hl with hl | hl
        · exact grown_intsIn (grown_set (grown_refl _ _) _ _) ((HRW.out.2.2.2 l hl).go HB1.out) (fun b hb => by
            have := (blkI_bd ((HRW.out.2.2.2 l hl).go HB1.out) b hb).1
            intro e; injection e with e; omega)
        · simp at hl
          subst hl
          exact grown_intsIn (grown_set (grown_refl _ _) _ _) (HI1.out.wider (by omega)) (fun b hb => by
            have := (blkI_bd HI1.out b hb).1
            intro e; injection e with e; omega)
    · have hk' : k = n := by omega
      subst hk'
      have HRR := hide (show IssCp wr w.heap.size (some ⟨w.heap.size, 0, none⟩) ls ls' from ⟨by rw [HRW.out.2.1, HL.out], by rw [HRW.out.1, HTA.out], fun _ => ⟨w.heap.size, 0, rfl, hsz, fun j l hj => by rw [Nat.zero_add]; exact HRW.out.2.2.1 j l hj⟩, fun l hl => (HRW.out.2.2.2 l hl).wider (by omega)⟩)
      clear ht HRW
      go_wp2
      go_ret
      exact ⟨_, ls', rfl, HRR.out, hB⟩

set_option maxRecDepth 100000 in
set_option maxHeartbeats 4000000 in
theorem eqInt64SS_same (A A' : Option Addr) (ls ls' : List Iss) (n c c' : Nat) (w : World) (hn : n ≤ maxLen) (h1 : ls.length = n) (h2 : ls'.length = n) (he : issD ls' = issD ls) (hl : IssOk w ls) (hl' : IssOk w ls') (hA : IssAt w w.heap.size A ls) (hA' : IssAt w w.heap.size A' ls') :
    Calls Tryd.prog 23 #[.slice A n c, .slice A' n c'] w fun e w' => e = .returned (.bool true) ∧ Below w.heap.size w w' := by
  unfold maxLen at hn
  have HL1 := hide hl
  have HL2 := hide hl'
  have HA := hide hA
  have HA2 := hide hA'
  have HE := hide he
  have HN := hide h1
  have HN2 := hide h2
  clear hA hA' hl hl' he h1 h2
  go_enter Tryd.func23, Tryd.ntmps23
  go_wp2
  go_loopw [5] (fun i wr => ∃ k : Nat, k ≤ n ∧ i = .int .i64 k ∧ Below w.heap.size w wr)
    (fun i _ => n - (intOf i).toNat)
  case atStart => exact ⟨0, by omega, rfl, Below.refl _ _⟩
  case round =>
    obtain ⟨k, hk, rfl, hB⟩ := hrel
    by_cases hlt : k < n
    · obtain ⟨b, o, rfl, hb, hps⟩ := HA.out (by intro e; rw [e] at HN; have := HN.out; simp at this; omega)
      obtain ⟨b', o', rfl, hb', hps'⟩ := HA2.out (by intro e; rw [e] at HN2; have := HN2.out; simp at this; omega)
      obtain ⟨p, hp⟩ : ∃ p, ls[k]? = some p := ⟨ls[k]'(by rw [HN.out]; exact hlt), List.getElem?_eq_getElem _⟩
      obtain ⟨q, hq⟩ : ∃ q, ls'[k]? = some q := ⟨ls'[k]'(by rw [HN2.out]; exact hlt), List.getElem?_eq_getElem _⟩
      have hd : q.2.1 = p.2.1 := by
        have e1 := issD_get hp
        have e2 := issD_get hq
        rw [HE.out] at e2
        rw [← e1, ← e2]
      have e0 : wr.cell? ⟨b, o + k, none⟩ = some (.slice p.1 p.2.1.length p.2.2) := (hB.cell (p := ⟨b, o + k, none⟩) hb).trans (hps k p hp)
      have e1 : wr.cell? ⟨b', o' + k, none⟩ = some (.slice q.1 q.2.1.length q.2.2) := (hB.cell (p := ⟨b', o' + k, none⟩) hb').trans (hps' k q hq)
      have okp := HL1.out p (List.mem_of_getElem? hp)
      have okq := HL2.out q (List.mem_of_getElem? hq)
      rw [hd] at e1 okq
      have hbs := hB.size
      have HC := hide (fun s : Over wr => eqInt64S_same p.1 q.1 p.2.1 p.2.2 q.2.2 s.w okp.1 ((okp.2.go hB).go s.h) ((okq.2.go hB).go s.h))
      have c0 := Over.get e0
      have c1 := Over.get e1
      have hi : (k : Int) < n := by omega
      have h0 : (0 : Int) ≤ k := by omega
      clear hps hps' hp hq okp okq e0 e1
      go_wp2
      refine wp_region_over (by kernel_rfl) (by kernel_rfl) ?_
      repeat (go_big_quiet_step ((go_at_call 24; exact over_call (HC.out _))))
      refine wpQuiet_nil ?_
      intro w1 hb1
      clear c0 c1
      go_wp2
      exact ⟨⟨k + 1, by omega, by go_num, hB.trans (hb1.mono hbs)⟩, by simp [intOf]; omega⟩
    · go_wp2
      go_ret
      exact ⟨rfl, hB⟩
end Go.Proofs.YtjmkbdghenjlaaaDoor
