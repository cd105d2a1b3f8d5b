/- All moves within so much, of the program. -/
import Derived.Test.YtjmkbdghenjlaaaPrD
import Derived.Test.YtjmkbdghenjlaaaRbP
namespace Go.Proofs.Ytjmkbdghenjlaaa
open Go Go.RowKit

def mvL (m t : Nat) : List Pr := (List.range t).map (fun t => (((t % (2 * m + 1) : Nat) : Int) - m, ((t / (2 * m + 1) : Nat) : Int) - m))
theorem mvL_len (m t : Nat) : (mvL m t).length = t := by simp [mvL]
theorem mvL_next {m j i : Nat} (hi : i < 2 * m + 1) : mvL m (j * (2 * m + 1) + i + 1) = mvL m (j * (2 * m + 1) + i) ++ [((i : Int) - m, (j : Int) - m)] := by
  unfold mvL
  rw [List.range_succ, List.map_append]
  have e1 : (j * (2 * m + 1) + i) % (2 * m + 1) = i := by rw [Nat.mul_comm, Nat.mul_add_mod]; exact Nat.mod_eq_of_lt hi
  have e2 : (j * (2 * m + 1) + i) / (2 * m + 1) = j := by
    rw [Nat.mul_comm, Nat.mul_add_div (by omega), Nat.div_eq_of_lt hi]; rfl
  simp only [List.map_cons, List.map_nil, e1, e2]
theorem mvL_get {m t k : Nat} (h : k < t) : (mvL m t)[k]? = some (((k % (2 * m + 1) : Nat) : Int) - m, ((k / (2 * m + 1) : Nat) : Int) - m) := by
  simp [mvL, List.getElem?_range h]

theorem Try.infoMove : (Try.prog.info? 42).map (fun i => (i.zero, i.size, i.bytes)) = some (some (.agg #[.int .i64 0, .int .i64 0]), 2, 16) := by kernel_rfl

set_option maxRecDepth 100000 in
set_option maxHeartbeats 8000000 in
theorem movesWithin_any (m : Nat) (hm : m ≤ 5) (w : World) :
    Calls Try.prog 16 #[.int .i64 m] w fun e w' => ∃ A' c', e = .returned (.slice A' ((2 * m + 1) * (2 * m + 1)) c') ∧ P2In w' w.heap.size A' (mvL m ((2 * m + 1) * (2 * m + 1))) ∧ Below w.heap.size w w' := by
  obtain ⟨i0, hi0, hz0, hz1, hz2⟩ := info_parts Try.infoMove
  have HNX := hide (fun j i (hi : i < 2 * m + 1) => mvL_next (j := j) hi)
  have hw0 := IntWalk.i64_in (-(m : Int)) ⟨by omega, by omega⟩
  have HMU : Hid (∀ j, j < 2 * m + 1 → j * (2 * m + 1) + (2 * m + 1) ≤ 1000000) := hide (fun k hk => by
    have h1 : k ≤ 11 := by omega
    have h2 : k * (2 * m + 1) ≤ 11 * 11 := Nat.mul_le_mul h1 (by omega)
    omega)
  have HD : Hid (∀ j, (j + 1) * (2 * m + 1) = j * (2 * m + 1) + (2 * m + 1)) := hide (fun j => by rw [Nat.add_mul, Nat.one_mul])
  obtain ⟨D, hD⟩ : ∃ D, 2 * m + 1 = D := ⟨_, rfl⟩
  rw [hD] at HNX HMU HD ⊢
  have hD1 : (D : Int) = 2 * m + 1 := by omega
  clear hD
  go_enter Try.func16, Try.ntmps16
  go_wp2
  go_loopw [3, 4] (fun br i wr => ∃ j : Nat, j ≤ D ∧ i = .int .i64 ((j : Int) - m) ∧ wr.ownsRow w.heap.size 42 2 br (j * D) ((fl (mvL m (j * D))).map (.int .i64)) ∧ Below w.heap.size w wr)
    (fun _ i _ => D - (intOf i + m).toNat)
  case atStart => exact ⟨0, by omega, by simp, by rw [Nat.zero_mul]; exact World.ownsRow_nil _ _ _ _, Below.refl _ _⟩
  case round =>
    obtain ⟨j, hj, rfl, hown, hB⟩ := hrel
    obtain ⟨W1, hW1⟩ : ∃ W1, W1 = wr := ⟨_, rfl⟩
    subst hW1
    obtain ⟨Ab, cbb, rfl, hcap, _⟩ := cellsIn_of_own hown (by omega)
    have HOWN := hide hown
    clear hown
    have hbs := hB.size
    by_cases hlt : j < D
    · have hd : decide ((j : Int) - m ≤ (m : Int)) = true := by simp; omega
      have hd' : (j : Int) - m ≤ (m : Int) := by omega
      have hmu := HMU.out j hlt
      have hwj := IntWalk.i64_in ((j : Int) - m + 1) ⟨by omega, by omega⟩
      go_wp2
      go_loopw [3, 5] (fun br i wr => ∃ i' : Nat, i' ≤ D ∧ i = .int .i64 ((i' : Int) - m) ∧ wr.ownsRow w.heap.size 42 2 br (j * D + i') ((fl (mvL m (j * D + i'))).map (.int .i64)) ∧ Below w.heap.size w wr)
        (fun _ i _ => D - (intOf i + m).toNat)
      case atStart => exact ⟨0, by omega, by simp, HOWN.out, hB⟩
      case round =>
        clear HOWN hB hbs hcap
        obtain ⟨i', hi', rfl, hown, hB⟩ := hrel
        obtain ⟨Ac, ccc, rfl, hcap, _⟩ := cellsIn_of_own hown (by omega)
        have HOWN := hide hown
        clear hown
        have hbs := hB.size
        by_cases hlt2 : i' < D
        · have he : decide ((i' : Int) - m ≤ (m : Int)) = true := by simp; omega
          have he' : (i' : Int) - m ≤ (m : Int) := by omega
          have HPS := hide (HNX.out j i' hlt2)
          have hwi := IntWalk.i64_in ((i' : Int) - m + 1) ⟨by omega, by omega⟩
          go_wp2_with (at_builtin; refine wpList_append_own _ rfl (.tmp 20) (.tmp 24) 39 rfl w.heap.size 42 i0 (.agg #[.int .i64 0, .int .i64 0]) 2 16 Try.underlying39 hi0 hz0 hz1 hz2 rfl (by decide) _ (j * D + i') _ rfl (HOWN.out.alloc _) ⟨wr.heap.size, 0, none⟩ 1 1 [.int .i64 ((i' : Int) - m), .int .i64 ((j : Int) - m)] rfl rfl (two_cell _ _) (two_one rfl rfl) ?h1 ?h2 ?h3 ?_)
          case h1 => unfold maxLen; omega
          case h2 => omega
          case h3 => first | omega | (simp; omega) | simp
          intro v' w4 hown4 hg4 _
          obtain ⟨A4, c4, rfl, _, _⟩ := cellsIn_of_own hown4 (by omega)
          have H4 := hide hown4
          have hg34 : wr.grownBy w4 _ := grown_trans (World.grownBy_alloc wr _ _) hg4
          have hB4 := hB.trans (grown_toBelow hg34 (by omega) (fun k hk => (HOWN.out.lt k hk).1))
          clear hown4 hg4 hg34
          go_wp2
          refine ⟨⟨i' + 1, by omega, ?_, ?_, hB4⟩, ?_⟩
          · first | rfl | (congr 1; omega)
          · rw [← Nat.add_assoc, HPS.out, fl_app, List.map_append]
            exact H4.out
          · simp [intOf]; omega
        · obtain rfl : i' = D := by omega
          have he : decide ((i' : Int) - m ≤ (m : Int)) = false := by simp; omega
          have he' : ¬ ((i' : Int) - m ≤ (m : Int)) := by omega
          have HDD := hide (HD.out j)
          go_wp2
          refine ⟨⟨j + 1, by omega, ?_, ?_, hB⟩, ?_⟩
          · first | rfl | (congr 1; omega)
          · rw [HDD.out]; exact HOWN.out
          · simp [intOf]; omega
    · obtain rfl : j = D := by omega
      have hd : decide ((j : Int) - m ≤ (m : Int)) = false := by simp; omega
      have hd' : ¬ ((j : Int) - m ≤ (m : Int)) := by omega
      obtain ⟨Ag, cg, e, _, hI⟩ := p2In_of_own HOWN.out
      injection e with e1 e2 e3
      subst e1 e3
      have HI := hide hI
      clear hI
      go_wp2
      go_ret
      exact ⟨Ab, ⟨cbb, rfl⟩, HI.out, hB⟩
end Go.Proofs.Ytjmkbdghenjlaaa
