/- slices.Repeat of one number. -/
import Derived.Test.YtjmkbdghenjlaaaDoorGhP
import Derived.Test.YtjmkbdghenjlaaaDoorGs
import Derived.Test.YtjmkbdghenjlaaaDoorShelf
import Derived.Laws.CopyOwn
namespace Go.Proofs.YtjmkbdghenjlaaaDoor
open Go Go.RowKit

/-- A row whose first c cells hold the number v. -/
def RepI (v : Int) (n c : Nat) (cur : List Value) : Prop := cur.length = n ∧ ∀ j, j < c → cur[j]? = some (.int .i64 v)
theorem rep_step {v : Int} {n c q : Nat} {cur : List Value} (h : RepI v n c cur) (hq : c + q ≤ n) : RepI v n (c + q) (cur.take c ++ (List.replicate q (.int .i64 v) ++ cur.drop (c + q))) := by
  obtain ⟨h1, h2⟩ := h
  refine ⟨by simp; omega, fun j hj => ?_⟩
  have hl : (cur.take c).length = c := by rw [List.length_take]; omega
  by_cases e : j < c
  · rw [List.getElem?_append_left (by omega), List.getElem?_take, if_pos e]; exact h2 j e
  · rw [List.getElem?_append_right (by omega), List.getElem?_append_left (by simp; omega), List.getElem?_replicate, if_pos (by omega)]
theorem rep_splice {v : Int} {n c q : Nat} {cur : List Value} (h : RepI v n c cur) (hq : c + q ≤ n) : RepI v n (c + q) (splice cur c (List.replicate q (.int .i64 v))) := by
  unfold splice
  rw [List.length_replicate]
  exact rep_step h hq
theorem rep_out {v : Int} {n : Nat} {cur : List Value} {W : World} {G : Nat} {t : TypeId} (h : RepI v n n cur) (hg : W.heap[G]? = some (.cells cur.toArray t (0, 0))) : OutA W G (List.replicate n v) := by
  have hc : ∀ j, j < n → W.cell? ⟨G, j, none⟩ = some (.int .i64 v) := fun j hj => by
    rw [cell_of_row _ _ _ _ _ _ hg, List.getElem?_toArray]; exact h.2 j hj
  refine ⟨fun j hj => ?_, fun j x hx => ?_⟩
  · rw [List.length_replicate] at hj
    rw [Nat.zero_add, hc j hj]
    refine ⟨rfl, ?_⟩
    simp [World.frozen?, hg]
  · have hj := (List.getElem?_eq_some_iff.1 hx).1
    rw [List.length_replicate] at hj
    rw [List.getElem?_replicate, if_pos hj] at hx
    injection hx with hx
    subst hx
    exact hc j hj

set_option maxRecDepth 100000 in
set_option maxHeartbeats 8000000 in
theorem repeat_any (P : Nat) (v : Int) (n : Nat) (hn : n ≤ 8) (w : World) (hP : w.cell? ⟨P, 0, none⟩ = some (.int .i64 v)) :
    Calls Tryd.prog 95 #[.slice (some ⟨P, 0, none⟩) 1 1, .int .i64 n] w fun e w' => (∃ G, e = .returned (.slice (some ⟨G, 0, none⟩) n n) ∧ w.heap.size ≤ G ∧ G < w'.heap.size ∧ OutA w' G (List.replicate n v)) ∧ Below w.heap.size w w' := by
  obtain ⟨i0, hi0, hz0, hz1, hz2⟩ := info_parts Tryd.infoI64
  have hmk := fun W => run_make_rowN (P := Tryd.prog) 39 2 i0 _ Tryd.underlying39 hi0 hz0 .i64 .i64 n n (Nat.le_refl _) (by rw [hz2]; omega) (by omega) W
  rw [hz1, Nat.mul_one] at hmk
  have hPl := World.block_lt_of_cell? w _ hP
  have HMU := hide (fun W => Tryd.bits_Mul 1 n (by decide) (by omega) W)
  have hq1 : 1 * n / 18446744073709551616 = 0 := by omega
  have hq2 : 1 * n % 18446744073709551616 = n := by omega
  rw [hq1, hq2] at HMU
  have hcv : IntKind.u64.wrap (n : Int) = n := by simp [IntKind.wrap, IntKind.bits, IntKind.signed] <;> omega
  have hcv2 : IntKind.i64.wrap (n : Int) = n := IntWalk.i64_in (n : Int) ⟨by omega, by omega⟩
  have hd1 : decide ((n : Int) < 0) = false := by simp
  have hd2 : decide ((9223372036854775807 : Int) < n) = false := by simp; omega
  go_enter Tryd.func95, Tryd.ntmps95
  go_wp2_with fail
  refine (HMU.out _).mono ?_
  rintro e w1 ⟨rfl, rfl⟩
  obtain ⟨cur0, hcur⟩ : ∃ cur0, madeCells (Value.cells (.int .i64 0)) n = cur0 := ⟨_, rfl⟩
  have hR0 : RepI v n 0 cur0.toList := ⟨by rw [← hcur]; simp [madeCells], fun j hj => by omega⟩
  have HR0 := hide hR0
  rw [hcur] at hmk
  have hG0 : (w1.alloc (.cells cur0 2)).heap[w1.heap.size]? = some (.cells cur0.toList.toArray 2 (0, 0)) := heap_alloc_new w1 _
  have HG0 := hide hG0
  have hb0 : Below w1.heap.size w1 (w1.alloc (.cells cur0 2)) := (Below.refl _ _).alloc (Nat.le_refl _) _
  have s0 : (w1.alloc (.cells cur0 2)).heap.size = w1.heap.size + 1 := by simp
  have hc0 := (hb0.cell (p := ⟨P, 0, none⟩) hPl).trans hP
  have HC0 := hide hc0
  obtain ⟨q0, hq0⟩ : ∃ q0, Nat.min 1 n = q0 := ⟨_, rfl⟩
  have hq0n : q0 ≤ n ∧ q0 ≤ 1 ∧ (n ≠ 0 → 0 < q0) := by have := hq0; simp only [Nat.min_def] at this; split at this <;> omega
  have HP := hide hP
  clear hcur hR0 hG0 hc0 hP
  go_wp2_with (with_reducible refine wpList_copy_splice (o := ⟨some 33, _, _, _, _, _⟩) rfl (.tmp 31) (.tmp 32) 39 39 rfl 2 Tryd.underlying39 (by kernel_rfl) (some ⟨w1.heap.size, 0, none⟩) (some ⟨P, 0, none⟩) n n 1 1 rfl rfl w1.heap.size 0 cur0.toList 2 HG0.out (List.replicate q0 (.int .i64 v)) (by rw [List.length_replicate]; exact hq0.symm) ?c1 ?c2 ?c3 w1.heap.size w1 hb0 (Nat.le_refl _) ?_)
  case c1 =>
    intro _ j u hu
    have hj := (List.getElem?_eq_some_iff.1 hu).1
    rw [List.length_replicate] at hj
    rw [List.getElem?_replicate, if_pos hj] at hu
    injection hu with hu
    subst hu
    obtain rfl : j = 0 := by omega
    first | exact HP.out | exact HC0.out
  case c2 => rw [List.length_replicate, HR0.out.1]; omega
  case c3 => intro u hu; rw [List.eq_of_mem_replicate hu]; rfl
  intro w2 HG2 hb2
  have HR2 := hide (rep_splice (q := q0) HR0.out (by omega))
  rw [Nat.zero_add] at HR2
  generalize splice cur0.toList 0 (List.replicate q0 (.int .i64 v)) = cur2 at *
  have s2 : w1.heap.size < w2.heap.size := by
    rcases Nat.lt_or_ge w1.heap.size w2.heap.size with h | h
    · exact h
    · have := HG2.out; rw [Array.getElem?_eq_none h] at this; cases this
  clear HG0 HC0 HR0 hb0 s0 HP
  go_wp2
  go_loopw [8] (fun i wr => ∃ (c : Nat) (cur : List Value), c ≤ n ∧ Hid (n ≠ 0 → 0 < c) ∧ i = .int .i64 c ∧ Hid (wr.heap[w1.heap.size]? = some (.cells cur.toArray 2 (0, 0))) ∧ Hid (RepI v n c cur) ∧ Below w1.heap.size w1 wr ∧ w1.heap.size < wr.heap.size) (fun i _ => n - (intOf i).toNat)
  case atStart => exact ⟨q0, cur2, hq0n.1, hide hq0n.2.2, rfl, HG2, HR2, hb2, s2⟩
  case round =>
    clear HG2 HR2 hb2 s2 hq0n hq0
    obtain ⟨c, cur, hc, HPOS, rfl, HG, HR, hB, hsz⟩ := hrel
    by_cases hlt : c < n
    · have hc1 : (c : Int) < n := by omega
      have hc0 : (0 : Int) ≤ c := by omega
      have hcp := HPOS.out (by omega)
      have hc2 : (c : Int) ≤ n := by omega
      obtain ⟨q, hq⟩ : ∃ q, Nat.min c (n - c) = q := ⟨_, rfl⟩
      have hqn : q ≤ c ∧ c + q ≤ n ∧ 0 < q := by have := hq; simp only [Nat.min_def] at this; split at this <;> omega
      have HCUR := hide (fun j (hj : j < c) => show wr.cell? ⟨w1.heap.size, j, none⟩ = some (.int .i64 v) from by
        rw [cell_of_row _ _ _ _ _ _ HG.out, List.getElem?_toArray]; exact HR.out.2 j hj)
      have HR3 := hide (rep_splice (q := q) HR.out hqn.2.1)
      have hwq := IntWalk.i64_in ((c : Int) + q) ⟨by omega, by omega⟩
      go_wp2
      refine wp_region_script [(0, true), (1, true), (2, true), (3, true), (4, true), (5, true), (6, true), (7, false), (8, false), (9, false)]
        (fun w' => Below w1.heap.size w1 w') (by kernel_rfl) (by kernel_rfl) (of_decide_eq_true (by kernel_rfl)) (by kernel_rfl) (fun _ _ d _ _ h => by cases d <;> exact h) hB.drew ?_
      refine sc_take (.int .i64 c) rfl (.inl ⟨rfl, fun w' h => rfl⟩) ?_
      simp only [List.getElem_toArray, List.getElem_cons_succ, List.getElem_cons_zero, Act.put, List.setIfInBounds_toArray, List.set_cons_zero, List.set_cons_succ]
      refine sc_take (.slice (some ⟨w1.heap.size, 0, none⟩) n n) rfl (.inl ⟨rfl, fun w' h => rfl⟩) ?_
      simp only [List.getElem_toArray, List.getElem_cons_succ, List.getElem_cons_zero, Act.put, List.setIfInBounds_toArray, List.set_cons_zero, List.set_cons_succ]
      refine sc_take (.int .i64 c) rfl (.inl ⟨rfl, fun w' h => rfl⟩) ?_
      simp only [List.getElem_toArray, List.getElem_cons_succ, List.getElem_cons_zero, Act.put, List.setIfInBounds_toArray, List.set_cons_zero, List.set_cons_succ]
      refine sc_take (.slice (some ⟨w1.heap.size, c, none⟩) (n - c) (n - c)) rfl (.inl ⟨rfl, fun w' _ => ?_⟩) ?_
      · simp only [execOp, Act.eval]; go_simp; omega
      simp only [List.getElem_toArray, List.getElem_cons_succ, List.getElem_cons_zero, Act.put, List.setIfInBounds_toArray, List.set_cons_zero, List.set_cons_succ]
      refine sc_take (.slice (some ⟨w1.heap.size, 0, none⟩) n n) rfl (.inl ⟨rfl, fun w' h => rfl⟩) ?_
      simp only [List.getElem_toArray, List.getElem_cons_succ, List.getElem_cons_zero, Act.put, List.setIfInBounds_toArray, List.set_cons_zero, List.set_cons_succ]
      refine sc_take (.int .i64 c) rfl (.inl ⟨rfl, fun w' h => rfl⟩) ?_
      simp only [List.getElem_toArray, List.getElem_cons_succ, List.getElem_cons_zero, Act.put, List.setIfInBounds_toArray, List.set_cons_zero, List.set_cons_succ]
      refine sc_take (.slice (some ⟨w1.heap.size, 0, none⟩) c n) rfl (.inl ⟨rfl, fun w' _ => ?_⟩) ?_
      · simp only [execOp, Act.eval]; go_simp
      simp only [List.getElem_toArray, List.getElem_cons_succ, List.getElem_cons_zero, Act.put, List.setIfInBounds_toArray, List.set_cons_zero, List.set_cons_succ]
      refine sc_step rfl ?_
      refine wpList_copy_splice rfl (.tmp 41) (.tmp 44) 39 39 rfl 2 Tryd.underlying39 (by kernel_rfl) (some ⟨w1.heap.size, c, none⟩) (some ⟨w1.heap.size, 0, none⟩) (n - c) (n - c) c n rfl rfl w1.heap.size c cur 2 HG.out (List.replicate q (.int .i64 v)) (by rw [List.length_replicate]; exact hq.symm) ?c1 ?c2 ?c3 w1.heap.size w1 hB.drew (Nat.le_refl _) ?_
      case c1 =>
        intro _
        refine ⟨rfl, _, rfl, fun j u hu => ?_⟩
        have hj := (List.getElem?_eq_some_iff.1 hu).1
        rw [List.length_replicate] at hj
        rw [List.getElem?_replicate, if_pos hj] at hu
        injection hu with hu
        subst hu
        rw [addr_add, Nat.zero_add]
        exact HCUR.out j (by omega)
      case c2 => rw [List.length_replicate, HR.out.1]; omega
      case c3 => intro u hu; rw [List.eq_of_mem_replicate hu]; rfl
      intro w4 HG4 hb4
      rw [List.length_replicate]
      generalize splice cur c (List.replicate q (.int .i64 v)) = cur4 at *
      have s4 : w1.heap.size < w4.heap.size := by
        rcases Nat.lt_or_ge w1.heap.size w4.heap.size with h | h
        · exact h
        · have := HG4.out; rw [Array.getElem?_eq_none h] at this; cases this
      clear HG HR HCUR hq
      go_wp2_with fail
      refine ⟨hb4, sc_step rfl ?_⟩
      go_wp2_with fail
      refine ⟨hb4, sc_step rfl ?_⟩
      go_wp2_with fail
      refine ⟨hb4, sc_nil ?_⟩
      go_wp2
      exact ⟨⟨c + q, cur4, by omega, hide (fun _ => by omega), by go_num, HG4, HR3, hb4, s4⟩, by simp [intOf]; omega⟩
    · obtain rfl : c = n := by omega
      have HO := hide (rep_out HR.out HG.out)
      clear HG HR
      go_wp2
      go_ret
      exact ⟨⟨w1.heap.size, rfl, Nat.le_refl _, hsz, HO.out⟩, hB⟩
end Go.Proofs.YtjmkbdghenjlaaaDoor
