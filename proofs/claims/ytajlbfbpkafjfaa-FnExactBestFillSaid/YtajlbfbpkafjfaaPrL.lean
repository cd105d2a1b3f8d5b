/- The program's lists of pairs: all pairs of indices, and those for which something holds. -/
import Derived.Test.YtajlbfbpkafjfaaPrP
import Derived.Test.YtajlbfbpkafjfaaIvTh
import Derived.Maps.AppendAt
namespace Go.Proofs.Ytajlbfbpkafjfaa
open Go.RowKit

theorem two_cell {w : World} {t : TypeId} (u v : Value) : ∀ (j : Nat) (x : Value), [u, v][j]? = some x → (w.alloc (.cells #[u, v] t)).cell? ((⟨w.heap.size, 0, none⟩ : Addr).add j) = some x := by
  intro j x hx
  rw [addr_add, Nat.zero_add, cell_of_row _ _ _ _ _ _ (heap_alloc_new w _)]
  simpa using hx
theorem two_one {u v : Value} (h : u.oneCell' = true) (h' : v.oneCell' = true) : ∀ x ∈ [u, v], x.oneCell' = true := by
  intro x hx; simp at hx; rcases hx with rfl | rfl <;> assumption
theorem Try.infoA2 : (Try.prog.info? 108).map (fun i => (i.zero, i.size, i.bytes)) = some (some (.agg #[.int .i64 0, .int .i64 0]), 2, 16) := by kernel_rfl

/-- The pairs up to place j of row i. -/
def ptTo (n i j : Nat) : List Pr := (List.range i).flatMap (fun (a : Nat) => (List.range n).map (fun (b : Nat) => ((a : Int), (b : Int)))) ++ (List.range j).map (fun (b : Nat) => ((i : Int), (b : Int)))
def prsL (n : Nat) : List Pr := ptTo n n 0
theorem ptTo_zero (n : Nat) : ptTo n 0 0 = [] := rfl
theorem ptTo_succ (n i j : Nat) : ptTo n i (j + 1) = ptTo n i j ++ [((i : Int), (j : Int))] := by simp [ptTo, List.range_succ]
theorem ptTo_row (n i : Nat) : ptTo n i n = ptTo n (i + 1) 0 := by simp [ptTo, List.range_succ]
theorem ptTo_len (n i : Nat) : ∀ j, (ptTo n i j).length = i * n + j := by
  have h0 : ∀ i, ((List.range i).flatMap (fun (a : Nat) => (List.range n).map (fun (b : Nat) => ((a : Int), (b : Int))))).length = i * n := by
    intro i
    induction i with
    | zero => simp
    | succ i ih => rw [List.range_succ, List.flatMap_append, List.length_append, ih, Nat.add_mul]; simp
  intro j
  unfold ptTo
  rw [List.length_append, h0]; simp
theorem prsL_len (n : Nat) : (prsL n).length = n * n := by unfold prsL; rw [ptTo_len]; rfl
theorem prsL_mem {n : Nat} {p : Pr} (h : p ∈ prsL n) : ∃ i j : Nat, i < n ∧ j < n ∧ p = ((i : Int), (j : Int)) := by
  simp only [prsL, ptTo, List.range_zero, List.map_nil, List.append_nil, List.mem_flatMap, List.mem_map, List.mem_range] at h
  obtain ⟨i, hi, j, hj, rfl⟩ := h
  exact ⟨i, j, hi, hj, rfl⟩
/-- A list of pairs comes back. -/
def P2B (R : List Pr) (w : World) : Ending → World → Prop := fun e w' => ∃ A' c', e = .returned (.slice A' R.length c') ∧ R.length ≤ c' ∧ P2In w' w.heap.size A' R ∧ Below w.heap.size w w'

set_option maxRecDepth 100000 in
set_option maxHeartbeats 8000000 in
theorem pairsOfS_any (A : Option Addr) (n c : Nat) (w : World) (hn : n ≤ 1000) :
    Calls Try.prog 90 #[.slice A n c] w (P2B (prsL n) w) := by
  obtain ⟨i0, hi0, hz0, hz1, hz2⟩ := info_parts Try.infoA2
  have HID := hide (fun W => indicesS_any A n c W (by omega))
  have HIL := hide (idxL_len n)
  have HLN := hide (fun i j => ptTo_len n i j)
  have HMU : Hid (∀ k, k < n → k * n + n ≤ 1000000) := hide (fun k hk => by
    have h1 : (k + 1) * n ≤ n * n := Nat.mul_le_mul_right n hk
    have h2 : n * n ≤ 1000 * 1000 := Nat.mul_le_mul hn hn
    rw [Nat.add_mul] at h1; omega)
  unfold prsL
  go_enter Try.func90, Try.ntmps90
  go_wp2_with fail
  refine (HID.out _).mono ?_
  rintro e w1 ⟨A9, c9, rfl, hc9, hI9, hb1⟩
  rw [HIL.out] at hc9 ⊢
  have HI9 := hide hI9.at_
  have hbs1 := hb1.size
  clear hI9
  go_wp2
  go_loopw [3, 11] (fun br i wr => ∃ k : Nat, k ≤ n ∧ i = .int .i64 k ∧ wr.ownsRow w1.heap.size 108 2 br (k * n) ((fl (ptTo n k 0)).map (.int .i64)) ∧ Below w1.heap.size w1 wr)
    (fun _ i _ => n - (intOf i).toNat)
  case atStart => exact ⟨0, by omega, rfl, by rw [ptTo_zero, Nat.zero_mul]; exact World.ownsRow_nil _ _ _ _, Below.refl _ _⟩
  case round =>
    obtain ⟨k, hk, rfl, hown, hB⟩ := hrel
    obtain ⟨Ab, cbb, rfl, hcap, _⟩ := cellsIn_of_own hown (by omega)
    have hbs := hB.size
    have HOWN := hide hown
    clear hown
    by_cases hlt : k < n
    · obtain ⟨b9, o9, rfl, hb9, hx9⟩ := HI9.out (by intro e; have := congrArg List.length e; rw [idxL_len] at this; simp at this; omega)
      have c9' : wr.cell? ⟨b9, o9 + k, none⟩ = some (.int .i64 (k : Int)) := (hB.cell (p := ⟨b9, o9 + k, none⟩) hb9).trans (hx9 k _ (idxL_get hlt))
      have hi : (k : Int) < n := by omega
      have h0 : (0 : Int) ≤ k := by omega
      have hmu := HMU.out k hlt
      obtain ⟨W1, hW1⟩ : ∃ W1, W1 = wr := ⟨_, rfl⟩
      subst hW1
      clear hx9
      go_wp2_with fail
      refine (HID.out _).mono ?_
      rintro e w2 ⟨A6, c6, rfl, hc6, hI6, hb2⟩
      rw [HIL.out] at hc6 ⊢
      obtain ⟨b6, o6, rfl, hL6, hb6, hx6, _⟩ := hI6 (by intro e; have := congrArg List.length e; rw [idxL_len] at this; simp at this; omega)
      have HX6 := hide (fun j (hj : j < n) => hx6 j _ (idxL_get hj))
      have HO2 := hide (own_go HOWN.out hb2)
      have hB2 := hB.trans (hb2.mono hbs)
      have hbs2 := hb2.size
      have HG0 := hide (fun g (h : (Value.slice Ab (k * n) cbb).ownBlock = some g) => (Or.inl (HOWN.out.lt g h).2 : g < W1.heap.size ∨ w2.heap.size ≤ g))
      clear hx6 hI6 c9' hb2
      go_wp2
      go_loopw [3, 18] (fun br i wr => ∃ j : Nat, j ≤ n ∧ i = .int .i64 j ∧ wr.ownsRow w1.heap.size 108 2 br (k * n + j) ((fl (ptTo n k j)).map (.int .i64)) ∧ Below w1.heap.size w1 wr ∧ (∀ g, br.ownBlock = some g → g < W1.heap.size ∨ w2.heap.size ≤ g) ∧ (∀ j, j < n → wr.cell? ⟨b6, o6 + j, none⟩ = some (.int .i64 (j : Int))) ∧ w2.heap.size ≤ wr.heap.size)
        (fun _ i _ => n - (intOf i).toNat)
      case atStart => exact ⟨0, by omega, rfl, HO2.out, hB2, HG0.out, HX6.out, Nat.le_refl _⟩
      case round =>
        obtain ⟨j, hj, rfl, hown, hB', hgb, hvv, hsr⟩ := hrel
        obtain ⟨Ab', cbb', rfl, hcap', _⟩ := cellsIn_of_own hown (by omega)
        have HOWN2 := hide hown
        have HGB := hide hgb
        have HVV := hide hvv
        clear hown hgb hvv
        have hbs' := hB'.size
        by_cases hlt2 : j < n
        · have cj := HVV.out j hlt2
          have hji : (j : Int) < n := by omega
          have hj0 : (0 : Int) ≤ j := by omega
          have HPS := hide (ptTo_succ n k j)
          go_wp2_with (at_builtin; refine wpList_append_own_at _ rfl (.tmp 22) (.tmp 26) 48 rfl w1.heap.size 108 i0 (.agg #[.int .i64 0, .int .i64 0]) 2 16 Try.underlying48 hi0 hz0 hz1 hz2 rfl (by decide) _ (k * n + j) _ rfl (HOWN2.out.alloc _) ⟨wr.heap.size, 0, none⟩ 1 1 [.int .i64 (k : Int), .int .i64 (j : Int)] rfl rfl (two_cell _ _) (two_one rfl rfl) (by unfold maxLen; omega) (by omega) (by simp; omega) ?_)
          intro v' w4' hown4 hg4 _ hblk
          obtain ⟨A4, c4, rfl, _, _⟩ := cellsIn_of_own hown4 (by omega)
          have H4 := hide hown4
          have hg34 : wr.grownBy w4' _ := grown_trans (World.grownBy_alloc wr _ _) hg4
          have hB4 := hB'.trans (grown_toBelow hg34 (by omega) (fun k hk => (HOWN2.out.lt k hk).1))
          have HV4 := hide (fun (q : Nat) (h : q < n) => hg34.cell (HVV.out q h) (fun e => by have := HGB.out b6 e.symm; omega))
          have HG4 := hide (fun (g : Nat) (h : (Value.slice A4 (k * n + j + 1) c4).ownBlock = some g) => show g < W1.heap.size ∨ w2.heap.size ≤ g from by
            rcases hblk with e | e
            · exact HGB.out g (by rw [← e]; exact h)
            · rw [e] at h; injection h with h; subst h; omega)
          have hs4' := hg34.size
          clear hown4 hg4 hg34 hblk
          go_wp2
          refine ⟨⟨j + 1, by omega, by go_num, ?_, hB4, HG4.out, HV4.out, by omega⟩, by simp [intOf]; omega⟩
          rw [HPS.out, fl_app, List.map_append]
          exact H4.out
        · obtain rfl : j = n := by omega
          have HRW := hide (ptTo_row j k)
          go_wp2
          refine ⟨⟨k + 1, by omega, by go_num, ?_, hB'⟩, by simp [intOf]; omega⟩
          rw [← HRW.out, Nat.add_mul, Nat.one_mul]
          exact HOWN2.out
    · obtain rfl : k = n := by omega
      obtain ⟨Ag, cg, e, _, hI⟩ := p2In_of_own HOWN.out
      injection e with e1 e2 e3
      subst e1 e3
      have HI := hide hI
      have HLL := hide (HLN.out k 0)
      clear hI
      go_wp2
      go_ret
      exact ⟨Ab, cbb, by rw [HLL.out]; rfl, by rw [HLL.out]; exact hcap, P2In.wider HI.out hbs1, hb1.trans (hB.mono hbs1)⟩

set_option maxRecDepth 100000 in
set_option maxHeartbeats 8000000 in
theorem thoseP_any (f : FuncId) (he : Enters Try.prog f) (caps : Array Value) (p : Pr → Bool) (A : Option Addr) (xs : List Pr) (c : Nat) (w : World) (hn : xs.length ≤ 1000000) (hA : P2At w w.heap.size A xs)
    (hf : ∀ x y, (x, y) ∈ xs → ∀ W, Below w.heap.size w W → Calls Try.prog f (#[.agg #[.int .i64 x, .int .i64 y]] ++ caps) W fun e w' => e = .returned (.bool (p (x, y))) ∧ Below W.heap.size W w') :
    Calls Try.prog 89 #[.slice A xs.length c, .func (.func f) #[] caps] w (P2B (xs.filter p) w) := by
  obtain ⟨i0, hi0, hz0, hz1, hz2⟩ := info_parts Try.infoA2
  have HF := hide hf
  have HX := hide hA
  have HLN : Hid (∀ k, ((xs.take k).filter p).length ≤ k) := hide (fun k => Nat.le_trans (List.length_filter_le _ _) (by simp; omega))
  obtain ⟨n, hL⟩ : ∃ n, xs.length = n := ⟨_, rfl⟩
  have HL := hide hL
  rw [hL] at hn ⊢
  clear hL hf hA
  unfold Enters at he
  go_enter Try.func89, Try.ntmps89
  go_wp2
  go_loopw [5, 10] (fun br i wr => ∃ k : Nat, k ≤ n ∧ i = .int .i64 k ∧ wr.ownsRow w.heap.size 108 2 br ((xs.take k).filter p).length ((fl ((xs.take k).filter p)).map (.int .i64)) ∧ Below w.heap.size w wr)
    (fun _ i _ => n - (intOf i).toNat)
  case atStart => exact ⟨0, by omega, rfl, by simp only [List.take_zero, List.filter_nil, List.length_nil]; exact World.ownsRow_nil _ _ _ _, Below.refl _ _⟩
  case round =>
    obtain ⟨k, hk, rfl, hown, hB⟩ := hrel
    obtain ⟨Ab, cbb, rfl, hcap, _⟩ := cellsIn_of_own hown (by omega)
    have hbs := hB.size
    have HOWN := hide hown
    clear hown
    by_cases hlt : k < n
    · obtain ⟨q, hq⟩ : ∃ q, xs[k]? = some q := ⟨xs[k]'(by rw [HL.out]; exact hlt), List.getElem?_eq_getElem _⟩
      obtain ⟨x, y⟩ := q
      obtain ⟨b, o, rfl, hb, e0, e1⟩ := HX.out.row hq
      have c0 : wr.cell? ⟨b, o + k * 2, none⟩ = some (.int .i64 x) := (hB.cell (p := ⟨b, o + k * 2, none⟩) hb).trans e0
      have c1 : wr.cell? ⟨b, o + k * 2 + 1, none⟩ = some (.int .i64 y) := (hB.cell (p := ⟨b, o + k * 2 + 1, none⟩) hb).trans e1
      have hi : (k : Int) < n := by omega
      have h0 : (0 : Int) ≤ k := by omega
      have hln := HLN.out k
      have hBA := hB.alloc hbs (.cells #[.int .i64 x, .int .i64 y] 108)
      have HC := hide (HF.out x y (List.mem_of_getElem? hq) _ hBA)
      have HOA := hide (HOWN.out.alloc (.cells #[.int .i64 x, .int .i64 y] 108))
      have HTK : Hid (xs.take (k + 1) = xs.take k ++ [(x, y)]) := hide (by rw [List.take_add_one, hq]; rfl)
      have rA := rangeAt_new' wr #[.int .i64 x, .int .i64 y] 108
      have hzA : wr.heap.size < (wr.alloc (.cells #[.int .i64 x, .int .i64 y] 108)).heap.size := by simp
      have HRA := hide (fun W (h : Below (wr.alloc (.cells #[.int .i64 x, .int .i64 y] 108)).heap.size (wr.alloc (.cells #[.int .i64 x, .int .i64 y] 108)) W) => rangeAt_below rA h hzA)
      clear e0 e1 hq rA
      cases hp : p (x, y)
      · have HE : Hid ((xs.take (k + 1)).filter p = (xs.take k).filter p) := hide (by rw [HTK.out, List.filter_append]; simp [hp])
        rw [hp] at HC
        go_wp2_with fail
        go_at_fn f
        refine HC.out.mono ?_
        rintro e w1 ⟨rfl, hb1⟩
        clear HRA HC
        go_wp2
        refine ⟨⟨k + 1, by omega, by go_num, ?_, hBA.trans (hb1.mono hBA.size)⟩, by simp [intOf]; omega⟩
        rw [HE.out]
        exact own_go HOA.out hb1
      · have HE : Hid ((xs.take (k + 1)).filter p = (xs.take k).filter p ++ [(x, y)]) := hide (by rw [HTK.out, List.filter_append]; simp [hp])
        rw [hp] at HC
        go_wp2_with fail
        go_at_fn f
        refine HC.out.mono ?_
        rintro e w1 ⟨rfl, hb1⟩
        have hown3 := own_go HOA.out hb1
        have hB3 := hBA.trans (hb1.mono hBA.size)
        have hs3 := hB3.size
        have hr3 := HRA.out w1 hb1
        have d0 : w1.cell? ⟨wr.heap.size, 0, none⟩ = some (.int .i64 x) := hr3 0 _ rfl
        have d1 : w1.cell? ⟨wr.heap.size, 1, none⟩ = some (.int .i64 y) := hr3 1 _ rfl
        clear hb1 HC HRA hr3 c0 c1
        go_wp2_with (at_builtin; refine wpList_append_own _ rfl (.tmp 17) (.tmp 19) 48 rfl w.heap.size 108 i0 (.agg #[.int .i64 0, .int .i64 0]) 2 16 Try.underlying48 hi0 hz0 hz1 hz2 rfl (by decide) _ ((xs.take k).filter p).length _ rfl (hown3.alloc _) ⟨w1.heap.size, 0, none⟩ 1 1 [.int .i64 x, .int .i64 y] rfl rfl (two_cell _ _) (two_one rfl rfl) ?h1 ?h2 ?h3 ?_)
        case h1 => unfold maxLen; omega
        case h2 => omega
        case h3 => simp; omega
        intro v' w4 hown4 hg4 _
        obtain ⟨A4, c4, rfl, _, _⟩ := cellsIn_of_own hown4 (by omega)
        have H4 := hide hown4
        have hg34 : w1.grownBy w4 _ := grown_trans (World.grownBy_alloc w1 _ _) hg4
        have hB4 := hB3.trans (grown_toBelow hg34 (by omega) (fun k hk => (hown3.lt k hk).1))
        clear hown4 hg4 hg34 hown3
        go_wp2
        refine ⟨⟨k + 1, by omega, by go_num, ?_, hB4⟩, by simp [intOf]; omega⟩
        rw [HE.out, fl_app, List.map_append, List.length_append]
        exact H4.out
    · obtain rfl : k = n := by omega
      obtain ⟨Ag, cg, e, _, hI⟩ := p2In_of_own HOWN.out
      injection e with e1 e2 e3
      subst e1 e3
      have HI := hide hI
      have HTA : Hid (xs.take k = xs) := hide (by rw [← HL.out]; exact List.take_length)
      clear hI
      rw [HTA.out] at HI hcap ⊢
      go_wp2
      go_ret
      exact ⟨Ab, cbb, rfl, hcap, HI.out, hB⟩
theorem filter_prs_len (n : Nat) (p : Pr → Bool) (h : n ≤ 12) : ((prsL n).filter p).length ≤ 144 := by
  refine Nat.le_trans (List.length_filter_le _ _) ?_
  rw [prsL_len]
  exact Nat.mul_le_mul h h
/-- Nothing holds in this part of the row. -/
theorem filter_row {n i a : Nat} {p : Pr → Bool} : ∀ b, a ≤ b → (∀ j, a ≤ j → j < b → p ((i : Int), (j : Int)) = false) → (ptTo n i b).filter p = (ptTo n i a).filter p := by
  intro b
  induction b with
  | zero => intro hab _; obtain rfl : a = 0 := by omega
            rfl
  | succ b ih =>
    intro hab h
    by_cases e : a = b + 1
    · subst e; rfl
    · rw [ptTo_succ, List.filter_append, ih (by omega) (fun j h1 h2 => h j h1 (by omega))]
      simp [h b (by omega) (by omega)]
theorem filter_app {n i j : Nat} {p : Pr → Bool} (h : p ((i : Int), (j : Int)) = true) : (ptTo n i (j + 1)).filter p = (ptTo n i j).filter p ++ [((i : Int), (j : Int))] := by
  rw [ptTo_succ, List.filter_append]; simp [h]
theorem filter_skip {n i j : Nat} {p : Pr → Bool} (h : p ((i : Int), (j : Int)) = false) : (ptTo n i (j + 1)).filter p = (ptTo n i j).filter p := by
  rw [ptTo_succ, List.filter_append]; simp [h]

end Go.Proofs.Ytajlbfbpkafjfaa
