/- The program's lists of numbers: all indices of a list, and those for which something holds. -/
import Derived.Test.YtngondeaeipcfaaGreatDoorIvB
import Derived.Test.YtngondeaeipcfaaGreatDoorWr
namespace Go.Proofs.YtngondeaeipcfaaGreatDoor
open Go.RowKit

/-- The first n indices. -/
def idxL (n : Nat) : List Int := (List.range n).map (fun (i : Nat) => (i : Int))
theorem idxL_len (n : Nat) : (idxL n).length = n := by simp [idxL]
theorem idxL_get {n k : Nat} (h : k < n) : (idxL n)[k]? = some (k : Int) := by simp [idxL, List.getElem?_range h]
theorem idxL_mem {n : Nat} {x : Int} (h : x ∈ idxL n) : ∃ k : Nat, k < n ∧ x = k := by
  obtain ⟨k, hk, rfl⟩ := List.mem_map.1 h
  exact ⟨k, List.mem_range.1 hk, rfl⟩
/-- A list of numbers comes back. -/
def IntsB (R : List Int) (w : World) : Ending → World → Prop := fun e w' => ∃ A' c', e = .returned (.slice A' R.length c') ∧ R.length ≤ c' ∧ IntsIn w' w.heap.size A' R ∧ Below w.heap.size w w'

set_option maxRecDepth 100000 in
set_option maxHeartbeats 4000000 in
theorem thoseI_any (f : FuncId) (he : Enters Tryz.prog f) (P Q : Nat) (p : Int → Bool) (A : Option Addr) (xs : List Int) (c : Nat) (w : World) (hn : xs.length ≤ 1048576) (hA : IntsAt w w.heap.size A xs)
    (hf : ∀ x ∈ xs, ∀ W, Below w.heap.size w W → Calls Tryz.prog f #[.int .i64 x, .pointer (some ⟨P, 0, none⟩), .pointer (some ⟨Q, 0, none⟩)] W fun e w' => e = .returned (.bool (p x)) ∧ Below W.heap.size W w') :
    Calls Tryz.prog 158 #[.slice A xs.length c, .func (.func f) #[] #[.pointer (some ⟨P, 0, none⟩), .pointer (some ⟨Q, 0, none⟩)]] w (IntsB (xs.filter p) w) := by
  obtain ⟨i0, hi0, hz0, hz1, hz2⟩ := info_parts Tryz.infoI64
  have HF := hide hf
  have HX := hide hA
  have HLN : Hid (∀ k, ((xs.take k).filter p).length ≤ k) := hide (fun k => Nat.le_trans (List.length_filter_le _ _) (by simp; omega))
  obtain ⟨n, hL⟩ : ∃ n, xs.length = n := ⟨_, rfl⟩
  have HL := hide hL
  rw [hL] at hn ⊢
  clear hL hf hA
  unfold Enters at he
  go_enter Tryz.func158, Tryz.ntmps158
  go_wp2
  go_loopw [5, 10] (fun br i wr => ∃ k : Nat, k ≤ n ∧ i = .int .i64 k ∧ wr.ownsRow w.heap.size 2 1 br ((xs.take k).filter p).length (((xs.take k).filter p).map (.int .i64)) ∧ Below w.heap.size w wr)
    (fun _ i _ => n - (intOf i).toNat)
  case atStart => exact ⟨0, by omega, rfl, by simp only [List.take_zero, List.filter_nil, List.map_nil, List.length_nil]; exact World.ownsRow_nil _ _ _ _, Below.refl _ _⟩
  case round =>
    obtain ⟨k, hk, rfl, hown, hB⟩ := hrel
    obtain ⟨Ab, cbb, rfl, hcap, _⟩ := cellsIn_of_own hown (by omega)
    have hbs := hB.size
    have HOWN := hide hown
    clear hown
    by_cases hlt : k < n
    · obtain ⟨b, o, rfl, hb, hxs⟩ := HX.out (by intro e; rw [e] at HL; have := HL.out; simp at this; omega)
      obtain ⟨x, hx⟩ : ∃ x, xs[k]? = some x := ⟨xs[k]'(by rw [HL.out]; exact hlt), List.getElem?_eq_getElem _⟩
      have c0 : wr.cell? ⟨b, o + k, none⟩ = some (.int .i64 x) := (hB.cell (p := ⟨b, o + k, none⟩) hb).trans (hxs k x hx)
      have hi : (k : Int) < n := by omega
      have h0 : (0 : Int) ≤ k := by omega
      have hln := HLN.out k
      have HC := hide (HF.out x (List.mem_of_getElem? hx) wr hB)
      have HTK : Hid (xs.take (k + 1) = xs.take k ++ [x]) := hide (by rw [List.take_add_one, hx]; rfl)
      clear hxs hx
      cases hp : p x
      · have HE : Hid ((xs.take (k + 1)).filter p = (xs.take k).filter p) := hide (by rw [HTK.out, List.filter_append]; simp [hp])
        rw [hp] at HC
        go_wp2_with (go_at_fn f; refine HC.out.mono ?_; rintro e w1 ⟨rfl, hb1⟩)
        refine ⟨⟨k + 1, by omega, by go_num, ?_, hB.trans (hb1.mono hbs)⟩, by simp [intOf]; omega⟩
        rw [HE.out]
        exact own_go HOWN.out hb1
      · have HE : Hid ((xs.take (k + 1)).filter p = (xs.take k).filter p ++ [x]) := hide (by rw [HTK.out, List.filter_append]; simp [hp])
        rw [hp] at HC
        go_wp2_with fail
        go_at_fn f
        refine HC.out.mono ?_
        rintro e w1 ⟨rfl, hb1⟩
        have hown3 := own_go HOWN.out hb1
        have hB3 := hB.trans (hb1.mono hbs)
        have hs3 := hB3.size
        clear hb1 HC
        go_wp2_with (at_builtin; refine wpList_append_own _ rfl (.tmp 17) (.tmp 19) 33 rfl w.heap.size 2 i0 (.int .i64 0) 1 8 Tryz.underlying33 hi0 hz0 hz1 hz2 rfl (by decide) _ ((xs.take k).filter p).length _ rfl (hown3.alloc _) ⟨w1.heap.size, 0, none⟩ 1 1 [.int .i64 x] rfl rfl (one_cell _) (one_one rfl) ?h1 ?h2 ?h3 ?_)
        case h1 => unfold maxLen; omega
        case h2 => omega
        case h3 => simp; omega
        intro v' w4 hown4 hg4 _
        obtain ⟨A4, c4, rfl, _, _⟩ := cellsIn_of_own hown4 (by omega)
        have H4 := hide hown4
        have hg34 : w1.grownBy w4 _ := grown_trans (World.grownBy_alloc w1 _ _) hg4
        have hB4 := hB3.trans (grown_toBelow hg34 (by omega) (fun k hk => (hown3.lt k hk).1))
        clear hown4 hg4 hg34 hown3
        go_wp2
        refine ⟨⟨k + 1, by omega, by go_num, ?_, hB4⟩, by simp [intOf]; omega⟩
        rw [HE.out, List.map_append, List.length_append]
        exact H4.out
    · obtain rfl : k = n := by omega
      obtain ⟨Ag, cg, e, _, hI⟩ := intsIn_of_own HOWN.out
      injection e with e1 e2 e3
      subst e1 e3
      have HI := hide hI
      have HTA : Hid (xs.take k = xs) := hide (by rw [← HL.out]; exact List.take_length)
      clear hI
      rw [HTA.out] at HI hcap ⊢
      go_wp2
      go_ret
      exact ⟨Ab, cbb, rfl, hcap, HI.out, hB⟩

set_option maxRecDepth 100000 in
set_option maxHeartbeats 4000000 in
theorem indicesS_any (A : Option Addr) (n c : Nat) (w : World) (hn : n ≤ 1048576) :
    Calls Tryz.prog 159 #[.slice A n c] w (IntsB (idxL n) w) := by
  obtain ⟨i0, hi0, hz0, hz1, hz2⟩ := info_parts Tryz.infoI64
  have hmk := fun W => run_make_rowN (P := Tryz.prog) 33 2 i0 _ Tryz.underlying33 hi0 hz0 .i64 .i64 n n (Nat.le_refl _) (by rw [hz2]; omega) (by omega) W
  go_enter Tryz.func159, Tryz.ntmps159
  go_wp2
  go_loopw [10] (fun i wr => ∃ k : Nat, k ≤ n ∧ i = .int .i64 k ∧ Below w.heap.size w wr ∧ w.heap.size < wr.heap.size ∧ wr.there w.heap.size 0 n ∧ (∀ j, j < k → wr.cell? ⟨w.heap.size, j, none⟩ = some (.int .i64 (j : Int))))
    (fun i _ => n - (intOf i).toNat)
  case atStart =>
    exact ⟨0, by omega, rfl, (Below.refl _ _).alloc (Nat.le_refl _) _, by simp, there_newg rfl (by simp [madeCells, hz1]), fun j hj => by omega⟩
  case round =>
    obtain ⟨k, hk, rfl, hB, hsz, ht, hr⟩ := hrel
    by_cases hlt : k < n
    · obtain ⟨v0, hv0, hf0⟩ := there_some ht (j := k) hlt
      simp only [Nat.zero_add] at hv0 hf0
      have hi : (k : Int) < n := by omega
      have h0 : (0 : Int) ≤ k := by omega
      have HR := hide hr
      clear hr hmk
      go_wp2
      refine ⟨⟨k + 1, by omega, by go_num, hB.setCell (p := ⟨w.heap.size, k, none⟩) (Nat.le_refl _) _, by rw [size_setCell]; exact hsz, there_set ht _ _, fun j hj => ?_⟩, by simp [intOf]; omega⟩
      by_cases e : j = k
      · subst e; exact World.cell?_setCell_same' _ _ _ (by rw [hv0]; rfl)
      · rw [World.cell?_setCell_other _ _ _ _ (by intro he; injection he with _ he; exact e he.symm)]
        exact HR.out j (by omega)
    · obtain rfl : k = n := by omega
      have hI : IntsIn wr w.heap.size (some ⟨w.heap.size, 0, none⟩) (idxL k) := fun _ => ⟨w.heap.size, 0, rfl, Nat.le_refl _, hsz, fun j x hx => by
        have hj := (List.getElem?_eq_some_iff.1 hx).1
        rw [idxL_len] at hj
        rw [idxL_get hj] at hx
        injection hx with hx
        rw [Nat.zero_add, ← hx]
        exact hr j hj, by rw [idxL_len]; exact ht⟩
      have HI := hide hI
      have HIL := hide (idxL_len k)
      clear hr ht hI
      go_wp2
      go_ret
      exact ⟨_, k, by rw [HIL.out]; rfl, by rw [HIL.out]; omega, HI.out, hB⟩
end Go.Proofs.YtngondeaeipcfaaGreatDoor
