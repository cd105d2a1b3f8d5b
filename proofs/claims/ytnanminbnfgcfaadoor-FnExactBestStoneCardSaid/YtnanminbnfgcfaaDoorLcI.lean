/- The program's letters that can be kept. -/
import Derived.Test.YtnanminbnfgcfaaDoorLcT
import Derived.Test.YtnanminbnfgcfaaDoorChL
import Derived.ArgAppend
namespace Go.Proofs.YtnanminbnfgcfaaDoor
open Go Go.RowKit

/-- A slice of n bytes that lie apart from the block Y. -/
def SlAt (w : World) (Y : Nat) (v : Value) (n : Nat) : Prop :=
  (v = .slice none 0 0 ∧ n = 0) ∨ ∃ (g c : Nat) (olds : List Value), v = .slice (some ⟨g, 0, none⟩) n c ∧ g ≠ Y ∧ g < w.heap.size ∧ n ≤ c ∧ olds.length = n ∧ ∀ (j : Nat) u, olds[j]? = some u → w.cell? ⟨g, j, none⟩ = some u
theorem SlAt.form {w : World} {Y : Nat} {v : Value} {n : Nat} (h : SlAt w Y v n) : ∃ A c, v = .slice A n c ∧ n ≤ c := by
  rcases h with ⟨rfl, rfl⟩ | ⟨g, c, olds, rfl, _, _, h, _⟩
  · exact ⟨none, 0, rfl, Nat.le_refl _⟩
  · exact ⟨_, c, rfl, h⟩
theorem SlAt.below {w w' : World} {Y : Nat} {v : Value} {n : Nat} (h : SlAt w Y v n) (hb : Below w.heap.size w w') : SlAt w' Y v n := by
  rcases h with h | ⟨g, c, olds, h1, h2, h3, h4, h5, h6⟩
  · exact .inl h
  · exact .inr ⟨g, c, olds, h1, h2, Nat.lt_of_lt_of_le h3 hb.size, h4, h5, fun j u hu => (hb.cell (p := ⟨g, j, none⟩) h3).trans (h6 j u hu)⟩
theorem SlAt.set {w : World} {Y : Nat} {v : Value} {n : Nat} (h : SlAt w Y v n) (o : Nat) (u0 : Value) : SlAt (w.setCell ⟨Y, o, none⟩ u0) Y v n := by
  rcases h with h | ⟨g, c, olds, h1, h2, h3, h4, h5, h6⟩
  · exact .inl h
  · exact .inr ⟨g, c, olds, h1, h2, by rw [size_setCell]; exact h3, h4, h5, fun j u hu => (World.cell?_setCell_other _ _ _ _ (by intro e; injection e with e _; exact h2 e.symm)).trans (h6 j u hu)⟩
theorem SlAt.apart {w : World} {Y Y' : Nat} {v : Value} {n : Nat} (h : SlAt w Y v n) (hY : w.heap.size ≤ Y') : SlAt w Y' v n := by
  rcases h with h | ⟨g, c, olds, h1, h2, h3, h4⟩
  · exact .inl h
  · exact .inr ⟨g, c, olds, h1, by omega, h3, h4⟩

set_option maxRecDepth 100000 in
set_option maxHeartbeats 4000000 in
theorem with_any (v : Value) (n Y : Nat) (x : Int) (w : World) (hn : n ≤ 1000) (hv : SlAt w Y v n) (hY : Y < w.heap.size) :
    Calls Tryd.prog 79 #[v, .int .u8 x] w fun e w' => ∃ v', e = .returned v' ∧ SlAt w' Y v' (n + 1) ∧ Below w.heap.size w w' := by
  obtain ⟨i0, hi0, hz0, hz1, hz2⟩ := info_parts Tryd.infoU8
  have HNEW := hide (one_cell (w := w) (t := 5) (.int .u8 x))
  have hfin : ∀ (olds : List Value) (hl : olds.length = n) (v' : Value) (w' : World), w'.ownsRow (w.heap.size + 1) 5 1 v' (n + 1) (olds ++ [.int .u8 x]) → (w.alloc (.cells #[.int .u8 x] 5)).grownBy w' none → SlAt w' Y v' (n + 1) ∧ Below w.heap.size w w' := by
    intro olds hl v' w' hown hg
    have hb : Below w.heap.size w w' := by
      have := grown_toBelow (B := w.heap.size) (grown_trans (World.grownBy_alloc w (.cells #[.int .u8 x] 5) none) hg) (by omega) (fun k hk => by cases hk)
      exact this
    refine ⟨?_, hb⟩
    rcases hown.2 with ⟨_, h0⟩ | ⟨g, cap, cur, rfl, hbg, hg', hnc, _⟩
    · omega
    · have hlt := hown.lt g rfl
      refine .inr ⟨g, cap, olds ++ [.int .u8 x], rfl, by omega, hlt.2, hnc, by rw [List.length_append, hl]; rfl, fun j u hu => ?_⟩
      have := hown.cells (g := g) rfl j u hu
      rwa [addr_add g 0 j, Nat.zero_add] at this
  have HFIN := hide hfin
  clear hfin
  rcases hv with ⟨rfl, rfl⟩ | ⟨g, c, olds, rfl, h2, h3, h4, h5, h6⟩
  · go_enter Tryd.func79, Tryd.ntmps79
    go_wp2_with (at_builtin; refine wpList_append_grows _ rfl (.tmp 10) (.tmp 12) 68 rfl 5 i0 (.int .u8 0) 1 1 Tryd.underlying68 hi0 hz0 hz1 hz2 rfl (by decide) none 0 0 [] rfl (fun _ => ⟨rfl, rfl⟩) rfl (fun b h => by cases h) ⟨w.heap.size, 0, none⟩ 1 1 [.int .u8 x] rfl rfl HNEW.out (one_one rfl) ?h1 ?h2 ?h3 ?_)
    case h1 => omega
    case h2 => unfold maxLen; omega
    case h3 => omega
    intro v' w' hown hg
    have hq := hide (HFIN.out [] rfl v' w' (by simpa using hown) hg)
    clear hown hg
    go_wp2
    go_ret
    exact ⟨v', rfl, hq.out⟩
  · have H6 := hide (fun b (hb : (some ⟨g, 0, none⟩ : Option Addr) = some b) (j : Nat) u (hu : olds[j]? = some u) => show (w.alloc (.cells #[.int .u8 x] 5)).cell? (b.add j) = some u by
      injection hb with hb
      subst hb
      rw [addr_add g 0 j, Nat.zero_add]
      exact ((Below.refl w.heap.size w).alloc (Nat.le_refl _) _).cell (p := ⟨g, j, none⟩) h3 |>.trans (h6 j u hu))
    have H5 := hide h5
    have i0' : (0 : Int) ≤ n := by omega
    have i1 : (n : Int) ≤ c := by omega
    clear h6 h5
    go_enter Tryd.func79, Tryd.ntmps79
    go_wp2_with (at_builtin; refine wpList_append_grows _ rfl (.tmp 10) (.tmp 12) 68 rfl 5 i0 (.int .u8 0) 1 1 Tryd.underlying68 hi0 hz0 hz1 hz2 rfl (by decide) (some ⟨g, 0, none⟩) n n olds rfl (fun h => by cases h) ?h0 H6.out ⟨w.heap.size, 0, none⟩ 1 1 [.int .u8 x] rfl rfl HNEW.out (one_one rfl) ?h1 ?h2 ?h3 ?_)
    case h0 => rw [H5.out, Nat.mul_one]
    case h1 => omega
    case h2 => unfold maxLen; omega
    case h3 => omega
    intro v' w' hown hg
    have hq := hide (HFIN.out olds H5.out v' w' (by simpa using hown) hg)
    clear hown hg
    go_wp2
    go_ret
    exact ⟨v', rfl, hq.out⟩

set_option maxHeartbeats 2000000 in
theorem longer_any (v1 v2 : Value) (n1 n2 Y : Nat) (w : World) (h1 : SlAt w Y v1 n1) (h2 : SlAt w Y v2 n2) (hn1 : n1 ≤ 1000) (hn2 : n2 ≤ 1000) :
    Calls Tryd.prog 80 #[v1, v2] w fun e w' => ∃ v', e = .returned v' ∧ SlAt w Y v' (max n1 n2) ∧ w = w' := by
  obtain ⟨A1, c1, rfl, k1⟩ := h1.form
  obtain ⟨A2, c2, rfl, k2⟩ := h2.form
  have H1 := hide h1
  have H2 := hide h2
  clear h1 h2
  by_cases h : n1 < n2
  · have hi : (n1 : Int) < n2 := by omega
    go_enter Tryd.func80, Tryd.ntmps80
    go_wp2
    go_ret
    exact ⟨_, rfl, by rw [Nat.max_eq_right (by omega)]; exact H2.out, rfl⟩
  · have hi : ¬ (n1 : Int) < n2 := by omega
    go_enter Tryd.func80, Tryd.ntmps80
    go_wp2
    go_ret
    exact ⟨_, rfl, by rw [Nat.max_eq_left (by omega)]; exact H1.out, rfl⟩
end Go.Proofs.YtnanminbnfgcfaaDoor
