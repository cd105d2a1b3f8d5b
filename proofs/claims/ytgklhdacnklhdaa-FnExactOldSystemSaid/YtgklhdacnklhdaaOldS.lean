/- The old system: the model's. -/
import Derived.Test.YtgklhdacnklhdaaSyBack
import Derived.Test.YtgklhdacnklhdaaFlat
import Derived.Deep.RegionLaw
import Derived.Deep.AppendLies
namespace Go.Proofs.Ytgklhdacnklhdaa
open Go.RowKit

def oldSg : List Dub := [(77, 1000), (68, 500), (67, 100), (76, 50), (88, 10), (86, 5), (73, 1)]
def oldMn : List Dub := [(67, 68), (67, 77), (73, 86), (73, 88), (88, 67), (88, 76)]
def OldS : Sy := ⟨oldSg, oldMn⟩
theorem Try.infoSign3 : (Try.prog.info? 143).map (fun i => (i.zero, i.size, i.bytes)) = some (some (.agg #[.int .u8 0, .int .i16 0]), 2, 4) := by kernel_rfl
theorem Try.infoA23 : (Try.prog.info? 144).map (fun i => (i.zero, i.size, i.bytes)) = some (some (.agg #[.int .u8 0, .int .u8 0]), 2, 2) := by kernel_rfl
theorem ownsBelow {w w' : World} {base e sz n : Nat} {v : Value} {cs : List Value} (h : w.ownsRow base e sz v n cs) (hb : Below w.heap.size w w') : w'.ownsRow base e sz v n cs :=
  h.kept (row := none) (grown_below hb) (by cases v.ownBlock with | none => exact .inl rfl | some g => exact .inr (fun e => by cases e))
theorem oldSg_bd {k : Nat} (h : k < 7) : (0 ≤ (oldSg.getD k (0, 0)).1 ∧ (oldSg.getD k (0, 0)).1 ≤ 255) ∧ 1 ≤ (oldSg.getD k (0, 0)).2 ∧ (oldSg.getD k (0, 0)).2 ≤ 1000 := by
  match k, h with
  | 0, _ => decide
  | 1, _ => decide
  | 2, _ => decide
  | 3, _ => decide
  | 4, _ => decide
  | 5, _ => decide
  | 6, _ => decide
theorem run_letter0 (w : World) : (Instr.index 9 (.string { data := #[77, 68, 67, 76, 88, 86, 73] }) (.int .i64 0)).run Try.prog w = .ok (.int .u8 77) w := by kernel_rfl
theorem run_letter1 (w : World) : (Instr.index 9 (.string { data := #[77, 68, 67, 76, 88, 86, 73] }) (.int .i64 1)).run Try.prog w = .ok (.int .u8 68) w := by kernel_rfl
theorem run_letter2 (w : World) : (Instr.index 9 (.string { data := #[77, 68, 67, 76, 88, 86, 73] }) (.int .i64 2)).run Try.prog w = .ok (.int .u8 67) w := by kernel_rfl
theorem run_letter3 (w : World) : (Instr.index 9 (.string { data := #[77, 68, 67, 76, 88, 86, 73] }) (.int .i64 3)).run Try.prog w = .ok (.int .u8 76) w := by kernel_rfl
theorem run_letter4 (w : World) : (Instr.index 9 (.string { data := #[77, 68, 67, 76, 88, 86, 73] }) (.int .i64 4)).run Try.prog w = .ok (.int .u8 88) w := by kernel_rfl
theorem run_letter5 (w : World) : (Instr.index 9 (.string { data := #[77, 68, 67, 76, 88, 86, 73] }) (.int .i64 5)).run Try.prog w = .ok (.int .u8 86) w := by kernel_rfl
theorem run_letter6 (w : World) : (Instr.index 9 (.string { data := #[77, 68, 67, 76, 88, 86, 73] }) (.int .i64 6)).run Try.prog w = .ok (.int .u8 73) w := by kernel_rfl
theorem run_letter {k : Nat} (h : k < 7) (w : World) : (Instr.index 9 (.string { data := #[77, 68, 67, 76, 88, 86, 73] }) (.int .i64 (k : Int))).run Try.prog w = .ok (.int .u8 (oldSg.getD k (0, 0)).1) w := by
  match k, h with
  | 0, _ => exact run_letter0 w
  | 1, _ => exact run_letter1 w
  | 2, _ => exact run_letter2 w
  | 3, _ => exact run_letter3 w
  | 4, _ => exact run_letter4 w
  | 5, _ => exact run_letter5 w
  | 6, _ => exact run_letter6 w

theorem run_pl0 (w : World) : (Instr.index 9 (.string { data := #[67, 68, 67, 77, 73, 86, 73, 88, 88, 67, 88, 76] }) (.int .i64 0)).run Try.prog w = .ok (.int .u8 67) w := by kernel_rfl
theorem run_pl1 (w : World) : (Instr.index 9 (.string { data := #[67, 68, 67, 77, 73, 86, 73, 88, 88, 67, 88, 76] }) (.int .i64 1)).run Try.prog w = .ok (.int .u8 68) w := by kernel_rfl
theorem run_pl2 (w : World) : (Instr.index 9 (.string { data := #[67, 68, 67, 77, 73, 86, 73, 88, 88, 67, 88, 76] }) (.int .i64 2)).run Try.prog w = .ok (.int .u8 67) w := by kernel_rfl
theorem run_pl3 (w : World) : (Instr.index 9 (.string { data := #[67, 68, 67, 77, 73, 86, 73, 88, 88, 67, 88, 76] }) (.int .i64 3)).run Try.prog w = .ok (.int .u8 77) w := by kernel_rfl
theorem run_pl4 (w : World) : (Instr.index 9 (.string { data := #[67, 68, 67, 77, 73, 86, 73, 88, 88, 67, 88, 76] }) (.int .i64 4)).run Try.prog w = .ok (.int .u8 73) w := by kernel_rfl
theorem run_pl5 (w : World) : (Instr.index 9 (.string { data := #[67, 68, 67, 77, 73, 86, 73, 88, 88, 67, 88, 76] }) (.int .i64 5)).run Try.prog w = .ok (.int .u8 86) w := by kernel_rfl
theorem run_pl6 (w : World) : (Instr.index 9 (.string { data := #[67, 68, 67, 77, 73, 86, 73, 88, 88, 67, 88, 76] }) (.int .i64 6)).run Try.prog w = .ok (.int .u8 73) w := by kernel_rfl
theorem run_pl7 (w : World) : (Instr.index 9 (.string { data := #[67, 68, 67, 77, 73, 86, 73, 88, 88, 67, 88, 76] }) (.int .i64 7)).run Try.prog w = .ok (.int .u8 88) w := by kernel_rfl
theorem run_pl8 (w : World) : (Instr.index 9 (.string { data := #[67, 68, 67, 77, 73, 86, 73, 88, 88, 67, 88, 76] }) (.int .i64 8)).run Try.prog w = .ok (.int .u8 88) w := by kernel_rfl
theorem run_pl9 (w : World) : (Instr.index 9 (.string { data := #[67, 68, 67, 77, 73, 86, 73, 88, 88, 67, 88, 76] }) (.int .i64 9)).run Try.prog w = .ok (.int .u8 67) w := by kernel_rfl
theorem run_pl10 (w : World) : (Instr.index 9 (.string { data := #[67, 68, 67, 77, 73, 86, 73, 88, 88, 67, 88, 76] }) (.int .i64 10)).run Try.prog w = .ok (.int .u8 88) w := by kernel_rfl
theorem run_pl11 (w : World) : (Instr.index 9 (.string { data := #[67, 68, 67, 77, 73, 86, 73, 88, 88, 67, 88, 76] }) (.int .i64 11)).run Try.prog w = .ok (.int .u8 76) w := by kernel_rfl
theorem run_pairA {k : Nat} (h : k < 6) (w : World) : (Instr.index 9 (.string { data := #[67, 68, 67, 77, 73, 86, 73, 88, 88, 67, 88, 76] }) (.int .i64 (2 * (k : Int)))).run Try.prog w = .ok (.int .u8 (oldMn.getD k (0, 0)).1) w := by
  match k, h with
  | 0, _ => exact run_pl0 w
  | 1, _ => exact run_pl2 w
  | 2, _ => exact run_pl4 w
  | 3, _ => exact run_pl6 w
  | 4, _ => exact run_pl8 w
  | 5, _ => exact run_pl10 w
theorem run_pairB {k : Nat} (h : k < 6) (w : World) : (Instr.index 9 (.string { data := #[67, 68, 67, 77, 73, 86, 73, 88, 88, 67, 88, 76] }) (.int .i64 (2 * (k : Int) + 1))).run Try.prog w = .ok (.int .u8 (oldMn.getD k (0, 0)).2) w := by
  match k, h with
  | 0, _ => exact run_pl1 w
  | 1, _ => exact run_pl3 w
  | 2, _ => exact run_pl5 w
  | 3, _ => exact run_pl7 w
  | 4, _ => exact run_pl9 w
  | 5, _ => exact run_pl11 w
theorem a2c_len : ∀ a, (a2c a).length = 2 := fun _ => rfl
theorem a2c_one : ∀ a, ∀ u ∈ a2c a, u.oneCell' = true := by
  intro a u hu; simp [a2c] at hu; rcases hu with rfl | rfl <;> rfl
theorem sgcL : ∀ a, (sgc a).length = 2 := fun _ => rfl

set_option maxRecDepth 100000 in
set_option maxHeartbeats 16000000 in
theorem l03Old_any (w : World) : Calls Try.prog 107 #[] w (SysRet OldS w) := by
  obtain ⟨i0, hi0, hz0, hz1, hz2⟩ := info_parts Try.infoSign3
  obtain ⟨i1, hi1, ha0, ha1, ha2⟩ := info_parts Try.infoA23
  go_enter Try.func107, Try.ntmps107
  go_wp2
  have rv : ((((w.alloc (.cells #[.slice none 0 0, .slice none 0 0] 69)).alloc (.cells #[.int .i64 1000, .int .i64 500, .int .i64 100, .int .i64 50, .int .i64 10, .int .i64 5, .int .i64 1] 2)).alloc (.cells #[.slice none 0 0, .slice none 0 0] 69))).rangeAt (w.heap.size + 1) 0 (oldSg.map fun p => .int .i64 p.2) := World.rangeAt_alloc (rangeAt_newg (by simp) rfl) _
  have rb : ((((w.alloc (.cells #[.slice none 0 0, .slice none 0 0] 69)).alloc (.cells #[.int .i64 1000, .int .i64 500, .int .i64 100, .int .i64 50, .int .i64 10, .int .i64 5, .int .i64 1] 2)).alloc (.cells #[.slice none 0 0, .slice none 0 0] 69))).rangeAt (w.heap.size + 1 + 1) 0 [.slice none 0 0, .slice none 0 0] := rangeAt_newg (by simp) rfl
  have tb : ((((w.alloc (.cells #[.slice none 0 0, .slice none 0 0] 69)).alloc (.cells #[.int .i64 1000, .int .i64 500, .int .i64 100, .int .i64 50, .int .i64 10, .int .i64 5, .int .i64 1] 2)).alloc (.cells #[.slice none 0 0, .slice none 0 0] 69))).there (w.heap.size + 1 + 1) 0 2 := there_newg (by simp) rfl
  have tr : ((((w.alloc (.cells #[.slice none 0 0, .slice none 0 0] 69)).alloc (.cells #[.int .i64 1000, .int .i64 500, .int .i64 100, .int .i64 50, .int .i64 10, .int .i64 5, .int .i64 1] 2)).alloc (.cells #[.slice none 0 0, .slice none 0 0] 69))).there w.heap.size 0 2 := World.there_alloc (World.there_alloc (there_newg rfl rfl) _) _
  have b0 : Below w.heap.size w ((((w.alloc (.cells #[.slice none 0 0, .slice none 0 0] 69)).alloc (.cells #[.int .i64 1000, .int .i64 500, .int .i64 100, .int .i64 50, .int .i64 10, .int .i64 5, .int .i64 1] 2)).alloc (.cells #[.slice none 0 0, .slice none 0 0] 69))) := (((Below.refl _ _).alloc (Nat.le_refl _) _).alloc (by simp) _).alloc (by simp only [World.size_alloc]; omega) _
  have s0 : ((((w.alloc (.cells #[.slice none 0 0, .slice none 0 0] 69)).alloc (.cells #[.int .i64 1000, .int .i64 500, .int .i64 100, .int .i64 50, .int .i64 10, .int .i64 5, .int .i64 1] 2)).alloc (.cells #[.slice none 0 0, .slice none 0 0] 69))).heap.size = w.heap.size + 1 + 1 + 1 := by simp
  generalize ((((w.alloc (.cells #[.slice none 0 0, .slice none 0 0] 69)).alloc (.cells #[.int .i64 1000, .int .i64 500, .int .i64 100, .int .i64 50, .int .i64 10, .int .i64 5, .int .i64 1] 2)).alloc (.cells #[.slice none 0 0, .slice none 0 0] 69))) = W0 at *
  have e1 := rangeAt_cell rb (k := 1) rfl
  have e0 := rangeAt_cell rb (k := 0) rfl
  clear rb
  go_loopw [4] (fun i wr => ∃ (k : Nat) (v : Value), k ≤ 7 ∧ i = .int .i64 k ∧ wr.cell? ⟨w.heap.size + 1 + 1, 0, none⟩ = some v ∧ wr.cell? ⟨w.heap.size + 1 + 1, 1, none⟩ = some (.slice none 0 0) ∧
      wr.ownsRow (w.heap.size + 1 + 1 + 1) 143 2 v k ((oldSg.take k).flatMap sgc) ∧ wr.there (w.heap.size + 1 + 1) 0 2 ∧ wr.there w.heap.size 0 2 ∧ Below w.heap.size w wr ∧ w.heap.size + 1 + 1 + 1 ≤ wr.heap.size ∧ wr.rangeAt (w.heap.size + 1) 0 (oldSg.map fun p => .int .i64 p.2))
    (fun i _ => 7 - (intOf i).toNat)
  case atStart => exact ⟨0, _, by omega, rfl, e0, e1, World.ownsRow_nil _ _ _ _, tb, tr, b0, by omega, rv⟩
  case round =>
    obtain ⟨k, v, hk, rfl, f0, f1, hown, tb', tr', hB, hsz, rv'⟩ := hrel
    clear e0 e1 rv tb tr b0
    by_cases hlt : k < 7
    · have hi : (k : Int) < 7 := by omega
      have h0 : (0 : Int) ≤ k := by omega
      have hidx := fun w => run_letter hlt w
      have hc : wr.cell? ⟨w.heap.size + 1, k, none⟩ = some (.int .i64 (oldSg.getD k (0, 0)).2) := rangeAt_cell rv' (by
        match k, hlt with
        | 0, _ => rfl
        | 1, _ => rfl
        | 2, _ => rfl
        | 3, _ => rfl
        | 4, _ => rfl
        | 5, _ => rfl
        | 6, _ => rfl)
      have HT := hide (show (oldSg.take (k + 1)).flatMap sgc = (oldSg.take k).flatMap sgc ++ sgc (oldSg.getD k (0, 0)) by
        match k, hlt with
        | 0, _ => rfl
        | 1, _ => rfl
        | 2, _ => rfl
        | 3, _ => rfl
        | 4, _ => rfl
        | 5, _ => rfl
        | 6, _ => rfl)
      obtain ⟨⟨p1, p2⟩, p3, p4⟩ := oldSg_bd hlt
      generalize oldSg.getD k (0, 0) = p at *
      obtain ⟨x, y⟩ := p
      simp only at hidx hc p1 p2 p3 p4
      have HR := hide rv'
      have HTB := hide tb'
      have HTR := hide tr'
      clear rv' tr'
      obtain ⟨u0, d0, g0⟩ := there_some HTB.out (j := 0) (by omega)
      simp only [Nat.zero_add] at d0 g0
      clear d0
      go_wp2
      have hw16 := IntWalk.i16_in y ⟨by omega, by omega⟩
      have HF0 := hide f0
      have HF1 := hide f1
      have hend : ∀ g cap w1, w1.ownsRow (w.heap.size + 1 + 1 + 1) 143 2 (.slice (some ⟨g, 0, none⟩) (k + 1) cap) (k + 1) ((oldSg.take k).flatMap sgc ++ sgc (x, y)) → (wr.drew.alloc (.cells #[.int .u8 x, .int .i16 y] 143)).grownBy w1 v.ownBlock →
          (w1.setCell ⟨w.heap.size + 1 + 1, 0, none⟩ (.slice (some ⟨g, 0, none⟩) (k + 1) cap)).cell? ⟨w.heap.size + 1 + 1, 0, none⟩ = some (.slice (some ⟨g, 0, none⟩) (k + 1) cap) ∧
          (w1.setCell ⟨w.heap.size + 1 + 1, 0, none⟩ (.slice (some ⟨g, 0, none⟩) (k + 1) cap)).cell? ⟨w.heap.size + 1 + 1, 1, none⟩ = some (.slice none 0 0) ∧
          (w1.setCell ⟨w.heap.size + 1 + 1, 0, none⟩ (.slice (some ⟨g, 0, none⟩) (k + 1) cap)).ownsRow (w.heap.size + 1 + 1 + 1) 143 2 (.slice (some ⟨g, 0, none⟩) (k + 1) cap) (k + 1) ((oldSg.take (k + 1)).flatMap sgc) ∧
          (w1.setCell ⟨w.heap.size + 1 + 1, 0, none⟩ (.slice (some ⟨g, 0, none⟩) (k + 1) cap)).there (w.heap.size + 1 + 1) 0 2 ∧ (w1.setCell ⟨w.heap.size + 1 + 1, 0, none⟩ (.slice (some ⟨g, 0, none⟩) (k + 1) cap)).there w.heap.size 0 2 ∧
          Below w.heap.size w (w1.setCell ⟨w.heap.size + 1 + 1, 0, none⟩ (.slice (some ⟨g, 0, none⟩) (k + 1) cap)) ∧ w.heap.size + 1 + 1 + 1 ≤ (w1.setCell ⟨w.heap.size + 1 + 1, 0, none⟩ (.slice (some ⟨g, 0, none⟩) (k + 1) cap)).heap.size ∧
          (w1.setCell ⟨w.heap.size + 1 + 1, 0, none⟩ (.slice (some ⟨g, 0, none⟩) (k + 1) cap)).rangeAt (w.heap.size + 1) 0 (oldSg.map fun p => .int .i64 p.2) := by
        intro g cap w1 ho hg
        have hba : Below wr.heap.size wr (wr.drew.alloc (.cells #[.int .u8 x, .int .i16 y] 143)) := (Below.refl _ _).drew.alloc (Nat.le_refl _) _
        have hz : wr.heap.size + 1 = (wr.drew.alloc (.cells #[.int .u8 x, .int .i16 y] 143)).heap.size := by simp
        have nb : ∀ b, b < w.heap.size + 1 + 1 + 1 → some b ≠ v.ownBlock := fun b hb e => by have := (hown.lt _ e.symm).1; omega
        have gz := hg.size
        have gg := (ho.lt g rfl).1
        have c0 : w1.there (w.heap.size + 1 + 1) 0 2 := grown_there hg (there_below tb' hba (by omega)) (by omega) (nb _ (by omega))
        have c1 : w1.cell? ⟨w.heap.size + 1 + 1, 1, none⟩ = some (.slice none 0 0) := by
          rw [World.cell?_of_block (a := ⟨w.heap.size + 1 + 1, 1, none⟩) (hg.block (w.heap.size + 1 + 1) (by omega) (nb _ (by omega))), hba.cell (p := ⟨w.heap.size + 1 + 1, 1, none⟩) (by show w.heap.size + 1 + 1 < _; omega)]; exact HF1.out
        obtain ⟨u0, d0, _⟩ := there_some c0 (j := 0) (by omega)
        simp only [Nat.zero_add] at d0
        have hB1 : Below w.heap.size w w1 := (hB.trans (hba.mono hB.size)).trans (grown_toBelow hg (by omega) (fun k hk => by have := (hown.lt _ hk).1; omega))
        refine ⟨World.cell?_setCell_same' _ _ _ (by rw [d0]; rfl), ?_, ?_, there_set c0 _ _, there_set (grown_there hg (there_below HTR.out hba (by omega)) (by omega) (nb _ (by omega))) _ _, hB1.setCell (p := ⟨w.heap.size + 1 + 1, 0, none⟩) (by show w.heap.size ≤ w.heap.size + 1 + 1; omega) _, by rw [size_setCell]; omega, ?_⟩
        · rw [World.cell?_setCell_other _ _ _ _ (by intro h; injection h with _ h; omega)]; exact c1
        · rw [HT.out]
          exact ho.kept (grown_set (grown_refl w1 _) 0 (.slice (some ⟨g, 0, none⟩) (k + 1) cap)) (.inr (fun e => by injection e with e; change g = w.heap.size + 1 + 1 at e; omega))
        · exact rangeAt_far (grown_row hg (rangeAt_below HR.out hba (by omega)) (by omega) (nb _ (by omega))) (by show w.heap.size + 1 + 1 ≠ w.heap.size + 1; omega) _
      have HEND := hide hend
      clear hend f1 g0
      have HOWN := hide hown
      have HNB := hide (show some (w.heap.size + 1 + 1) ≠ v.ownBlock from fun e => by have := (hown.lt _ e.symm).1; omega)
      have HBA := hide (show Below wr.heap.size wr (wr.drew.alloc (.cells #[.int .u8 x, .int .i16 y] 143)) from (Below.refl _ _).drew.alloc (Nat.le_refl _) _)
      have HST := hide (fun w1 (g : (wr.drew.alloc (.cells #[.int .u8 x, .int .i16 y] 143)).grownBy w1 v.ownBlock) => show w1.cell? ⟨w.heap.size + 1 + 1, 0, none⟩ = some v ∧ w1.frozen? ⟨w.heap.size + 1 + 1, 0, none⟩ = false by
        have hb : w.heap.size + 1 + 1 < (wr.drew.alloc (.cells #[.int .u8 x, .int .i16 y] 143)).heap.size := by simp; omega
        have h1 := grown_row g (rangeAt_below (b := w.heap.size + 1 + 1) (o := 0) (cs := [v]) (w := wr) (fun j u hu => by
          match j, hu with
          | 0, hu => obtain rfl : v = u := by simpa using hu
                     exact f0
          | j + 1, hu => simp at hu) HBA.out (by omega)) hb HNB.out 0 _ rfl
        have h2 := grown_there g (there_below tb' HBA.out (by omega)) hb HNB.out 0 (by omega)
        exact ⟨h1, h2.2⟩)
      have HNEW := hide (show ∀ j u, (sgc (x, y))[j]? = some u → (wr.drew.alloc (.cells #[.int .u8 x, .int .i16 y] 143)).cell? ((⟨wr.heap.size, 0, none⟩ : Addr).add j) = some u from fun j u hu => by
        rw [addAt, Nat.zero_add]
        have := (rangeAt_new wr.drew (sgc (x, y)) 143) j u hu
        rw [Nat.zero_add] at this; exact this)
      have HONE := hide (show ∀ u ∈ sgc (x, y), u.oneCell' = true by intro u hu; simp [sgc] at hu; rcases hu with rfl | rfl <;> rfl)
      clear hown f0
      have f0 : wr.cell? ⟨w.heap.size + 1 + 1, 0, none⟩ = some v := HF0.out
      have f0a : (wr.alloc (.cells #[.int .u8 x, .int .i16 y] 143)).cell? ⟨w.heap.size + 1 + 1, 0, none⟩ = some v := by rw [World.cell?_alloc_lt _ _ _ (by show w.heap.size + 1 + 1 < _; omega)]; exact HF0.out
      clear tb'
      go_region_law (refine step_append_lies _ rfl (.tmp 16) (.tmp 26) 67 rfl (w.heap.size + 1 + 1 + 1) 143 i0 _ 2 4 Try.underlying67 hi0 hz0 hz1 hz2 rfl (by decide) v k _ (by simp [Act.eval, Act.put]) (ownsBelow HOWN.out ((Below.refl _ _).drew.alloc (Nat.le_refl _) _)) ⟨wr.heap.size, 0, none⟩ 1 1 (sgc (x, y)) (by simp [Act.eval, Act.put]) rfl (fun j u hu => HNEW.out j u hu) HONE.out (by omega) (by unfold maxLen; omega) (by omega) (by simp; omega) _ rfl ?_; intro g cap w1 hown1 hgrow hor hlt1; obtain ⟨hs0, hs1⟩ := HST.out w1 hgrow)
      all_goals
        obtain ⟨q1, q2, q3, q4, q5, q6, q7, q8⟩ := HEND.out g cap w1 hown1 hgrow
        go_wp2
        exact ⟨⟨k + 1, _, by omega, by go_num, q1, q2, q3, q4, q5, q6, q7, q8⟩, by simp [intOf]; omega⟩
    · obtain rfl : k = 7 := by omega
      rw [show (oldSg.take 7) = oldSg from rfl] at hown
      obtain ⟨A0, cA, rfl, hc0, hP⟩ := rowsIn_of_own sgcL (by omega) hown rfl
      clear hown rv' hlt
      go_wp2
      obtain ⟨W1, hW1⟩ : ∃ W, W = wr := ⟨_, rfl⟩
      subst hW1
      go_loopw [6] (fun i wr => ∃ (k : Nat) (v : Value), k ≤ 6 ∧ i = .int .i64 (2 * (k : Int)) ∧ wr.cell? ⟨w.heap.size + 1 + 1, 1, none⟩ = some v ∧ wr.cell? ⟨w.heap.size + 1 + 1, 0, none⟩ = some (.slice A0 7 cA) ∧
          wr.ownsRow W1.heap.size 144 2 v k ((oldMn.take k).flatMap a2c) ∧ wr.there (w.heap.size + 1 + 1) 0 2 ∧ wr.there w.heap.size 0 2 ∧ Below w.heap.size w wr ∧ W1.heap.size ≤ wr.heap.size ∧ SgIn wr (w.heap.size + 1 + 1 + 1) A0 oldSg)
        (fun i _ => 12 - (intOf i).toNat)
      case atStart => exact ⟨0, _, by omega, rfl, f1, f0, World.ownsRow_nil _ _ _ _, tb', tr', hB, Nat.le_refl _, hP⟩
      case round =>
        have hbl := hP.blk
        have HBL := hide hbl
        clear f0 f1 tb' tr' hB hP hbl
        obtain ⟨k, v, hk, rfl, f1, f0, hown, tb', tr', hB, hszW, hP⟩ := hrel
        by_cases hlt : k < 6
        · have hi : 2 * (k : Int) < 12 := by omega
          have h0 : (0 : Int) ≤ 2 * k := by omega
          have hi2 : 2 * (k : Int) + 1 < 12 := by omega
          have h01 : (0 : Int) ≤ 2 * (k : Int) + 1 := by omega
          have hsum := IntWalk.i64_in (2 * (k : Int) + 1) ⟨by omega, by omega⟩
          have hidx := fun w => run_pairA hlt w
          have hidx2 := fun w => run_pairB hlt w
          have HT := hide (show (oldMn.take (k + 1)).flatMap a2c = (oldMn.take k).flatMap a2c ++ a2c (oldMn.getD k (0, 0)) by
            match k, hlt with
            | 0, _ => rfl
            | 1, _ => rfl
            | 2, _ => rfl
            | 3, _ => rfl
            | 4, _ => rfl
            | 5, _ => rfl)
          generalize oldMn.getD k (0, 0) = p at *
          obtain ⟨x, y⟩ := p
          simp only at hidx hidx2
          have HTR := hide tr'
          have HP := hide hP
          clear tr' hP
          go_wp2
          have HFa := hide f1
          have HFb := hide f0
          have hend : ∀ g cap w1, w1.ownsRow W1.heap.size 144 2 (.slice (some ⟨g, 0, none⟩) (k + 1) cap) (k + 1) ((oldMn.take k).flatMap a2c ++ a2c (x, y)) → (wr.drew.alloc (.cells #[.int .u8 x, .int .u8 y] 144)).grownBy w1 v.ownBlock →
              (w1.setCell ⟨w.heap.size + 1 + 1, 1, none⟩ (.slice (some ⟨g, 0, none⟩) (k + 1) cap)).cell? ⟨w.heap.size + 1 + 1, 1, none⟩ = some (.slice (some ⟨g, 0, none⟩) (k + 1) cap) ∧
              (w1.setCell ⟨w.heap.size + 1 + 1, 1, none⟩ (.slice (some ⟨g, 0, none⟩) (k + 1) cap)).cell? ⟨w.heap.size + 1 + 1, 0, none⟩ = some (.slice A0 7 cA) ∧
              (w1.setCell ⟨w.heap.size + 1 + 1, 1, none⟩ (.slice (some ⟨g, 0, none⟩) (k + 1) cap)).ownsRow W1.heap.size 144 2 (.slice (some ⟨g, 0, none⟩) (k + 1) cap) (k + 1) ((oldMn.take (k + 1)).flatMap a2c) ∧
              (w1.setCell ⟨w.heap.size + 1 + 1, 1, none⟩ (.slice (some ⟨g, 0, none⟩) (k + 1) cap)).there (w.heap.size + 1 + 1) 0 2 ∧ (w1.setCell ⟨w.heap.size + 1 + 1, 1, none⟩ (.slice (some ⟨g, 0, none⟩) (k + 1) cap)).there w.heap.size 0 2 ∧
              Below w.heap.size w (w1.setCell ⟨w.heap.size + 1 + 1, 1, none⟩ (.slice (some ⟨g, 0, none⟩) (k + 1) cap)) ∧ W1.heap.size ≤ (w1.setCell ⟨w.heap.size + 1 + 1, 1, none⟩ (.slice (some ⟨g, 0, none⟩) (k + 1) cap)).heap.size ∧
              SgIn (w1.setCell ⟨w.heap.size + 1 + 1, 1, none⟩ (.slice (some ⟨g, 0, none⟩) (k + 1) cap)) (w.heap.size + 1 + 1 + 1) A0 oldSg := by
            intro g cap w1 ho hg
            have hba : Below wr.heap.size wr (wr.drew.alloc (.cells #[.int .u8 x, .int .u8 y] 144)) := (Below.refl _ _).drew.alloc (Nat.le_refl _) _
            have hz : wr.heap.size + 1 = (wr.drew.alloc (.cells #[.int .u8 x, .int .u8 y] 144)).heap.size := by simp
            have nb : ∀ b, b < W1.heap.size → some b ≠ v.ownBlock := fun b hb e => by have := (hown.lt _ e.symm).1; omega
            have gz := hg.size
            have gg := (ho.lt g rfl).1
            have tt0 : w1.there (w.heap.size + 1 + 1) 0 2 := grown_there hg (there_below tb' hba (by omega)) (by omega) (nb _ (by omega))
            have cc1 : w1.cell? ⟨w.heap.size + 1 + 1, 0, none⟩ = some (.slice A0 7 cA) := by
              rw [World.cell?_of_block (a := ⟨w.heap.size + 1 + 1, 0, none⟩) (hg.block (w.heap.size + 1 + 1) (by omega) (nb _ (by omega))), hba.cell (p := ⟨w.heap.size + 1 + 1, 0, none⟩) (by show w.heap.size + 1 + 1 < _; omega)]; exact HFb.out
            obtain ⟨u0, d0, _⟩ := there_some tt0 (j := 1) (by omega)
            simp only [Nat.zero_add] at d0
            have hB1 : Below w.heap.size w w1 := (hB.trans (hba.mono hB.size)).trans (grown_toBelow hg (by omega) (fun k hk => by have := (hown.lt _ hk).1; omega))
            refine ⟨World.cell?_setCell_same' _ _ _ (by rw [d0]; rfl), ?_, ?_, there_set tt0 _ _, there_set (grown_there hg (there_below HTR.out hba (by omega)) (by omega) (nb _ (by omega))) _ _, hB1.setCell (p := ⟨w.heap.size + 1 + 1, 1, none⟩) (by show w.heap.size ≤ w.heap.size + 1 + 1; omega) _, by rw [size_setCell]; omega, ?_⟩
            · rw [World.cell?_setCell_other _ _ _ _ (by intro h; injection h with _ h; omega)]; exact cc1
            · rw [HT.out]
              exact ho.kept (grown_set (grown_refl w1 _) 1 (.slice (some ⟨g, 0, none⟩) (k + 1) cap)) (.inr (fun e => by injection e with e; change g = w.heap.size + 1 + 1 at e; omega))
            · exact grown_rowsIn (grown_set (grown_refl w1 _) 1 (.slice (some ⟨g, 0, none⟩) (k + 1) cap)) (grown_rowsIn hg (HP.out.go hba) (fun b hb e => nb b (HBL.out b hb).2 e)) (fun b hb e => by have := HBL.out b hb; injection e with e; omega)
          have HEND := hide hend
          clear hend f0
          have HOWN := hide hown
          have HNB := hide (show some (w.heap.size + 1 + 1) ≠ v.ownBlock from fun e => by have := (hown.lt _ e.symm).1; omega)
          have HBA := hide (show Below wr.heap.size wr (wr.drew.alloc (.cells #[.int .u8 x, .int .u8 y] 144)) from (Below.refl _ _).drew.alloc (Nat.le_refl _) _)
          have HST := hide (fun w1 (g : (wr.drew.alloc (.cells #[.int .u8 x, .int .u8 y] 144)).grownBy w1 v.ownBlock) => show w1.cell? ⟨w.heap.size + 1 + 1, 1, none⟩ = some v ∧ w1.frozen? ⟨w.heap.size + 1 + 1, 1, none⟩ = false by
            have hb : w.heap.size + 1 + 1 < (wr.drew.alloc (.cells #[.int .u8 x, .int .u8 y] 144)).heap.size := by simp; omega
            have h1 := grown_row g (rangeAt_below (b := w.heap.size + 1 + 1) (o := 1) (cs := [v]) (w := wr) (fun j u hu => by
              match j, hu with
              | 0, hu => obtain rfl : v = u := by simpa using hu
                         exact f1
              | j + 1, hu => simp at hu) HBA.out (by omega)) hb HNB.out 0 _ rfl
            have h2 := grown_there g (there_below tb' HBA.out (by omega)) hb HNB.out 1 (by omega)
            exact ⟨h1, h2.2⟩)
          have HNEW := hide (show ∀ j u, (a2c (x, y))[j]? = some u → (wr.drew.alloc (.cells #[.int .u8 x, .int .u8 y] 144)).cell? ((⟨wr.heap.size, 0, none⟩ : Addr).add j) = some u from fun j u hu => by
            rw [addAt, Nat.zero_add]
            have := (rangeAt_new wr.drew (a2c (x, y)) 144) j u hu
            rw [Nat.zero_add] at this; exact this)
          have HONE := hide (show ∀ u ∈ a2c (x, y), u.oneCell' = true by intro u hu; simp [a2c] at hu; rcases hu with rfl | rfl <;> rfl)
          clear hown f1
          have f1 : wr.cell? ⟨w.heap.size + 1 + 1, 1, none⟩ = some v := HFa.out
          have f1a : (wr.alloc (.cells #[.int .u8 x, .int .u8 y] 144)).cell? ⟨w.heap.size + 1 + 1, 1, none⟩ = some v := by rw [World.cell?_alloc_lt _ _ _ (by show w.heap.size + 1 + 1 < _; omega)]; exact HFa.out
          clear tb'
          go_region_law (refine step_append_lies _ rfl (.tmp 36) (.tmp 45) 62 rfl W1.heap.size 144 i1 _ 2 2 Try.underlying62 hi1 ha0 ha1 ha2 rfl (by decide) v k _ (by simp [Act.eval, Act.put]) (ownsBelow HOWN.out ((Below.refl _ _).drew.alloc (Nat.le_refl _) _)) ⟨wr.heap.size, 0, none⟩ 1 1 (a2c (x, y)) (by simp [Act.eval, Act.put]) rfl (fun j u hu => HNEW.out j u hu) HONE.out (by omega) (by unfold maxLen; omega) (by omega) (by simp; omega) _ rfl ?_; intro g cap w1 hown1 hgrow hor hlt1; obtain ⟨hs0, hs1⟩ := HST.out w1 hgrow)
          all_goals
            obtain ⟨q1, q2, q3, q4, q5, q6, q7, q8⟩ := HEND.out g cap w1 hown1 hgrow
            go_wp2
            refine ⟨?_, by simp [intOf]; omega⟩
            (repeat apply Exists.intro)
            exact ⟨⟨k + 1, _, by omega, by (congr 1) <;> omega, q1, q2, q3, q4, q5, q6, q7, q8⟩, rfl⟩
        · obtain rfl : k = 6 := by omega
          rw [show (oldMn.take 6) = oldMn from rfl] at hown
          obtain ⟨A1, cB, rfl, hc1, hQ⟩ := rowsIn_of_own a2c_len (by omega) hown rfl
          obtain ⟨u0, d0, g0⟩ := there_some tr' (j := 0) (by omega)
          obtain ⟨u1, d1, g1⟩ := there_some tr' (j := 1) (by omega)
          simp only [Nat.zero_add] at d0 d1 g0 g1
          have HIN := hide (fun W (g : wr.grownBy W (some w.heap.size)) => show SyIn W w.heap.size A0 A1 OldS from
            ⟨(grown_rowsIn g hP (fun b hb e => by have := HBL.out b hb; injection e with e; omega)).wider (by omega), (grown_rowsIn g hQ (fun b hb e => by have := hQ.blk b hb; injection e with e; omega)).wider (by omega),
              fun k h1 h2 => by have := (HBL.out k h1).2; have := (hQ.blk k h2).1; omega⟩)
          clear hown hP hQ tb'
          go_wp2
          exact bodyPost_ret (results_mid rfl _ _ w.heap.size 0 [.slice A0 7 cA, .slice A1 6 cB] _ rfl (two_stored d0 d1 _ _) Try.underlying69 rfl (by kernel_rfl)) rfl
            ⟨A0, A1, cA, cB, rfl, HIN.out _ (grown_set (grown_set (grown_refl _ _) _ _) _ _), (hB.setCell (p := ⟨w.heap.size, 0, none⟩) (Nat.le_refl _) _).setCell (p := ⟨w.heap.size, 1, none⟩) (Nat.le_refl _) _⟩
end Go.Proofs.Ytgklhdacnklhdaa
