/- The program: sizes are put into stints, one behind the other. -/
import Derived.Test.YtjgcadohjccfaaaChP
import Derived.WalkMore
import Derived.ScopeJumps
namespace Go.Proofs.Ytjgcadohjccfaaa
open Go.RowKit

/-- A scope in which the run jumps back to one label: the passes first, then the way to the label. -/
theorem wp_scope_back {P : Program} {a : Act} {w : World} {Q : Exit → Act → World → Prop} {c R : Code} (l : Nat) (J : Act → World → Prop) (μ : Act → World → Nat) (hf : findLabel c l = some (Code.skip.seq R))
    (pass : ∀ a w, J a w → R.wp P (Exit.jump l (fun a' w' => J a' w' ∧ μ a' w' < μ a w) Q) a w)
    (first : (∀ a w, J a w → R.wp P (Exit.jump l J Q) a w) → c.wp P (Exit.jump l J Q) a w) : (Code.scope c).wp P Q a w :=
  wp_scope_jumps l J μ hf (first fun a w h => Go.wp_mono (pass a w h) (fun e a' w' hq => by
    cases e <;> first | exact hq | exact ⟨hq.1, hq.2.1⟩)) (fun a w h => wp_seq (wp_skip (pass a w h)))

set_option maxRecDepth 100000 in
set_option maxHeartbeats 4000000 in
theorem stintsOf_any (A : Option Addr) (xs : List Int) (c : Nat) (room : Int) (w : World) (hn : xs.length ≤ 60) (hx : ∀ x ∈ xs, 0 ≤ x ∧ x ≤ room) (hr : room ≤ 1000000) (h0 : 0 ≤ room) (hA : IntsAt w w.heap.size A xs) :
    Calls Try.prog 64 #[.slice A xs.length c, .int .i64 room] w (IntsB (stnL room xs) w) := by
  obtain ⟨i0, hi0, hz0, hz1, hz2⟩ := info_parts Try.infoI64
  have HX := hide hA
  have HSB := hide (stS_bd hx (Int.le_refl _) h0)
  have HXX := hide hx
  obtain ⟨n, hL⟩ : ∃ n, xs.length = n := ⟨_, rfl⟩
  have HL := hide hL
  have hmk := fun W => run_make_rowN (P := Try.prog) 35 2 i0 _ Try.underlying35 hi0 hz0 .i64 .i64 0 n (Nat.zero_le _) (by rw [hz2]; omega) (by omega) W
  rw [hL] at hn ⊢
  clear hL hA hx
  have hmk2 := hmk
  simp only [show ((0 : Nat) : Int) = 0 from rfl] at hmk2
  have hmk := hmk2
  clear hmk2
  change ∀ W, (Sem.run Try.prog (Instr.makeSlice 35 (.int .i64 0) (.int .i64 (n : Int))) W) = _ at hmk
  change ∀ W, (Sem.run Try.prog (Instr.makeSlice 35 (.int .i64 0) (.int .i64 (n : Int))) W) = _ at hmk
  change ∀ W, (Sem.run Try.prog (Instr.makeSlice 35 (.int .i64 0) (.int .i64 (n : Int))) W) = _ at hmk
  change ∀ W, (Sem.run Try.prog (Instr.makeSlice 35 (.int .i64 0) (.int .i64 (n : Int))) W) = _ at hmk
  change ∀ W, (Sem.run Try.prog (Instr.makeSlice 35 (.int .i64 0) (.int .i64 (n : Int))) W) = _ at hmk
  go_enter Try.func64, Try.ntmps64
  go_wp2
  refine wp_scope_back 0 (fun a' w' => ∃ (k : Nat) (br : Value) (u8 u9 u10 u11 u12 u13 u14 u15 u16 u17 u18 u19 u20 u21 u22 u23 u24 u25 u26 u27 u28 u29 u30 u31 u32 u33 u34 u35 u36 : Value), k ≤ n ∧ a' = { tmps := #[.slice A n c, .int .i64 room, undef, undef, .slice none 0 0, br, .int .i64 (stS room xs k).1, .int .i64 (stS room xs k).2, u8, u9, u10, u11, u12, u13, u14, u15, u16, u17, u18, u19, u20, u21, u22, u23, u24, u25, u26, u27, u28, u29, u30, u31, u32, u33, u34, u35, u36], defers := [] } ∧ w'.ownsRow w.heap.size 2 1 br k ((stnT room xs k).map (.int .i64)) ∧ Below w.heap.size w w') (fun a' _ => match a'.tmps.getD 5 undef with | .slice _ m _ => n - m | _ => 0) rfl ?_ ?_
  · rintro a' wr ⟨k, br, u8, u9, u10, u11, u12, u13, u14, u15, u16, u17, u18, u19, u20, u21, u22, u23, u24, u25, u26, u27, u28, u29, u30, u31, u32, u33, u34, u35, u36, hk, rfl, hown, hB⟩

    obtain ⟨Ab, cbb, rfl, hcap, _⟩ := cellsIn_of_own hown (by omega)
    have hbs := hB.size
    have HOWN := hide hown
    obtain ⟨hs1, hs2⟩ := HSB.out k (by rw [HL.out]; exact hk)
    clear hown hmk
    by_cases hlt : k < n
    · obtain ⟨b, o, rfl, hb, hxs⟩ := HX.out (by intro e; rw [e] at HL; have := HL.out; simp at this; omega)
      obtain ⟨x, hx⟩ : ∃ x, xs[k]? = some x := ⟨xs[k]'(by rw [HL.out]; exact hlt), List.getElem?_eq_getElem _⟩
      have c0 : wr.cell? ⟨b, o + k, none⟩ = some (.int .i64 x) := (hB.cell (p := ⟨b, o + k, none⟩) hb).trans (hxs k x hx)
      obtain ⟨hx1, hx2⟩ := HXX.out x (List.mem_of_getElem? hx)
      have hi : (k : Int) < n := by omega
      have hkn : ((k : Int) == (n : Int)) = false := by simp; omega
      have hk0 : (0 : Int) ≤ k := by omega
      have HSU := hide (stS_succ (room := room) hx)
      have HTU := hide (stnT_succ room xs k)
      clear hxs hx
      generalize hst : stS room xs k = p at hs1 hs2 HSU ⊢
      clear hst
      obtain ⟨st, le⟩ := p
      cases hgt : decide (le < x)
      · have HE := hide (stN_old (room := room) (p := (st, le)) (x := x) (by simpa using hgt))
        go_wp2_with (at_builtin; refine wpList_append_own _ rfl (.tmp 30) (.tmp 32) 35 rfl w.heap.size 2 i0 (.int .i64 0) 1 8 Try.underlying35 hi0 hz0 hz1 hz2 rfl (by decide) _ k _ rfl (HOWN.out.alloc _) ⟨wr.heap.size, 0, none⟩ 1 1 [.int .i64 (st)] rfl rfl (one_cell _) (one_one rfl) ?h1 ?h2 ?h3 ?_)
        case h1 => unfold maxLen; omega
        case h2 => omega
        case h3 => first | omega | simp
        intro v' w4 hown4 hg4 _
        obtain ⟨A4, c4, rfl, _, _⟩ := cellsIn_of_own hown4 (by omega)
        have H4 := hide hown4
        have hg34 : wr.grownBy w4 _ := grown_trans (World.grownBy_alloc wr _ _) hg4
        have hB4 := hB.trans (grown_toBelow hg34 (by omega) (fun k hk => (HOWN.out.lt k hk).1))
        clear hown4 hg4 hg34
        go_wp2
        go_step3
        refine ⟨rfl, ⟨k + 1, _, _, _, _, _, _, _, _, _, _, _, _, _, _, _, _, _, _, _, _, _, _, _, _, _, _, _, _, _, _, by omega, by rw [HSU.out, HE.out], ?_, hB4⟩, ?_⟩
        · rw [HTU.out, HSU.out, HE.out, List.map_append]
          exact H4.out
        · simp
          omega
      · have HE := hide (stN_new (room := room) (p := (st, le)) (x := x) (by simpa using hgt))
        go_wp2_with (at_builtin; refine wpList_append_own _ rfl (.tmp 30) (.tmp 32) 35 rfl w.heap.size 2 i0 (.int .i64 0) 1 8 Try.underlying35 hi0 hz0 hz1 hz2 rfl (by decide) _ k _ rfl (HOWN.out.alloc _) ⟨wr.heap.size, 0, none⟩ 1 1 [.int .i64 (st + 1)] rfl rfl (one_cell _) (one_one rfl) ?h1 ?h2 ?h3 ?_)
        case h1 => unfold maxLen; omega
        case h2 => omega
        case h3 => first | omega | simp
        intro v' w4 hown4 hg4 _
        obtain ⟨A4, c4, rfl, _, _⟩ := cellsIn_of_own hown4 (by omega)
        have H4 := hide hown4
        have hg34 : wr.grownBy w4 _ := grown_trans (World.grownBy_alloc wr _ _) hg4
        have hB4 := hB.trans (grown_toBelow hg34 (by omega) (fun k hk => (HOWN.out.lt k hk).1))
        clear hown4 hg4 hg34
        go_wp2
        go_step3
        refine ⟨rfl, ⟨k + 1, _, _, _, _, _, _, _, _, _, _, _, _, _, _, _, _, _, _, _, _, _, _, _, _, _, _, _, _, _, _, by omega, by rw [HSU.out, HE.out], ?_, hB4⟩, ?_⟩
        · rw [HTU.out, HSU.out, HE.out, List.map_append]
          exact H4.out
        · simp
          omega
    · obtain rfl : k = n := by omega
      obtain ⟨Ag, cg, e, _, hI⟩ := intsIn_of_own HOWN.out
      injection e with e1 e2 e3
      subst e1 e3
      have hkn : ((k : Int) == (k : Int)) = true := by simp
      have HI := hide hI
      have HTA : Hid (stnT room xs k = stnL room xs) := hide (by rw [← HL.out]; rfl)
      have HTL : Hid ((stnL room xs).length = k) := hide (by rw [stnL_len]; exact HL.out)
      clear hI
      rw [HTA.out] at HI
      go_wp2
      simp only [Exit.jump]
      go_ret
      exact ⟨Ab, cbb, by rw [HTL.out]; rfl, by rw [HTL.out]; exact hcap, HI.out, hB⟩

  · intro HP
    have HP := hide HP
    go_wp2
    go_step3
    rename_i hgo
    refine hgo _ _ ?_
    refine HP.out _ _ ⟨0, _, _, _, _, _, _, _, _, _, _, _, _, _, _, _, _, _, _, _, _, _, _, _, _, _, _, _, _, _, _, Nat.zero_le _, rfl, ?_, (Below.refl _ _).alloc (Nat.le_refl _) _⟩
    exact World.ownsRow_made w _ n (Nat.le_refl _) (by unfold maxLen; omega) (by simp [madeCells])
end Go.Proofs.Ytjgcadohjccfaaa
