/- The program: sizes are put into stints, one behind the other. · Times: whether they are as told, of both. · DaysFor, of both. -/
import Derived.Test.YtjgcadohjccfaaaChP
import Derived.WalkMore
import Derived.ScopeJumps
import Derived.LoopTactic
import Derived.Shelf.Abstract

namespace Go.Proofs.Ytjgcadohjccfaaa
open Go.RowKit

/-- A scope in which the run jumps back to one label: the passes first, then the way to the label. -/
theorem wp_scope_back {P : Program} {a : Act} {w : World} {Q : Exit → Act → World → Prop} {c R : Code} (l : Nat) (J : Act → World → Prop) (μ : Act → World → Nat) (hf : findLabel c l = some (Code.skip.seq R))
    (pass : ∀ a w, J a w → R.wp P (Exit.jump l (fun a' w' => J a' w' ∧ μ a' w' < μ a w) Q) a w)
    (first : (∀ a w, J a w → R.wp P (Exit.jump l J Q) a w) → c.wp P (Exit.jump l J Q) a w) : (Code.scope c).wp P Q a w :=
  wp_scope_jumps l J μ hf (first fun a w h => Go.wp_mono (pass a w h) (fun e a' w' hq => by
    cases e <;> first | exact hq | exact ⟨hq.1, hq.2.1⟩)) (fun a w h => wp_seq (wp_skip (pass a w h)))

set_option maxRecDepth 100000 in
set_option maxHeartbeats 4000000 in
theorem stintsOf_any (A : Option Addr) (xs : List Int) (c : Nat) (room : Int) (w : World) (hn : xs.length ≤ 60) (hx : ∀ x ∈ xs, 0 ≤ x ∧ x ≤ room) (hr : room ≤ 1000000) (h0 : 0 ≤ room) (hA : IntsAt w w.heap.size A xs) :
    Calls Try.prog 64 #[.slice A xs.length c, .int .i64 room] w (IntsB (stnL room xs) w) := by
  obtain ⟨i0, hi0, hz0, hz1, hz2⟩ := info_parts Try.infoI64
  have HX := hide hA
  have HSB := hide (stS_bd hx (Int.le_refl _) h0)
  have HXX := hide hx
  obtain ⟨n, hL⟩ : ∃ n, xs.length = n := ⟨_, rfl⟩
  have HL := hide hL
  have hmk := fun W => run_make_rowN (P := Try.prog) 35 2 i0 _ Try.underlying35 hi0 hz0 .i64 .i64 0 n (Nat.zero_le _) (by rw [hz2]; omega) (by omega) W
  rw [hL] at hn ⊢
  clear hL hA hx
  have hmk2 := hmk
  simp only [show ((0 : Nat) : Int) = 0 from rfl] at hmk2
  have hmk := hmk2
  clear hmk2
  change ∀ W, (Sem.run Try.prog (Instr.makeSlice 35 (.int .i64 0) (.int .i64 (n : Int))) W) = _ at hmk
  change ∀ W, (Sem.run Try.prog (Instr.makeSlice 35 (.int .i64 0) (.int .i64 (n : Int))) W) = _ at hmk
  change ∀ W, (Sem.run Try.prog (Instr.makeSlice 35 (.int .i64 0) (.int .i64 (n : Int))) W) = _ at hmk
  change ∀ W, (Sem.run Try.prog (Instr.makeSlice 35 (.int .i64 0) (.int .i64 (n : Int))) W) = _ at hmk
  change ∀ W, (Sem.run Try.prog (Instr.makeSlice 35 (.int .i64 0) (.int .i64 (n : Int))) W) = _ at hmk
  go_enter Try.func64, Try.ntmps64
  go_wp2
  refine wp_scope_back 0 (fun a' w' => ∃ (k : Nat) (br : Value) (u8 u9 u10 u11 u12 u13 u14 u15 u16 u17 u18 u19 u20 u21 u22 u23 u24 u25 u26 u27 u28 u29 u30 u31 u32 u33 u34 u35 u36 : Value), k ≤ n ∧ a' = { tmps := #[.slice A n c, .int .i64 room, undef, undef, .slice none 0 0, br, .int .i64 (stS room xs k).1, .int .i64 (stS room xs k).2, u8, u9, u10, u11, u12, u13, u14, u15, u16, u17, u18, u19, u20, u21, u22, u23, u24, u25, u26, u27, u28, u29, u30, u31, u32, u33, u34, u35, u36], defers := [] } ∧ w'.ownsRow w.heap.size 2 1 br k ((stnT room xs k).map (.int .i64)) ∧ Below w.heap.size w w') (fun a' _ => match a'.tmps.getD 5 undef with | .slice _ m _ => n - m | _ => 0) rfl ?_ ?_
  · rintro a' wr ⟨k, br, u8, u9, u10, u11, u12, u13, u14, u15, u16, u17, u18, u19, u20, u21, u22, u23, u24, u25, u26, u27, u28, u29, u30, u31, u32, u33, u34, u35, u36, hk, rfl, hown, hB⟩

    obtain ⟨Ab, cbb, rfl, hcap, _⟩ := cellsIn_of_own hown (by omega)
    have hbs := hB.size
    have HOWN := hide hown
    obtain ⟨hs1, hs2⟩ := HSB.out k (by rw [HL.out]; exact hk)
    clear hown hmk
    by_cases hlt : k < n
    · obtain ⟨b, o, rfl, hb, hxs⟩ := HX.out (by intro e; rw [e] at HL; have := HL.out; simp at this; omega)
      obtain ⟨x, hx⟩ : ∃ x, xs[k]? = some x := ⟨xs[k]'(by rw [HL.out]; exact hlt), List.getElem?_eq_getElem _⟩
      have c0 : wr.cell? ⟨b, o + k, none⟩ = some (.int .i64 x) := (hB.cell (p := ⟨b, o + k, none⟩) hb).trans (hxs k x hx)
      obtain ⟨hx1, hx2⟩ := HXX.out x (List.mem_of_getElem? hx)
      have hi : (k : Int) < n := by omega
      have hkn : ((k : Int) == (n : Int)) = false := by simp; omega
      have hk0 : (0 : Int) ≤ k := by omega
      have HSU := hide (stS_succ (room := room) hx)
      have HTU := hide (stnT_succ room xs k)
      clear hxs hx
      generalize hst : stS room xs k = p at hs1 hs2 HSU ⊢
      clear hst
      obtain ⟨st, le⟩ := p
      cases hgt : decide (le < x)
      · have HE := hide (stN_old (room := room) (p := (st, le)) (x := x) (by simpa using hgt))
        go_wp2_with (at_builtin; refine wpList_append_own _ rfl (.tmp 30) (.tmp 32) 35 rfl w.heap.size 2 i0 (.int .i64 0) 1 8 Try.underlying35 hi0 hz0 hz1 hz2 rfl (by decide) _ k _ rfl (HOWN.out.alloc _) ⟨wr.heap.size, 0, none⟩ 1 1 [.int .i64 (st)] rfl rfl (one_cell _) (one_one rfl) ?h1 ?h2 ?h3 ?_)
        case h1 => unfold maxLen; omega
        case h2 => omega
        case h3 => first | omega | simp
        intro v' w4 hown4 hg4 _
        obtain ⟨A4, c4, rfl, _, _⟩ := cellsIn_of_own hown4 (by omega)
        have H4 := hide hown4
        have hg34 : wr.grownBy w4 _ := grown_trans (World.grownBy_alloc wr _ _) hg4
        have hB4 := hB.trans (grown_toBelow hg34 (by omega) (fun k hk => (HOWN.out.lt k hk).1))
        clear hown4 hg4 hg34
        go_wp2
        go_step3
        refine ⟨rfl, ⟨k + 1, _, _, _, _, _, _, _, _, _, _, _, _, _, _, _, _, _, _, _, _, _, _, _, _, _, _, _, _, _, _, by omega, by rw [HSU.out, HE.out], ?_, hB4⟩, ?_⟩
        · rw [HTU.out, HSU.out, HE.out, List.map_append]
          exact H4.out
        · simp
          omega
      · have HE := hide (stN_new (room := room) (p := (st, le)) (x := x) (by simpa using hgt))
        go_wp2_with (at_builtin; refine wpList_append_own _ rfl (.tmp 30) (.tmp 32) 35 rfl w.heap.size 2 i0 (.int .i64 0) 1 8 Try.underlying35 hi0 hz0 hz1 hz2 rfl (by decide) _ k _ rfl (HOWN.out.alloc _) ⟨wr.heap.size, 0, none⟩ 1 1 [.int .i64 (st + 1)] rfl rfl (one_cell _) (one_one rfl) ?h1 ?h2 ?h3 ?_)
        case h1 => unfold maxLen; omega
        case h2 => omega
        case h3 => first | omega | simp
        intro v' w4 hown4 hg4 _
        obtain ⟨A4, c4, rfl, _, _⟩ := cellsIn_of_own hown4 (by omega)
        have H4 := hide hown4
        have hg34 : wr.grownBy w4 _ := grown_trans (World.grownBy_alloc wr _ _) hg4
        have hB4 := hB.trans (grown_toBelow hg34 (by omega) (fun k hk => (HOWN.out.lt k hk).1))
        clear hown4 hg4 hg34
        go_wp2
        go_step3
        refine ⟨rfl, ⟨k + 1, _, _, _, _, _, _, _, _, _, _, _, _, _, _, _, _, _, _, _, _, _, _, _, _, _, _, _, _, _, _, by omega, by rw [HSU.out, HE.out], ?_, hB4⟩, ?_⟩
        · rw [HTU.out, HSU.out, HE.out, List.map_append]
          exact H4.out
        · simp
          omega
    · obtain rfl : k = n := by omega
      obtain ⟨Ag, cg, e, _, hI⟩ := intsIn_of_own HOWN.out
      injection e with e1 e2 e3
      subst e1 e3
      have hkn : ((k : Int) == (k : Int)) = true := by simp
      have HI := hide hI
      have HTA : Hid (stnT room xs k = stnL room xs) := hide (by rw [← HL.out]; rfl)
      have HTL : Hid ((stnL room xs).length = k) := hide (by rw [stnL_len]; exact HL.out)
      clear hI
      rw [HTA.out] at HI
      go_wp2
      simp only [Exit.jump]
      go_ret
      exact ⟨Ab, cbb, by rw [HTL.out]; rfl, by rw [HTL.out]; exact hcap, HI.out, hB⟩

  · intro HP
    have HP := hide HP
    go_wp2
    go_step3
    rename_i hgo
    refine hgo _ _ ?_
    refine HP.out _ _ ⟨0, _, _, _, _, _, _, _, _, _, _, _, _, _, _, _, _, _, _, _, _, _, _, _, _, _, _, _, _, _, _, Nat.zero_le _, rfl, ?_, (Below.refl _ _).alloc (Nat.le_refl _) _⟩
    exact World.ownsRow_made w _ n (Nat.le_refl _) (by unfold maxLen; omega) (by simp [madeCells])
end Go.Proofs.Ytjgcadohjccfaaa

namespace Go.Proofs.Ytjgcadohjccfaaa
open Go.RowKit

set_option maxRecDepth 100000 in
set_option maxHeartbeats 2000000 in
theorem areAllI_any (f : FuncId) (he : Enters Try.prog f) (p : Int → Bool) (A : Option Addr) (xs : List Int) (c : Nat) (w : World) (hn : xs.length ≤ maxLen) (hA : IntsAt w w.heap.size A xs)
    (hf : ∀ x ∈ xs, ∀ W, Below w.heap.size w W → Calls Try.prog f #[.int .i64 x] W fun e w' => e = .returned (.bool (p x)) ∧ Below W.heap.size W w') :
    Calls Try.prog 93 #[.slice A xs.length c, .func (.func f) #[] #[]] w fun e w' => e = .returned (.bool (xs.all p)) ∧ Below w.heap.size w w' := by
  unfold maxLen at hn
  generalize hS : xs.all p = S
  have HS := hide hS
  have HF := hide hf
  clear hS hf
  unfold Enters at he
  go_enter Try.func93, Try.ntmps93
  go_wp2
  go_loopw [9] (fun i wr => ∃ k : Nat, k ≤ xs.length ∧ i = .int .i64 k ∧ Hid (∀ j x, j < k → xs[j]? = some x → p x = true) ∧ Below w.heap.size w wr) (fun i _ => xs.length - (intOf i).toNat)
  case atStart => exact ⟨0, Nat.zero_le _, rfl, hide (fun j x hj => by omega), Below.refl _ _⟩
  case round =>
    obtain ⟨k, hk, rfl, hg, hB⟩ := hrel
    by_cases hlt : k < xs.length
    · obtain ⟨b, o, rfl, hb, hxs⟩ := hA (by intro e; rw [e] at hlt; simp at hlt)
      obtain ⟨x, hxk⟩ : ∃ x, xs[k]? = some x := ⟨xs[k]'hlt, List.getElem?_eq_getElem _⟩
      have hc : wr.cell? ⟨b, o + k, none⟩ = some (.int .i64 x) := (hB.cell (p := ⟨b, o + k, none⟩) hb).trans (hxs k x hxk)
      have HX := hide hxk
      have hi : (k : Int) < xs.length := by omega
      have h0 : (0 : Int) ≤ k := by omega
      have HC := hide (HF.out x (List.mem_of_getElem? hxk) wr hB)
      clear hxs hxk
      cases hb : p x
      · rw [hb] at HC
        go_wp2_with (go_at_fn f; refine HC.out.mono ?_; rintro e w1 ⟨rfl, hb1⟩)
        go_ret
        exact ⟨ret_bool (by rw [← HS.out, all_false_of HX.out hb]), hB.trans (hb1.mono hB.size)⟩
      · rw [hb] at HC
        go_wp2_with (go_at_fn f; refine HC.out.mono ?_; rintro e w1 ⟨rfl, hb1⟩)
        exact ⟨⟨k + 1, by omega, by go_num, hide (fun j y hj hy => by
          by_cases e : j = k
          · subst e; rw [HX.out] at hy; injection hy with hy; subst hy; exact hb
          · exact hg.out j y (by omega) hy), hB.trans (hb1.mono hB.size)⟩, by simp [intOf]; omega⟩
    · have HA := hide (all_true_of (p := p) (xs := xs) (fun j x hj => hg.out j x (by omega)))
      have hk' : k = xs.length := by omega
      clear hg
      go_wp2
      go_ret
      exact ⟨ret_bool (by rw [← HS.out, HA.out]), hB⟩

/-- A time is as told; and all of them. -/
def timB (x : Int) : Bool := inB x 1 100000
/-- The code of times. -/
def tmC (xs : List Int) (fine : Bool) (most : Int) : Int := if (fine && xs.all timB) = true then if most < xs.length then 3 else 0 else 2
theorem tm_bad {xs : List Int} {fine : Bool} {most : Int} (h : (fine && xs.all timB) = false) : tmC xs fine most = 2 := by unfold tmC; rw [h]; rfl
theorem tm_many {xs : List Int} {fine : Bool} {most : Int} (h : (fine && xs.all timB) = true) (h' : most < xs.length) : tmC xs fine most = 3 := by unfold tmC; rw [if_pos h, if_pos h']
theorem tm_ok {xs : List Int} {fine : Bool} {most : Int} (h : (fine && xs.all timB) = true) (h' : ¬ most < xs.length) : tmC xs fine most = 0 := by unfold tmC; rw [if_pos h, if_neg h']
theorem tm_zero {xs : List Int} {fine : Bool} {most : Int} (h : tmC xs fine most = 0) : fine = true ∧ (∀ x ∈ xs, 1 ≤ x ∧ x ≤ 100000) ∧ (xs.length : Int) ≤ most := by
  unfold tmC at h
  split at h
  · rename_i h1
    simp only [Bool.and_eq_true] at h1
    split at h
    · cases h
    · exact ⟨h1.1, fun x hx => inB_true.1 (List.all_eq_true.1 h1.2 x hx), by omega⟩
  · cases h

theorem all_take_succ {p : Int → Bool} {xs : List Int} {k : Nat} {x : Int} (h : xs[k]? = some x) : (xs.take (k + 1)).all p = ((xs.take k).all p && p x) := by
  rw [List.take_add_one, h]; simp

end Go.Proofs.Ytjgcadohjccfaaa

namespace Go.Proofs.Ytjgcadohjccfaaa
open Go Go.RowKit

/-- Numbers, a number and a code come back. -/
def IntsBk3 (xs : List Int) (v code : Int) (w : World) : Ending → World → Prop := fun e w' =>
  ∃ A c, e = .returned (.tuple #[.slice A xs.length c, .int .i64 v, .int .i64 code]) ∧ IntsIn w' w.heap.size A xs ∧ Below w.heap.size w w'
/-- The greatest one of the first k numbers. -/
def maxTo (xs : List Int) : Nat → Int
  | 0 => xs.getD 0 0
  | k + 1 => max (maxTo xs k) (xs.getD k 0)
theorem maxTo_one (xs : List Int) : maxTo xs 1 = xs.getD 0 0 := by simp [maxTo]
theorem maxTo_le (xs : List Int) (d : Int) : ∀ k, maxTo xs (k + 1) ≤ d ↔ ∀ i, i < k + 1 → xs.getD i 0 ≤ d
  | 0 => by rw [maxTo_one]; exact ⟨fun h i hi => by obtain rfl : i = 0 := by omega
                                                    exact h, fun h => h 0 (by omega)⟩
  | k + 1 => by
    have ih := maxTo_le xs d k
    rw [maxTo]
    constructor
    · intro h0 i hi
      rcases Nat.lt_or_ge i (k + 1) with h1 | h1
      · exact ih.1 (by omega) i h1
      · obtain rfl : i = k + 1 := by omega
        omega
    · intro h0
      have h1 := ih.2 (fun i hi => h0 i (by omega))
      have h2 := h0 (k + 1) (by omega)
      omega
theorem ints_get1 {bs : List Int} {k : Nat} (h : k < bs.length) : bs[k]? = some (bs.getD k 0) := by
  rw [List.getD_eq_getElem?_getD, List.getElem?_eq_getElem h]; rfl

def leB (d x : Int) : Bool := decide (x ≤ d)
def dfT (xs : List Int) (d : Int) (k : Nat) : Int := if tmC xs (timB d) 12 ≠ 0 then tmC xs (timB d) 12 else if (xs.take k).all (leB d) = true then 0 else 6
def dfC (xs : List Int) (d : Int) : Int := if tmC xs (timB d) 12 ≠ 0 then tmC xs (timB d) 12 else if xs.all (leB d) = true then 0 else 6
def dfR (xs : List Int) (d : Int) : List Int := if dfC xs d = 0 then stnL d xs else []
def dfV (xs : List Int) (d : Int) : Int := if dfC xs d = 0 ∧ xs ≠ [] then (stS d xs xs.length).1 + 1 else 0
theorem df_all (xs : List Int) (d : Int) : dfT xs d xs.length = dfC xs d := by unfold dfT dfC; rw [List.take_length]
theorem df_stop {xs : List Int} {d : Int} {k : Nat} (h : dfT xs d k ≠ 0) : dfC xs d = dfT xs d k := by
  unfold dfT dfC at *
  split
  · rfl
  · rename_i h0
    rw [if_neg h0] at h
    cases h1 : (xs.take k).all (leB d)
    · have : xs.all (leB d) = false := by
        rw [Bool.eq_false_iff]; intro h2
        have : (xs.take k).all (leB d) = true := List.all_eq_true.2 fun x hx => List.all_eq_true.1 h2 x (List.mem_of_mem_take hx)
        rw [h1] at this; cases this
      rw [this]
    · rw [h1] at h; simp at h
theorem df_step {xs : List Int} {d x : Int} {k : Nat} (hx : xs[k]? = some x) (h : dfT xs d k = 0) : dfT xs d (k + 1) = if d < x then 6 else 0 := by
  unfold dfT at *
  split at h
  · rename_i h0; exact absurd h h0
  · rename_i h0
    rw [if_neg h0, all_take_succ hx]
    cases h1 : (xs.take k).all (leB d)
    · rw [h1] at h; simp at h
    · unfold leB
      by_cases h2 : d < x
      · have : ¬ x ≤ d := by omega
        simp [h2, this]
      · have : x ≤ d := by omega
        simp [h2, this]
theorem df_bad {xs : List Int} {d : Int} (h : dfC xs d ≠ 0) : dfR xs d = [] ∧ dfV xs d = 0 := by
  unfold dfR dfV; rw [if_neg h, if_neg (fun e => h e.1)]; exact ⟨rfl, rfl⟩
theorem df_ok {xs : List Int} {d : Int} (h : dfC xs d = 0) : tmC xs (timB d) 12 = 0 ∧ (1 ≤ d ∧ d ≤ 100000) ∧ (∀ x ∈ xs, 1 ≤ x ∧ x ≤ d) ∧ xs.length ≤ 12 := by
  unfold dfC at h
  split at h
  · rename_i h0; exact absurd h h0
  · rename_i h0
    have h1 : tmC xs (timB d) 12 = 0 := by simpa using h0
    obtain ⟨h2, h3, h4⟩ := tm_zero h1
    split at h
    · rename_i h5
      refine ⟨h1, inB_true.1 h2, fun x hx => ⟨(h3 x hx).1, ?_⟩, by omega⟩
      have := List.all_eq_true.1 h5 x hx
      simpa [leB] using this
    · cases h
theorem dfR_len (xs : List Int) (d : Int) : (dfR xs d).length ≤ 1048577 := by
  unfold dfR
  split
  · rename_i h; rw [stnL_len]; have := (df_ok h).2.2.2; omega
  · simp
/-- What the model knows behind k lines. -/
def dfP (xs : List Int) (d : Int) (k : Nat) : Int × Int := if k = 0 then (-1, 0) else stS d xs k
theorem dfP_zero (xs : List Int) (d : Int) : dfP xs d 0 = (-1, 0) := rfl
theorem dfP_pos {xs : List Int} {d : Int} {k : Nat} (h : k ≠ 0) : dfP xs d k = stS d xs k := if_neg h
theorem dfP_last {xs : List Int} {d : Int} (h : dfC xs d = 0) : (dfP xs d xs.length).1 + 1 = dfV xs d := by
  unfold dfV
  by_cases e : xs = []
  · subst e; simp [dfP]
  · rw [if_pos ⟨h, e⟩, dfP_pos (by intro h0; exact e (List.length_eq_zero_iff.1 h0))]

end Go.Proofs.Ytjgcadohjccfaaa
