/- DaysFor, of both. -/
import Derived.Test.YtkbemhjeflmppaaChD
namespace Go.Proofs.Ytkbemhjeflmppaa
open Go Go.RowKit

/-- Numbers, a number and a code come back. -/
def IntsBk3 (xs : List Int) (v code : Int) (w : World) : Ending → World → Prop := fun e w' =>
  ∃ A c, e = .returned (.tuple #[.slice A xs.length c, .int .i64 v, .int .i64 code]) ∧ IntsIn w' w.heap.size A xs ∧ Below w.heap.size w w'
/-- The greatest one of the first k numbers. -/
def maxTo (xs : List Int) : Nat → Int
  | 0 => xs.getD 0 0
  | k + 1 => max (maxTo xs k) (xs.getD k 0)
theorem maxTo_one (xs : List Int) : maxTo xs 1 = xs.getD 0 0 := by simp [maxTo]
theorem maxTo_le (xs : List Int) (d : Int) : ∀ k, maxTo xs (k + 1) ≤ d ↔ ∀ i, i < k + 1 → xs.getD i 0 ≤ d
  | 0 => by rw [maxTo_one]; exact ⟨fun h i hi => by obtain rfl : i = 0 := by omega
                                                    exact h, fun h => h 0 (by omega)⟩
  | k + 1 => by
    have ih := maxTo_le xs d k
    rw [maxTo]
    constructor
    · intro h0 i hi
      rcases Nat.lt_or_ge i (k + 1) with h1 | h1
      · exact ih.1 (by omega) i h1
      · obtain rfl : i = k + 1 := by omega
        omega
    · intro h0
      have h1 := ih.2 (fun i hi => h0 i (by omega))
      have h2 := h0 (k + 1) (by omega)
      omega
theorem ints_get1 {bs : List Int} {k : Nat} (h : k < bs.length) : bs[k]? = some (bs.getD k 0) := by
  rw [List.getD_eq_getElem?_getD, List.getElem?_eq_getElem h]; rfl

set_option maxRecDepth 100000 in
set_option maxHeartbeats 2000000 in
theorem maxS_any (A : Option Addr) (xs : List Int) (c : Nat) (w : World) (hn : xs.length ≤ maxLen) (h0 : 0 < xs.length) (hA : IntsAt w w.heap.size A xs) :
    Calls Try.prog 63 #[.slice A xs.length c] w fun e w' => e = .returned (.int .i64 (maxTo xs xs.length)) ∧ w = w' := by
  unfold maxLen at hn
  obtain ⟨b, o, rfl, hb, hc⟩ := hA (by intro e; rw [e] at h0; simp at h0)
  have HGET := hide (fun k hk => ints_get1 (bs := xs) (k := k) hk)
  have HC := hide hc
  have c0 := hc 0 _ (ints_get1 (bs := xs) h0)
  rw [Nat.add_zero] at c0
  rw [← maxTo_one] at c0
  have HMT := hide (fun k => show maxTo xs (k + 1) = max (maxTo xs k) (xs.getD k 0) from rfl)
  obtain ⟨m, hm⟩ : ∃ m, xs.length = m := ⟨_, rfl⟩
  rw [hm] at hn h0 HGET ⊢
  clear hm hc
  have hm1 : ¬ (m : Int) < 1 := by omega
  have hm0 : (0 : Int) < m := by omega
  go_enter Try.func63, Try.ntmps63
  go_wp2
  go_loop [3, 4] (fun v i => ∃ k : Nat, 1 ≤ k ∧ k ≤ m ∧ i = .int .i64 k ∧ v = .int .i64 (maxTo xs k))
    (fun _ i => m - (intOf i).toNat)
  case atStart => exact ⟨1, by omega, by omega, rfl, rfl⟩
  case round =>
    obtain ⟨k, hk1, hk, rfl, rfl⟩ := hrel
    by_cases hlt : k < m
    · have hi : (k : Int) < m := by omega
      have hi0 : (0 : Int) ≤ k := by omega
      have ck := HC.out k _ (HGET.out k hlt)
      have HS := hide (HMT.out k)
      clear c0
      generalize xs.getD k 0 = y at *
      generalize maxTo xs k = v at *
      go_wp2
      exact ⟨⟨k + 1, by omega, by omega, by go_num, by rw [HS.out]⟩, by simp [intOf]; omega⟩
    · obtain rfl : k = m := by omega
      go_wp2
      go_ret
      exact ⟨rfl, rfl⟩

/-! The data -/
def leB (d x : Int) : Bool := decide (x ≤ d)
def dfT (xs : List Int) (d : Int) (k : Nat) : Int := if tmC xs (timB d) 12 ≠ 0 then tmC xs (timB d) 12 else if (xs.take k).all (leB d) = true then 0 else 6
def dfC (xs : List Int) (d : Int) : Int := if tmC xs (timB d) 12 ≠ 0 then tmC xs (timB d) 12 else if xs.all (leB d) = true then 0 else 6
def dfR (xs : List Int) (d : Int) : List Int := if dfC xs d = 0 then stnL d xs else []
def dfV (xs : List Int) (d : Int) : Int := if dfC xs d = 0 ∧ xs ≠ [] then (stS d xs xs.length).1 + 1 else 0
theorem df_all (xs : List Int) (d : Int) : dfT xs d xs.length = dfC xs d := by unfold dfT dfC; rw [List.take_length]
theorem df_stop {xs : List Int} {d : Int} {k : Nat} (h : dfT xs d k ≠ 0) : dfC xs d = dfT xs d k := by
  unfold dfT dfC at *
  split
  · rfl
  · rename_i h0
    rw [if_neg h0] at h
    cases h1 : (xs.take k).all (leB d)
    · have : xs.all (leB d) = false := by
        rw [Bool.eq_false_iff]; intro h2
        have : (xs.take k).all (leB d) = true := List.all_eq_true.2 fun x hx => List.all_eq_true.1 h2 x (List.mem_of_mem_take hx)
        rw [h1] at this; cases this
      rw [this]
    · rw [h1] at h; simp at h
theorem df_step {xs : List Int} {d x : Int} {k : Nat} (hx : xs[k]? = some x) (h : dfT xs d k = 0) : dfT xs d (k + 1) = if d < x then 6 else 0 := by
  unfold dfT at *
  split at h
  · rename_i h0; exact absurd h h0
  · rename_i h0
    rw [if_neg h0, all_take_succ hx]
    cases h1 : (xs.take k).all (leB d)
    · rw [h1] at h; simp at h
    · unfold leB
      by_cases h2 : d < x
      · have : ¬ x ≤ d := by omega
        simp [h2, this]
      · have : x ≤ d := by omega
        simp [h2, this]
theorem df_bad {xs : List Int} {d : Int} (h : dfC xs d ≠ 0) : dfR xs d = [] ∧ dfV xs d = 0 := by
  unfold dfR dfV; rw [if_neg h, if_neg (fun e => h e.1)]; exact ⟨rfl, rfl⟩
theorem df_ok {xs : List Int} {d : Int} (h : dfC xs d = 0) : tmC xs (timB d) 12 = 0 ∧ (1 ≤ d ∧ d ≤ 100000) ∧ (∀ x ∈ xs, 1 ≤ x ∧ x ≤ d) ∧ xs.length ≤ 12 := by
  unfold dfC at h
  split at h
  · rename_i h0; exact absurd h h0
  · rename_i h0
    have h1 : tmC xs (timB d) 12 = 0 := by simpa using h0
    obtain ⟨h2, h3, h4⟩ := tm_zero h1
    split at h
    · rename_i h5
      refine ⟨h1, inB_true.1 h2, fun x hx => ⟨(h3 x hx).1, ?_⟩, by omega⟩
      have := List.all_eq_true.1 h5 x hx
      simpa [leB] using this
    · cases h
theorem dfR_len (xs : List Int) (d : Int) : (dfR xs d).length ≤ 1048577 := by
  unfold dfR
  split
  · rename_i h; rw [stnL_len]; have := (df_ok h).2.2.2; omega
  · simp
/-- What the model knows behind k lines. -/
def dfP (xs : List Int) (d : Int) (k : Nat) : Int × Int := if k = 0 then (-1, 0) else stS d xs k
theorem dfP_zero (xs : List Int) (d : Int) : dfP xs d 0 = (-1, 0) := rfl
theorem dfP_pos {xs : List Int} {d : Int} {k : Nat} (h : k ≠ 0) : dfP xs d k = stS d xs k := if_neg h
theorem dfP_last {xs : List Int} {d : Int} (h : dfC xs d = 0) : (dfP xs d xs.length).1 + 1 = dfV xs d := by
  unfold dfV
  by_cases e : xs = []
  · subst e; simp [dfP]
  · rw [if_pos ⟨h, e⟩, dfP_pos (by intro h0; exact e (List.length_eq_zero_iff.1 h0))]

set_option maxRecDepth 100000 in
set_option maxHeartbeats 8000000 in
theorem specDaysFor_any (A : Option Addr) (xs : List Int) (c : Nat) (hn : xs.length ≤ maxLen) (d : Int) (hd : (Lit.int .i64 d).wf = true) (w : World) (hA : IntsAt w w.heap.size A xs) :
    Calls Try.prog 19 #[.slice A xs.length c, .int .i64 d] w (IntsBk3 (dfR xs d) (dfV xs d) (dfC xs d) w) := by
  obtain ⟨i0, hi0, hz0, hz1, hz2⟩ := info_parts Try.infoI64
  have HT := hide (l05Times_any A xs c (timB d) 12 w (by omega) hn hA)
  have HX := hide hA
  have HSTEP := hide (fun k x (hx : xs[k]? = some x) h => df_step (d := d) hx h)
  have HSTOP := hide (fun k h => df_stop (xs := xs) (d := d) (k := k) h)
  have HALL := hide (df_all xs d)
  have H0 := hide (show dfT xs d 0 = tmC xs (timB d) 12 by unfold dfT; simp; intro h; exact h.symm)
  unfold maxLen at hn
  clear hA
  go_enter Try.func19, Try.ntmps19
  go_wp2_with (first | (go_at_call 61; refine (l05Minutes_any _ _).mono ?_; rintro e w' ⟨rfl, rfl⟩) | (go_at_call 60; refine HT.out.mono ?_; rintro e w' ⟨rfl, rfl⟩))
  rw [← H0.out]
  go_loop [7, 8] (fun cd i => ∃ k : Nat, k ≤ xs.length ∧ i = .int .i64 k ∧ cd = .int .i64 (dfT xs d k)) (fun _ i => xs.length - (intOf i).toNat)
  case atStart => exact ⟨0, Nat.zero_le _, rfl, rfl⟩
  case round =>
    obtain ⟨k, hk, rfl, rfl⟩ := hrel
    by_cases hC : dfT xs d k = 0
    · have HS := hide (fun x hx => HSTEP.out k x hx hC)
      have HCC := hide hC
      rw [hC]
      by_cases hlt : k < xs.length
      · obtain ⟨b, o, rfl, hb, hxs⟩ := HX.out (by intro e; rw [e] at hlt; simp at hlt)
        obtain ⟨x, hxk⟩ : ∃ x, xs[k]? = some x := ⟨xs[k]'hlt, List.getElem?_eq_getElem _⟩
        have hc := hxs k x hxk
        have hi : (k : Int) < xs.length := by omega
        have h0 : (0 : Int) ≤ k := by omega
        have HE := hide (HS.out x hxk)
        clear hxs hxk hC
        cases hgt : decide (d < x)
        · have HE2 : Hid (dfT xs d (k + 1) = 0) := hide (by rw [HE.out, if_neg (by simpa using hgt)])
          go_wp2
          exact ⟨⟨k + 1, by omega, by go_num, by rw [HE2.out]⟩, by simp [intOf]; omega⟩
        · have HE2 : Hid (dfT xs d (k + 1) = 6) := hide (by rw [HE.out, if_pos (by simpa using hgt)])
          go_wp2
          exact ⟨⟨k + 1, by omega, by go_num, by rw [HE2.out]⟩, by simp [intOf]; omega⟩
      · obtain rfl : k = xs.length := by omega
        have hdc : dfC xs d = 0 := by rw [← HALL.out]; exact hC
        have HDC := hide hdc
        obtain ⟨_, hdd, hxd, hn12⟩ := df_ok hdc
        have HDD := hide (stS_bd (room := d) (M := d) (fun x hx => ⟨by have := (hxd x hx).1; omega, (hxd x hx).2⟩) (Int.le_refl _) (by omega))
        have HXD := hide hxd
        have HR : Hid (dfR xs d = stnL d xs) := hide (by unfold dfR; rw [if_pos hdc])
        have HV := hide (dfP_last hdc)
        have HPZ := hide (dfP_zero xs d)
        have HPP := hide (fun k (hk : k ≠ 0) => dfP_pos (xs := xs) (d := d) hk)
        obtain ⟨n, hL⟩ : ∃ n, xs.length = n := ⟨_, rfl⟩
        have HL := hide hL
        obtain ⟨hd1, hd2⟩ := hdd
        rw [hL] at hn12 hn ⊢
        rw [hdc]
        clear hL hdc hC hk hxd
        go_wp2
        go_loopw [9, 10, 11, 12] (fun br nw le i wr => ∃ k : Nat, k ≤ n ∧ i = .int .i64 k ∧ nw = .int .i64 (dfP xs d k).1 ∧ le = .int .i64 (dfP xs d k).2 ∧ wr.ownsRow w.heap.size 2 1 br k ((stnT d xs k).map (.int .i64)) ∧ Below w.heap.size w wr)
          (fun _ _ _ i _ => n - (intOf i).toNat)
        case atStart => exact ⟨0, Nat.zero_le _, rfl, rfl, rfl, World.ownsRow_made w _ 0 (Nat.le_refl _) (by unfold maxLen; omega) rfl, (Below.refl _ _).alloc (Nat.le_refl _) _⟩
        case round =>
          obtain ⟨k, hk, rfl, rfl, rfl, hown, hB⟩ := hrel
          obtain ⟨Ab, cbb, rfl, hcap, _⟩ := cellsIn_of_own hown (by omega)
          have hbs := hB.size
          have HOWN := hide hown
          clear hown
          by_cases hlt : k < n
          · obtain ⟨b, o, rfl, hb, hxs⟩ := HX.out (by intro e; rw [e] at HL; have := HL.out; simp at this; omega)
            obtain ⟨x, hx⟩ : ∃ x, xs[k]? = some x := ⟨xs[k]'(by rw [HL.out]; exact hlt), List.getElem?_eq_getElem _⟩
            have c0 : wr.cell? ⟨b, o + k, none⟩ = some (.int .i64 x) := (hB.cell (p := ⟨b, o + k, none⟩) hb).trans (hxs k x hx)
            obtain ⟨hx1, hx2⟩ := HXD.out x (List.mem_of_getElem? hx)
            have hi : (k : Int) < n := by omega
            have hk0 : (0 : Int) ≤ k := by omega
            have HSU := hide (stS_succ (room := d) hx)
            have HTU := hide (stnT_succ d xs k)
            have HP1 := hide (HPP.out (k + 1) (by omega))
            obtain ⟨hs1, hs2⟩ := HDD.out k (by rw [HL.out]; omega)
            clear hxs hx
            by_cases hkz : k = 0
            · have HK := hide hkz
              have HSN : Hid ((stS d xs (k + 1)).1 = 0) := hide (by rw [HSU.out, HK.out]; exact congrArg Prod.fst (stN_old (p := (0, d)) (by show ¬ d < x; omega)))
              have HN : Hid (dfP xs d (k + 1) = (0, d - x)) := hide (by rw [HP1.out, HSU.out, HK.out]; exact stN_old (p := (0, d)) (by show ¬ d < x; omega))
              have hp : dfP xs d k = (-1, 0) := by rw [hkz]; rfl
              clear hkz hs1 hs2
              rw [hp]
              clear hp
              dsimp only
              go_wp2_with (at_builtin; refine wpList_append_own _ rfl (.tmp 63) (.tmp 65) 35 rfl w.heap.size 2 i0 (.int .i64 0) 1 8 Try.underlying35 hi0 hz0 hz1 hz2 rfl (by decide) _ k _ rfl (HOWN.out.alloc _) ⟨wr.heap.size, 0, none⟩ 1 1 [.int .i64 (0)] rfl rfl (one_cell _) (one_one rfl) ?h1 ?h2 ?h3 ?_)
              case h1 => unfold maxLen; omega
              case h2 => omega
              case h3 => first | omega | (simp; omega) | simp
              intro v' w4 hown4 hg4 _
              obtain ⟨A4, c4, rfl, _, _⟩ := cellsIn_of_own hown4 (by omega)
              have H4 := hide hown4
              have hg34 : wr.grownBy w4 _ := grown_trans (World.grownBy_alloc wr _ _) hg4
              have hB4 := hB.trans (grown_toBelow hg34 (by omega) (fun k hk => (HOWN.out.lt k hk).1))
              clear hown4 hg4 hg34
              go_wp2
              refine ⟨⟨k + 1, by omega, by go_num, by rw [HN.out], by rw [HN.out], ?_, hB4⟩, by simp [intOf]; omega⟩
              rw [HTU.out, HSN.out, List.map_append]
              exact H4.out
            · have hp := HPP.out k hkz
              rw [hp]
              clear hp hkz
              generalize hst : stS d xs k = p at hs1 hs2 HSU ⊢
              clear hst
              obtain ⟨st, le⟩ := p
              have hst0 : decide (st < 0) = false := by simp; exact hs1.1
              cases hgt : decide (le < x)
              · have HN2 := hide (stN_old (room := d) (p := (st, le)) (x := x) (by simpa using hgt))
                have HSN : Hid ((stS d xs (k + 1)).1 = st) := hide (by rw [HSU.out, HN2.out])
                have HN : Hid (dfP xs d (k + 1) = (st, le - x)) := hide (by rw [HP1.out, HSU.out, HN2.out])
                go_wp2_with (at_builtin; refine wpList_append_own _ rfl (.tmp 63) (.tmp 65) 35 rfl w.heap.size 2 i0 (.int .i64 0) 1 8 Try.underlying35 hi0 hz0 hz1 hz2 rfl (by decide) _ k _ rfl (HOWN.out.alloc _) ⟨wr.heap.size, 0, none⟩ 1 1 [.int .i64 (st)] rfl rfl (one_cell _) (one_one rfl) ?h1 ?h2 ?h3 ?_)
                case h1 => unfold maxLen; omega
                case h2 => omega
                case h3 => first | omega | (simp; omega) | simp
                intro v' w4 hown4 hg4 _
                obtain ⟨A4, c4, rfl, _, _⟩ := cellsIn_of_own hown4 (by omega)
                have H4 := hide hown4
                have hg34 : wr.grownBy w4 _ := grown_trans (World.grownBy_alloc wr _ _) hg4
                have hB4 := hB.trans (grown_toBelow hg34 (by omega) (fun k hk => (HOWN.out.lt k hk).1))
                clear hown4 hg4 hg34
                go_wp2
                refine ⟨⟨k + 1, by omega, by go_num, by rw [HN.out], by rw [HN.out], ?_, hB4⟩, by simp [intOf]; omega⟩
                rw [HTU.out, HSN.out, List.map_append]
                exact H4.out
              · have HN2 := hide (stN_new (room := d) (p := (st, le)) (x := x) (by simpa using hgt))
                have HSN : Hid ((stS d xs (k + 1)).1 = st + 1) := hide (by rw [HSU.out, HN2.out])
                have HN : Hid (dfP xs d (k + 1) = (st + 1, d - x)) := hide (by rw [HP1.out, HSU.out, HN2.out])
                go_wp2_with (at_builtin; refine wpList_append_own _ rfl (.tmp 63) (.tmp 65) 35 rfl w.heap.size 2 i0 (.int .i64 0) 1 8 Try.underlying35 hi0 hz0 hz1 hz2 rfl (by decide) _ k _ rfl (HOWN.out.alloc _) ⟨wr.heap.size, 0, none⟩ 1 1 [.int .i64 (st + 1)] rfl rfl (one_cell _) (one_one rfl) ?h1 ?h2 ?h3 ?_)
                case h1 => unfold maxLen; omega
                case h2 => omega
                case h3 => first | omega | (simp; omega) | simp
                intro v' w4 hown4 hg4 _
                obtain ⟨A4, c4, rfl, _, _⟩ := cellsIn_of_own hown4 (by omega)
                have H4 := hide hown4
                have hg34 : wr.grownBy w4 _ := grown_trans (World.grownBy_alloc wr _ _) hg4
                have hB4 := hB.trans (grown_toBelow hg34 (by omega) (fun k hk => (HOWN.out.lt k hk).1))
                clear hown4 hg4 hg34
                go_wp2
                refine ⟨⟨k + 1, by omega, by go_num, by rw [HN.out], by rw [HN.out], ?_, hB4⟩, by simp [intOf]; omega⟩
                rw [HTU.out, HSN.out, List.map_append]
                exact H4.out
          · obtain rfl : k = n := by omega
            obtain ⟨Ag, cg, e, _, hI⟩ := intsIn_of_own HOWN.out
            injection e with e1 e2 e3
            subst e1 e3
            have HI := hide hI
            have HTA : Hid (stnT d xs k = stnL d xs) := hide (by rw [← HL.out]; rfl)
            have HTL : Hid ((stnL d xs).length = k) := hide (by rw [stnL_len]; exact HL.out)
            have hb : -1 ≤ (dfP xs d k).1 ∧ (dfP xs d k).1 ≤ 60 := by
              by_cases hkz : k = 0
              · rw [hkz]; simp [dfP]
              · rw [HPP.out k hkz]; have := (HDD.out k (by rw [HL.out]; omega)).1; omega
            obtain ⟨hb1, hb2⟩ := hb
            clear hI
            rw [HTA.out] at HI
            rw [HL.out] at HV
            generalize (dfP xs d k).1 = q at *
            go_wp2
            go_ret3
            rw [HR.out, HDC.out]
            exact ⟨Ab, cbb, by rw [HTL.out, ← HV.out]; rfl, HI.out, hB⟩
    · have HE := hide (HSTOP.out k hC)
      have hCb : (dfT xs d k == 0) = false := by simpa using hC
      have hCn : (dfT xs d k != 0) = true := by simpa using hC
      have HCC := hide hC
      by_cases hlt : k < xs.length
      · have hi : (k : Int) < xs.length := by omega
        clear hC
        have HB := hide (df_bad (xs := xs) (d := d) (by rw [HE.out]; exact HCC.out))
        go_wp2
        go_ret3
        rw [HB.out.1, HB.out.2, HE.out]
        exact ⟨_, _, rfl, IntsIn.empty _ _ _, (Below.refl _ _).alloc (Nat.le_refl _) _⟩
      · obtain rfl : k = xs.length := by omega
        have HB := hide (df_bad (xs := xs) (d := d) (by rw [HE.out]; exact HCC.out))
        clear hC
        go_wp2
        go_ret3
        rw [HB.out.1, HB.out.2, HE.out]
        exact ⟨_, _, rfl, IntsIn.empty _ _ _, (Below.refl _ _).alloc (Nat.le_refl _) _⟩

set_option maxRecDepth 100000 in
set_option maxHeartbeats 8000000 in
theorem implDaysFor_any (A : Option Addr) (xs : List Int) (c : Nat) (hn : xs.length ≤ maxLen) (d : Int) (hd : (Lit.int .i64 d).wf = true) (w : World) (hA : IntsAt w w.heap.size A xs) :
    Calls Try.prog 21 #[.slice A xs.length c, .int .i64 d] w (IntsBk3 (dfR xs d) (dfV xs d) (dfC xs d) w) := by
  have HT := hide (checkTimes_any A xs c (timB d) 12 w hn hA)
  have HTB : Hid (timB d = inB d 1 100000) := hide rfl
  have hdcB : ∀ h : dfC xs d ≠ 0, dfR xs d = [] ∧ dfV xs d = 0 := fun h => df_bad h
  have HBAD := hide hdcB
  have hn' := hn
  unfold maxLen at hn
  clear hdcB
  by_cases h0 : tmC xs (timB d) 12 = 0
  · obtain ⟨ht1, hxt, hn12⟩ := tm_zero h0
    clear ht1
    have HH := hide h0
    rw [h0] at HT
    by_cases hz : xs = []
    · subst hz
      have hC : dfC [] d = 0 := by unfold dfC; rw [h0]; rfl
      have hR : dfR [] d = [] := by unfold dfR; rw [hC]; rfl
      have hV : dfV [] d = 0 := by unfold dfV; simp
      rw [hC, hR, hV]
      clear h0 hxt hn12 hA hC hR hV
      rw [HTB.out] at HT
      dsimp only [List.length_nil] at HT ⊢
      go_enter Try.func21, Try.ntmps21
      go_wp2_with (first | (go_at_call 59; refine (between_any _ _ _ _).mono ?_; rintro e w' ⟨rfl, rfl⟩) | (go_at_call 62; refine HT.out.mono ?_; rintro e w1 ⟨rfl, hb1⟩))
      go_ret3
      exact ⟨none, 0, rfl, IntsIn.empty _ _ _, hb1⟩
    · have hpos : 0 < xs.length := by
        rcases Nat.eq_zero_or_pos xs.length with e | e
        · exact absurd (List.length_eq_zero_iff.1 e) hz
        · exact e
      have HM := hide (fun W h => maxS_any A xs c W hn' hpos h)
      have hml := maxTo_le xs d (xs.length - 1)
      rw [Nat.sub_add_cancel hpos] at hml
      have hall : (maxTo xs xs.length ≤ d) ↔ xs.all (leB d) = true := by
        rw [hml, List.all_eq_true]
        constructor
        · intro h x hx
          obtain ⟨k, hk, rfl⟩ := List.getElem_of_mem hx
          have := h k hk
          rw [List.getD_eq_getElem?_getD, List.getElem?_eq_getElem hk, Option.getD_some] at this
          simpa [leB] using this
        · intro h i hi
          rw [List.getD_eq_getElem?_getD, List.getElem?_eq_getElem hi, Option.getD_some]
          have := h _ (List.getElem_mem hi)
          simpa [leB] using this
      have hCv : dfC xs d = if xs.all (leB d) = true then 0 else 6 := by unfold dfC; rw [h0]; simp
      have HA := hide hA
      have hnz : ((xs.length : Int) == 0) = false := by simp; omega
      cases hgt : decide (d < maxTo xs xs.length)
      · have hC : dfC xs d = 0 := by rw [hCv, if_pos (hall.1 (by simp at hgt; exact hgt))]
        obtain ⟨hk1, hdd, hxd, hk2⟩ := df_ok hC
        clear hk1 hk2
        have HST := hide (fun W h => stintsOf_any A xs c d W (by omega) (fun x hx => ⟨by have := (hxd x hx).1; omega, (hxd x hx).2⟩) (by omega) (by omega) h)
        have hR : dfR xs d = stnL d xs := by unfold dfR; rw [if_pos hC]
        have hV : dfV xs d = (stS d xs xs.length).1 + 1 := by unfold dfV; rw [if_pos ⟨hC, hz⟩]
        have hlast : (stnL d xs)[xs.length - 1]? = some (stS d xs xs.length).1 := by
          have := stnL_get (room := d) (xs := xs) (k := xs.length - 1) (by omega)
          rwa [Nat.sub_add_cancel hpos] at this
        have hbd := (stS_bd (room := d) (M := d) (fun x hx => ⟨by have := (hxd x hx).1; omega, (hxd x hx).2⟩) (Int.le_refl _) (by omega) xs.length (Nat.le_refl _)).1
        obtain ⟨hbd1, hbd2⟩ := hbd
        have HLA := hide hlast
        have HTL := hide (stnL_len d xs)
        rw [hC, hR, hV]
        generalize (stS d xs xs.length).1 = q at *
        generalize maxTo xs xs.length = mx at *
        obtain ⟨n, hL⟩ : ∃ n, xs.length = n := ⟨_, rfl⟩
        rw [hL] at hnz HST HTL hbd2 HLA HM HT hn12 hn hpos ⊢
        obtain ⟨m, rfl⟩ : ∃ m, n = m + 1 := ⟨n - 1, by omega⟩
        rw [Nat.add_sub_cancel] at HLA



        rw [HTB.out] at HT
        clear hlast hCv hall hxt hxd hdd hA hz h0 hC hR hV hml hL hpos hn'
        go_enter Try.func21, Try.ntmps21
        go_wp2_with (first | (go_at_call 59; refine (between_any _ _ _ _).mono ?_; rintro e w' ⟨rfl, rfl⟩) | (go_at_call 62; refine HT.out.mono ?_; rintro e w1 ⟨rfl, hb1⟩) | (go_at_call 63; refine (HM.out _ (HA.out.go hb1)).mono ?_; rintro e w2 ⟨rfl, rfl⟩))
        refine (HST.out _ (HA.out.go hb1)).mono ?_
        rintro e w3 ⟨As, cs, rfl, hcap, hI, hb3⟩
        obtain ⟨b, o, rfl, hbl, hbl2, hcell, hth⟩ := hI (by intro e; rw [e] at HLA; have := HLA.out; simp at this)
        have c1 := hcell _ _ HLA.out
        rw [HTL.out]
        have hBB := hb1.trans (hb3.mono hb1.size)
        have HI := hide hI
        clear hI hcell hth hb3
        have hmi : (m : Int) < (m : Int) + 1 := by omega
        have hm0 : (0 : Int) ≤ m := by omega
        have hmi2 : (m : Int) < ((m + 1 : Nat) : Int) := by omega
        go_wp2
        go_quiet (fail)
        go_wp2
        go_ret3
        exact ⟨some ⟨b, o, none⟩, cs, by rw [HTL.out]; rfl, (HI.out.wider hb1.size).go (below_drewN (Below.refl _ _) _), below_drewN hBB _⟩
      · have hC : dfC xs d = 6 := by rw [hCv, if_neg (fun h => by have := hall.2 h; simp at hgt; omega)]
        obtain ⟨hR, hV⟩ := HBAD.out (by rw [hC]; decide)
        rw [hC, hR, hV]
        rw [HTB.out] at HT
        generalize maxTo xs xs.length = mx at *
        clear hCv hall hxt hA hz h0 hC hR hV hml hpos
        go_enter Try.func21, Try.ntmps21
        go_wp2_with (first | (go_at_call 59; refine (between_any _ _ _ _).mono ?_; rintro e w' ⟨rfl, rfl⟩) | (go_at_call 62; refine HT.out.mono ?_; rintro e w1 ⟨rfl, hb1⟩) | (go_at_call 63; refine (HM.out _ (HA.out.go hb1)).mono ?_; rintro e w2 ⟨rfl, rfl⟩))
        go_ret3
        exact ⟨none, 0, rfl, IntsIn.empty _ _ _, hb1⟩
  · have hC : dfC xs d = tmC xs (timB d) 12 := by unfold dfC; rw [if_pos h0]
    obtain ⟨hR, hV⟩ := HBAD.out (by rw [hC]; exact h0)
    rw [hR, hV, hC]
    generalize tmC xs (timB d) 12 = T at *
    have hTn : (T != 0) = true := by simpa using h0
    rw [HTB.out] at HT
    clear hC hR hV h0 hA
    go_enter Try.func21, Try.ntmps21
    go_wp2_with (first | (go_at_call 59; refine (between_any _ _ _ _).mono ?_; rintro e w' ⟨rfl, rfl⟩) | (go_at_call 62; refine HT.out.mono ?_; rintro e w1 ⟨rfl, hb1⟩))
    go_ret3
    exact ⟨none, 0, rfl, IntsIn.empty _ _ _, hb1⟩
end Go.Proofs.Ytkbemhjeflmppaa
