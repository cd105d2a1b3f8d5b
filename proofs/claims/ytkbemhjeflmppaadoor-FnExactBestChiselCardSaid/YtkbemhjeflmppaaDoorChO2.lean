/- The model's chisel that lies anywhere: whether it is valid, when it is sharpened, how long a text takes. -/
import Derived.Test.YtkbemhjeflmppaaDoorChN
namespace Go.Proofs.YtkbemhjeflmppaaDoor
open Go Go.RowKit

set_option maxHeartbeats 2000000 in
theorem l05ChiselO_any (h p : Int) (hh : -32768 ≤ h ∧ h ≤ 32767) (hp : i8ok p) (b oo : Nat) (w : World) (hr : w.rangeAt b oo [.int .i16 h, .int .i8 p]) :
    Calls Tryd.prog 70 #[.pointer (some ⟨b, oo, none⟩)] w fun e w' => e = .returned (.bool (vchi h p)) ∧ w = w' := by
  have c0 : w.cell? ⟨b, oo, none⟩ = some (.int .i16 h) := hr 0 _ rfl
  have c1 : w.cell? ⟨b, oo + 1, none⟩ = some (.int .i8 p) := hr 1 _ rfl
  obtain ⟨h1, h2⟩ := hh
  obtain ⟨p1, p2⟩ := hp
  have HV := hide (show vchi h p = (inB h 30 1000 && inB p 0 100) from rfl)
  clear hr
  cases hv : inB h 30 1000
  · go_enter Tryd.func70, Tryd.ntmps70
    go_wp2_with (go_at_call 56; refine (l00In_any _ _ _ _).mono ?_; rintro e w' ⟨rfl, rfl⟩; simp only [hv])
    go_ret
    exact ⟨ret_bool (by rw [HV.out, hv]; rfl), rfl⟩
  · cases hv2 : inB p 0 100
    · go_enter Tryd.func70, Tryd.ntmps70
      go_wp2_with (go_at_call 56; refine (l00In_any _ _ _ _).mono ?_; rintro e w' ⟨rfl, rfl⟩; simp only [hv, hv2])
      go_ret
      exact ⟨ret_bool (by rw [HV.out, hv, hv2]; rfl), rfl⟩
    · go_enter Tryd.func70, Tryd.ntmps70
      go_wp2_with (go_at_call 56; refine (l00In_any _ _ _ _).mono ?_; rintro e w' ⟨rfl, rfl⟩; simp only [hv, hv2])
      go_ret
      exact ⟨ret_bool (by rw [HV.out, hv, hv2]; rfl), rfl⟩

set_option maxRecDepth 100000 in
set_option maxHeartbeats 8000000 in
theorem l05SharpensO_any (h p : Int) (hh : 30 ≤ h ∧ h ≤ 1000) (bc oo : Nat) (A : Option Addr) (xs : List Int) (c : Nat) (w : World) (hn : xs.length ≤ 60) (hx : ∀ x ∈ xs, 0 ≤ x ∧ x ≤ 30) (hb : bc < w.heap.size) (hr : w.rangeAt bc oo [.int .i16 h, .int .i8 p]) (hA : IntsAt w w.heap.size A xs) :
    Calls Tryd.prog 48 #[.pointer (some ⟨bc, oo, none⟩), .slice A xs.length c] w (IntsB (shpT h xs xs.length) w) := by
  obtain ⟨i0, hi0, hz0, hz1, hz2⟩ := info_parts Tryd.infoI64
  obtain ⟨h1, h2⟩ := hh
  have HX := hide hx
  have HA := hide hA
  have HC0 := hide (show w.cell? ⟨bc, oo, none⟩ = some (.int .i16 h) from hr 0 _ rfl)
  have HSB := hide (stS_bd hx h1 (by omega))
  have HLB := hide (shpT_bd h xs)
  obtain ⟨n, hN⟩ : ∃ n, xs.length = n := ⟨_, rfl⟩
  have HN := hide hN
  rw [hN] at hn HSB ⊢
  clear hN hx hA hr
  go_enter Tryd.func48, Tryd.ntmps48
  go_wp2
  go_loopw [5, 6, 7] (fun br us i wr => ∃ k : Nat, k ≤ n ∧ i = .int .i64 k ∧ us = .int .i64 (h - (stS h xs k).2) ∧ wr.ownsRow w.heap.size 2 1 br (shpT h xs k).length ((shpT h xs k).map (.int .i64)) ∧ Below w.heap.size w wr)
    (fun _ _ i _ => n - (intOf i).toNat)
  case atStart => exact ⟨0, Nat.zero_le _, rfl, by simp [stS], World.ownsRow_made w _ 0 (Nat.le_refl _) (by unfold maxLen; omega) rfl, (Below.refl _ _).alloc (Nat.le_refl _) _⟩
  case round =>
    obtain ⟨k, hk, rfl, rfl, hown, hB⟩ := hrel
    obtain ⟨Ab, cbb, rfl, hcap, _⟩ := cellsIn_of_own hown (by omega)
    have hbs := hB.size
    have HOWN := hide hown
    obtain ⟨hs1, hs2⟩ := HSB.out k hk
    have hll := HLB.out k
    clear hown
    by_cases hlt : k < n
    · obtain ⟨b, o, rfl, hb2, hxs⟩ := HA.out (by intro e; rw [e] at HN; have := HN.out; simp at this; omega)
      obtain ⟨x, hxk⟩ : ∃ x, xs[k]? = some x := ⟨xs[k]'(by rw [HN.out]; exact hlt), List.getElem?_eq_getElem _⟩
      have c0 : wr.cell? ⟨b, o + k, none⟩ = some (.int .i64 x) := (hB.cell (p := ⟨b, o + k, none⟩) hb2).trans (hxs k x hxk)
      have cc := (hB.cell (p := ⟨bc, oo, none⟩) hb).trans HC0.out
      obtain ⟨x1, x2⟩ := HX.out x (List.mem_of_getElem? hxk)
      have hi : (k : Int) < n := by omega
      have hk0 : (0 : Int) ≤ k := by omega
      have HSU := hide (stS_succ (room := h) hxk)
      have HNE := hide (fun hq => shpT_new (room := h) hxk hq)
      have HOL := hide (fun hq => shpT_old (room := h) hxk hq)
      have HXC := hide (hxs k x hxk)
      clear hxs hxk
      generalize hst : stS h xs k = q at hs1 hs2 HSU HNE HOL ⊢
      clear hst
      obtain ⟨st, le⟩ := q
      cases hgt : decide (h < h - le + x)
      · have hnl : ¬ le < x := by simp at hgt; omega
        have HT := hide (HOL.out hnl)
        have HS2 : Hid (h - le + x = h - (stS h xs (k + 1)).2) := hide (by rw [HSU.out, stN_old (p := (st, le)) hnl]; simp only []; omega)
        clear hnl
        go_wp2
        go_quiet (fail)
        go_wp2
        refine ⟨⟨k + 1, by omega, by go_num, by rw [HS2.out], ?_, below_drewN hB _⟩, by simp [intOf]; omega⟩
        rw [HT.out]
        exact own_go HOWN.out (below_drewN (Below.refl _ _) _)
      · have hnl : le < x := by simp at hgt; omega
        have HT := hide (HNE.out hnl)
        have HS2 : Hid (x = h - (stS h xs (k + 1)).2) := hide (by rw [HSU.out, stN_new (p := (st, le)) hnl]; simp only []; omega)
        clear hnl
        go_wp2
        go_quiet (fail)
        have hBq := below_drewN hB nq
        have HOWQ := hide (own_go HOWN.out (below_drewN (Below.refl _ _) nq))
        have c0q : (wr.drewN nq).cell? ⟨b, o + k, none⟩ = some (.int .i64 x) := c0
        have hbq := hBq.size
        clear c0 cc
        generalize wr.drewN nq = W at *
        go_wp2_with (at_builtin; refine wpList_append_own _ rfl (.tmp 27) (.tmp 29) 32 rfl w.heap.size 2 i0 (.int .i64 0) 1 8 Tryd.underlying32 hi0 hz0 hz1 hz2 rfl (by decide) _ (shpT h xs k).length _ rfl (HOWQ.out.alloc _) ⟨W.heap.size, 0, none⟩ 1 1 [.int .i64 (k : Int)] rfl rfl (one_cell _) (one_one rfl) ?h1 ?h2 ?h3 ?_)
        case h1 => unfold maxLen; omega
        case h2 => omega
        case h3 => first | omega | (simp; omega) | simp
        intro v' w4 hown4 hg4 _
        obtain ⟨A4, c4, rfl, _, _⟩ := cellsIn_of_own hown4 (by omega)
        have H4 := hide hown4
        have hg34 : W.grownBy w4 _ := grown_trans (World.grownBy_alloc W _ _) hg4
        have hB4 := hBq.trans (grown_toBelow hg34 (by omega) (fun k hk => (HOWQ.out.lt k hk).1))
        have c4q : w4.cell? ⟨b, o + k, none⟩ = some (.int .i64 x) := (hB4.cell (p := ⟨b, o + k, none⟩) hb2).trans HXC.out
        clear hown4 hg4 hg34 c0q
        go_wp2
        refine ⟨⟨k + 1, by omega, by go_num, by rw [← HS2.out], ?_, hB4⟩, by simp [intOf]; omega⟩
        rw [HT.out, List.map_append, List.length_append]
        exact H4.out
    · obtain rfl : k = n := by omega
      obtain ⟨Ag, cg, e, _, hI⟩ := intsIn_of_own HOWN.out
      injection e with e1 e2 e3
      subst e1 e3
      have HI := hide hI
      clear hI
      go_wp2
      go_ret
      exact ⟨Ab, cbb, rfl, hcap, HI.out, hB⟩

set_option maxRecDepth 100000 in
set_option maxHeartbeats 8000000 in
theorem l05TimeO_any (h p : Int) (hh : 30 ≤ h ∧ h ≤ 1000) (hp : 0 ≤ p ∧ p ≤ 100) (bc oo : Nat) (A : Option Addr) (xs : List Int) (c : Nat) (w : World) (hn : xs.length ≤ 60) (hx : ∀ x ∈ xs, 0 ≤ x ∧ x ≤ 30) (hb : bc < w.heap.size) (hr : w.rangeAt bc oo [.int .i16 h, .int .i8 p]) (hA : IntsAt w w.heap.size A xs) :
    Calls Tryd.prog 54 #[.pointer (some ⟨bc, oo, none⟩), .slice A xs.length c] w fun e w' => e = .returned (.int .i64 (timeT h p xs xs.length)) ∧ Below w.heap.size w w' := by
  have HSU := hide (fun W (hW : Below w.heap.size w W) => l05Sum_any A xs c W hn hx (hA.go hW))
  have HSH := hide (fun W (hW : Below w.heap.size w W) => l05SharpensO_any h p hh bc oo A xs c W hn hx (Nat.lt_of_lt_of_le hb hW.size) (rangeAt_below hr hW hb) (hA.go hW))
  have cc : ∀ w', Below w.heap.size w w' → w'.cell? ⟨bc, oo + 1, none⟩ = some (.int .i8 p) := fun w' hw => (rangeAt_below hr hw hb) 1 _ rfl
  obtain ⟨p1, p2⟩ := hp
  obtain ⟨t1, t2, t3, t4⟩ := timeT_bd hx hh.1 p1 p2 (Nat.le_refl xs.length)
  have hsl := shpT_len (room := h) (xs := xs) xs.length (Nat.le_refl _)
  have HT := hide (show timeT h p xs xs.length = sumT xs xs.length + (stS h xs xs.length).1 * p from rfl)
  have hsb := sumT_bd hx xs.length (Nat.le_refl _)
  have HSL := hide hsl
  have hlb := shpT_bd h xs xs.length
  rw [← hsl] at HT t3 t4
  obtain ⟨s1, s2⟩ := hsb
  unfold IntsB at HSH
  obtain ⟨R, hR⟩ : ∃ R, shpT h xs xs.length = R := ⟨_, rfl⟩
  rw [hR] at HSH HT t3 t4 hlb
  generalize timeT h p xs xs.length = T at *
  generalize sumT xs xs.length = q at *
  generalize xs.length = n at *
  clear hR hsl HSL hx hr hA hh
  have hw1 := IntWalk.i64_in p ⟨by omega, by omega⟩
  have hw2 := IntWalk.i64_in ((R.length : Int) * p) ⟨by omega, by omega⟩
  have hw3 := IntWalk.i64_in (q + (R.length : Int) * p) ⟨by omega, by omega⟩
  go_enter Tryd.func54, Tryd.ntmps54
  go_wp2
  go_region_held3 (fun w' => Below w.heap.size w w') (first | exact (Below.refl _ _).drew | (refine Below.trans (by assumption) (Below.mono (by assumption) ?_); exact Below.size (by assumption))) (first | (go_at_call 41; refine (HSU.out _ (by assumption)).mono ?_; rintro e w1 ⟨rfl, rfl⟩) | (go_at_call 48; refine (HSH.out _ (by assumption)).mono ?_; rintro e w2 ⟨Q2, k2, rfl, hk2, hI2, hb2⟩))
  have hBw : Below w.heap.size w w2 := by assumption
  go_wp2
  go_ret
  exact ⟨ret_int HT.out.symm, hBw⟩

end Go.Proofs.YtkbemhjeflmppaaDoor
