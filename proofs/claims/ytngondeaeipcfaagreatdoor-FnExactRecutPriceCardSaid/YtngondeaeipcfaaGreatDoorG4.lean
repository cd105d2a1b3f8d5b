/- The model's test of a face. · The model's ValidFace: the count of the pairs, and the shape. · The model's By of a pair. · The model's width of a word. · The model's test of a text. -/
import Derived.Test.YtngondeaeipcfaaGreatDoorG1
import Derived.Test.YtngondeaeipcfaaGreatDoorG2
import Derived.Test.YtngondeaeipcfaaGreatDoorG3
import Derived.LoopTactic

namespace Go.Proofs.YtngondeaeipcfaaGreatDoor
open Go.RowKit

theorem q_same {P : Program} {f : FuncId} {args : Array Value} {w : World} {v : Value} (h : Calls P f args w fun e w' => e = .returned v ∧ w = w') : Calls P f args w fun e w' => e = .returned v ∧ w' = w :=
  h.mono fun _ _ ⟨a, b⟩ => ⟨a, b.symm⟩
theorem quiet_add_left {P : Program} {f : FuncId} {args : Array Value} {w : World} {a n : Nat} {v : Value}
    (h : Calls P f args (w.drewN (a + n)) fun e w' => e = .returned v ∧ w.drewN (a + n) = w') :
    Calls P f args (w.drewN (a + n)) fun e w'' => e = .returned v ∧ ∃ m, w'' = w.drewN (a + m) :=
  h.mono fun _ _ ⟨he, hm⟩ => ⟨he, n, hm.symm⟩
theorem quiet_left {P : Program} {f : FuncId} {args : Array Value} {w : World} {n : Nat} {v : Value}
    (h : Calls P f args (w.drewN n) fun e w' => e = .returned v ∧ w.drewN n = w') : Calls P f args (w.drewN n) fun e w'' => e = .returned v ∧ ∃ m, w'' = w.drewN m :=
  h.mono fun _ _ ⟨he, hm⟩ => ⟨he, n, hm.symm⟩

theorem rangeAt_drewN {w : World} {b o : Nat} {cs : List Value} (h : w.rangeAt b o cs) (n : Nat) : (w.drewN n).rangeAt b o cs := h
theorem size_drewN (w : World) (n : Nat) : (w.drewN n).heap.size = w.heap.size := rfl
set_option maxHeartbeats 1000000 in
theorem l01Ahead_any (a b c x y z : Int) (w : World) :
    Calls Tryz.prog 256 #[.agg #[.int .u8 a, .int .u8 b, .int .i8 c], .agg #[.int .u8 x, .int .u8 y, .int .i8 z]] w fun e w' => e = .returned (.bool (ahead (a, b, c) (x, y, z))) ∧ Below w.heap.size w w' := by
  have hb : ∀ o1 o2, Below w.heap.size w ((w.alloc o1).alloc o2) := fun o1 o2 => ((Below.refl _ _).alloc (Nat.le_refl _) _).alloc (by simp) _
  go_enter Tryz.func256, Tryz.ntmps256
  go_wp2
  all_goals (go_ret; exact ⟨ret_bool (by rw [Bool.eq_iff_iff]; simp [ahead]; omega), hb _ _⟩)

set_option maxRecDepth 100000 in
set_option maxHeartbeats 4000000 in
theorem l01Shape_any (F : Fc) (hF : F.ok) (b : Nat) (A : Option Addr) (c : Nat) (w : World) (hr : w.rangeAt b 0 (fc F (.slice A F.ps.length c))) (hA : PairsAt w w.heap.size A F.ps) :
    Calls Tryz.prog 217 #[.pointer (some ⟨b, 0, none⟩)] w fun e w' => e = .returned (.bool (shapeB F)) ∧ Below w.heap.size w w' := by
  have hW := hide hF.len
  have hbl := rangeAt_block hr (by rw [fc_length hW.out]; omega)
  have x26 : ∀ w', Below w.heap.size w w' → w'.cell? ⟨b, 26, none⟩ = some (.int .i8 F.sp) := fun w' h => rangeAt_cell (rangeAt_below hr h hbl) (fc_sp hW.out _)
  have x27 : ∀ w', Below w.heap.size w w' → w'.cell? ⟨b, 27, none⟩ = some (.int .i8 F.gp) := fun w' h => rangeAt_cell (rangeAt_below hr h hbl) (fc_gp hW.out _)
  have x28 : ∀ w', Below w.heap.size w w' → w'.cell? ⟨b, 28, none⟩ = some (.slice A F.ps.length c) := fun w' h => rangeAt_cell (rangeAt_below hr h hbl) (fc_sl hW.out _)
  have hn := hF.n
  unfold maxLen at hn
  obtain ⟨sp1, sp2⟩ := hF.sp
  obtain ⟨gp1, gp2⟩ := hF.gp
  generalize hS : shapeB F = S
  have HS := hide hS
  clear hS
  go_enter Tryz.func217, Tryz.ntmps217
  go_wp2
  go_loop [3] (fun i => ∃ k : Nat, k ≤ 26 ∧ i = .int .i64 k ∧ Hid (∀ j, j < k → inB (F.W.getD j 0) 1 40 = true))
    (fun i => 26 - (intOf i).toNat)
  case atStart => exact ⟨0, by omega, rfl, fun j hj => by omega⟩
  case round =>
    obtain ⟨k, hk, rfl, hall⟩ := hrel
    by_cases hlt : k < 26
    · have hc := rangeAt_cell hr (fc_W hW.out _ hlt)
      have hi : (k : Int) < 26 := by omega
      have h0 : (0 : Int) ≤ k := by omega
      obtain ⟨wk1, wk2⟩ := hF.at_ k
      cases hv : inB (F.W.getD k 0) 1 40
      · have HV := hide hv
        simp only [List.getD_eq_getElem?_getD] at hv
        go_wp2_with (go_at_call 119; refine (l00In_any _ _ _ _).mono ?_; rintro e w' ⟨rfl, rfl⟩)
        go_ret
        exact ⟨ret_bool ((not_wide (by rw [hW.out]; exact hlt) HV.out).symm.trans HS.out), Below.refl _ _⟩
      · have HV := hide hv
        simp only [List.getD_eq_getElem?_getD] at hv
        go_wp2_with (go_at_call 119; refine (l00In_any _ _ _ _).mono ?_; rintro e w' ⟨rfl, rfl⟩)
        exact ⟨⟨k + 1, by omega, by go_num, fun j hj => by
          by_cases e : j = k
          · subst e; exact HV.out
          · exact hall.out j (by omega)⟩, by simp [intOf]; omega⟩
    · obtain rfl : k = 26 := by omega
      have y26 := x26 w (Below.refl _ _)
      have y27 := x27 w (Below.refl _ _)
      have allW := hide (all_wide (W := F.W) (by rw [hW.out]; exact hall.out))
      clear hall
      cases hsp : inB F.sp 1 40
      · go_wp2_with (go_at_call 119; refine (l00In_any _ _ _ _).mono ?_; rintro e w' ⟨rfl, rfl⟩)
        go_ret
        exact ⟨ret_bool ((shapeB_false.2 fun s => by have := s.sp; rw [hsp] at this; cases this).symm.trans HS.out), Below.refl _ _⟩
      · cases hgp : inB F.gp 0 10
        · go_wp2_with (go_at_call 119; refine (l00In_any _ _ _ _).mono ?_; rintro e w' ⟨rfl, rfl⟩)
          go_ret
          exact ⟨ret_bool ((shapeB_false.2 fun s => by have := s.gp; rw [hgp] at this; cases this).symm.trans HS.out), Below.refl _ _⟩
        · go_wp2_with (go_at_call 119; refine (l00In_any _ _ _ _).mono ?_; rintro e w' ⟨rfl, rfl⟩)
          have HSP := hide hsp
          have HGP := hide hgp
          obtain ⟨g0, g1⟩ := inB_true.1 hgp
          clear hsp hgp y26 y27
          go_loopw [4] (fun i wr => ∃ k : Nat, k ≤ F.ps.length ∧ i = .int .i64 k ∧ Below w.heap.size w wr ∧ Hid (goodTo F.gp F.ps k))
            (fun i _ => F.ps.length - (intOf i).toNat)
          case atStart => exact ⟨0, by omega, rfl, Below.refl _ _, goodTo_zero _ _⟩
          case round =>
            obtain ⟨k, hk, rfl, hB, hg⟩ := hrel
            have z27 := x27 wr hB
            have z28 := x28 wr hB
            by_cases hlt : k < F.ps.length
            · obtain ⟨b', o', rfl, hb', hps⟩ := hA (by intro e; rw [e] at hlt; simp at hlt)
              obtain ⟨p, hp⟩ : ∃ p, F.ps[k]? = some p := ⟨F.ps[k]'hlt, List.getElem?_eq_getElem _⟩
              obtain ⟨x, y, z⟩ := p
              obtain ⟨⟨p1, p2⟩, ⟨p3, p4⟩, p5, p6⟩ := hF.pair hp
              have c0 : wr.cell? ⟨b', o' + k * 3, none⟩ = some (.int .u8 x) := (rangeAt_below (hps k _ hp) hB hb') 0 _ rfl
              have c1 : wr.cell? ⟨b', o' + k * 3 + 1, none⟩ = some (.int .u8 y) := (rangeAt_below (hps k _ hp) hB hb') 1 _ rfl
              have c2 : wr.cell? ⟨b', o' + k * 3 + 2, none⟩ = some (.int .i8 z) := (rangeAt_below (hps k _ hp) hB hb') 2 _ rfl
              have hi : (k : Int) < F.ps.length := by omega
              have h0 : (0 : Int) ≤ k := by omega
              cases hx : cap x
              · go_wp2
                go_quiet (first | (go_at_call 209; exact quiet_left (l01Letter_any _ _)) | (go_at_call 119; exact quiet_left (l00In_any _ _ _ _)))
                go_wp2
                go_ret
                exact ⟨ret_bool ((not_pair hp fun h => by have := h.a; rw [hx] at this; cases this).symm.trans HS.out), below_drewN (hB.alloc hB.size _) _⟩
              · cases hy : cap y
                · go_wp2
                  go_quiet (first | (go_at_call 209; exact quiet_left (l01Letter_any _ _)) | (go_at_call 119; exact quiet_left (l00In_any _ _ _ _)))
                  go_wp2
                  go_ret
                  exact ⟨ret_bool ((not_pair hp fun h => by have := h.b; rw [hy] at this; cases this).symm.trans HS.out), below_drewN (hB.alloc hB.size _) _⟩
                · cases hz : inB z (-10) 10
                  · go_wp2
                    go_quiet (first | (go_at_call 209; exact quiet_left (l01Letter_any _ _)) | (go_at_call 119; exact quiet_left (l00In_any _ _ _ _)))
                    go_wp2
                    go_ret
                    exact ⟨ret_bool ((not_pair hp fun h => by have := h.by_; rw [hz] at this; cases this).symm.trans HS.out), below_drewN (hB.alloc hB.size _) _⟩
                  · obtain ⟨z1, z2⟩ := inB_true.1 hz
                    cases hz0 : (z == 0)
                    · cases hs : decide (F.gp + z < 0)
                      · have hwr := IntWalk.i8_in (F.gp + z) ⟨by omega, by omega⟩
                        have y27 := x27 _ (hB.alloc hB.size (.cells #[.int .u8 x, .int .u8 y, .int .i8 z] 119))
                        have hok : pairOk F.gp (x, y, z) := ⟨hx, hy, hz, by simpa using hz0, by simp only [decide_eq_false_iff_not] at hs; show 0 ≤ F.gp + z; omega⟩
                        have HOK := hide hok
                        clear hok
                        by_cases hk0 : k = 0
                        · have HK := hide hk0
                          have hd0 : decide (0 < k) = false := by simp [hk0]
                          have hgo := hide (goodTo_succ hg.out hp HOK.out (fun q h0 _ => absurd h0 (by omega)))
                          clear hk0
                          go_wp2
                          go_quiet (first | (go_at_call 209; exact quiet_left (l01Letter_any _ _)) | (go_at_call 119; exact quiet_left (l00In_any _ _ _ _)))
                          clear hwr
                          go_wp2
                          go_quiet (fail)
                          go_wp2
                          exact ⟨⟨k + 1, by omega, by go_num, below_drewN (hB.alloc hB.size _) _, hgo⟩, by simp [intOf]; omega⟩
                        · have HK := hide hk0
                          have hd0 : decide (0 < k) = true := by simp; omega
                          obtain ⟨q, hq⟩ : ∃ q, F.ps[k - 1]? = some q := ⟨F.ps[k - 1]'(by omega), List.getElem?_eq_getElem _⟩
                          obtain ⟨r, s, t⟩ := q
                          have j00 : (1 : Int) ≤ (k : Int) := by omega
                          have hgT := goodTo_succ (p := (x, y, z)) hg.out hp HOK.out
                          have HGT := hide hgT
                          clear hk0 hgT
                          go_wp2
                          go_quiet (first | (go_at_call 209; exact quiet_left (l01Letter_any _ _)) | (go_at_call 119; exact quiet_left (l00In_any _ _ _ _)))
                          clear hwr
                          go_wp2_with fail
                          have hB1 : Below w.heap.size w ((wr.alloc (.cells #[.int .u8 x, .int .u8 y, .int .i8 z] 119)).drewN nq) := below_drewN (hB.alloc hB.size _) _
                          have e0 := rangeAt_drewN (rangeAt_new' wr #[.int .u8 x, .int .u8 y, .int .i8 z] 119) nq
                          have hz1 : wr.heap.size < ((wr.alloc (.cells #[.int .u8 x, .int .u8 y, .int .i8 z] 119)).drewN nq).heap.size := by rw [size_drewN]; simp
                          have hB0 := hB.size
                          generalize ((wr.alloc (.cells #[.int .u8 x, .int .u8 y, .int .i8 z] 119)).drewN nq) = W1 at *
                          generalize wr.heap.size = g at *
                          have hBx := hB1.size
                          have hcell := rangeAt_below (hps (k - 1) _ hq) hB1 hb'
                          have z28 : ∀ w', Below W1.heap.size W1 w' → w'.cell? ⟨b, 28, none⟩ = some (.slice (some ⟨b', o', none⟩) F.ps.length c) := fun w' h => x28 w' (hB1.trans (h.mono hBx))
                          have c0 : ∀ w', Below W1.heap.size W1 w' → w'.cell? ⟨b', o' + (k - 1) * 3, none⟩ = some (.int .u8 r) := fun w' h => (rangeAt_below hcell h (by omega)) 0 _ rfl
                          have c1 : ∀ w', Below W1.heap.size W1 w' → w'.cell? ⟨b', o' + (k - 1) * 3 + 1, none⟩ = some (.int .u8 s) := fun w' h => (rangeAt_below hcell h (by omega)) 1 _ rfl
                          have c2 : ∀ w', Below W1.heap.size W1 w' → w'.cell? ⟨b', o' + (k - 1) * 3 + 2, none⟩ = some (.int .i8 t) := fun w' h => (rangeAt_below hcell h (by omega)) 2 _ rfl
                          have d0 : ∀ w', Below W1.heap.size W1 w' → w'.cell? ⟨g, 0, none⟩ = some (.int .u8 x) := fun w' h => (rangeAt_below e0 h hz1) 0 _ rfl
                          have d1 : ∀ w', Below W1.heap.size W1 w' → w'.cell? ⟨g, 1, none⟩ = some (.int .u8 y) := fun w' h => (rangeAt_below e0 h hz1) 1 _ rfl
                          have d2 : ∀ w', Below W1.heap.size W1 w' → w'.cell? ⟨g, 2, none⟩ = some (.int .i8 z) := fun w' h => (rangeAt_below e0 h hz1) 2 _ rfl
                          clear hcell hps hA x26 x27 x28 e0 y27 hr
                          have j0 : (0 : Int) ≤ (k : Int) - 1 := by omega
                          have j1 : (k : Int) - 1 < F.ps.length := by omega
                          have j2 := IntWalk.i64_in ((k : Int) - 1) ⟨by omega, by omega⟩
                          have j3 : ((k : Int) - 1).toNat = k - 1 := by omega
                          go_region_held3 (fun w' => Below W1.heap.size W1 w') (first | exact (Below.refl _ _).drew | (refine Below.trans (by assumption) (Below.mono (by assumption) ?_); exact Below.size (by assumption))) (first | (go_at_call 256; refine (l01Ahead_any _ _ _ _ _ _ _).mono ?_; rintro e w1 ⟨rfl, hb1⟩))
                          have hB2 : Below w.heap.size w w1 := hB1.trans ((by assumption : Below W1.heap.size W1 w1).mono hBx)
                          clear z28 c0 c1 c2 d0 d1 d2 j2 j3
                          cases ha : ahead (r, s, t) (x, y, z)
                          · go_wp2
                            go_ret
                            exact ⟨ret_bool ((not_ahead hp (by omega) hq ha).symm.trans HS.out), hB2⟩
                          · go_wp2
                            exact ⟨⟨k + 1, by omega, by go_num, hB2, hide (HGT.out (fun q' _ hq' => by rw [hq] at hq'; injection hq' with hq'; subst hq'; exact ha))⟩, by simp [intOf]; omega⟩
                      · have hwr := IntWalk.i8_in (F.gp + z) ⟨by omega, by omega⟩
                        have y27 := x27 _ (hB.alloc hB.size (.cells #[.int .u8 x, .int .u8 y, .int .i8 z] 119))
                        go_wp2
                        go_quiet (first | (go_at_call 209; exact quiet_left (l01Letter_any _ _)) | (go_at_call 119; exact quiet_left (l00In_any _ _ _ _)))
                        go_wp2
                        go_ret
                        exact ⟨ret_bool ((not_pair hp fun h => by have : 0 ≤ F.gp + z := h.sum; simp only [decide_eq_true_eq] at hs; omega).symm.trans HS.out), below_drewN (hB.alloc hB.size _) _⟩
                    · go_wp2
                      go_quiet (first | (go_at_call 209; exact quiet_left (l01Letter_any _ _)) | (go_at_call 119; exact quiet_left (l00In_any _ _ _ _)))
                      go_wp2
                      go_ret
                      exact ⟨ret_bool ((not_pair hp fun h => h.ne (by simpa using hz0)).symm.trans HS.out), below_drewN (hB.alloc hB.size _) _⟩
            · obtain rfl : k = F.ps.length := by omega
              go_wp2
              go_ret
              exact ⟨ret_bool ((shapeB_true.2 ⟨allW.out, HSP.out, HGP.out, hg.out⟩).symm.trans HS.out), hB⟩
end Go.Proofs.YtngondeaeipcfaaGreatDoor

namespace Go.Proofs.YtngondeaeipcfaaGreatDoor
open Go.RowKit

set_option maxHeartbeats 1000000 in
theorem l01Face_any (F : Fc) (hF : F.ok) (b : Nat) (A : Option Addr) (c : Nat) (w : World) (hr : w.rangeAt b 0 (fc F (.slice A F.ps.length c))) (hA : PairsAt w w.heap.size A F.ps) :
    Calls Tryz.prog 124 #[.pointer (some ⟨b, 0, none⟩)] w fun e w' => e = .returned (.bool (vface F)) ∧ Below w.heap.size w w' := by
  have x28 := rangeAt_cell hr (fc_sl hF.len _)
  have HS := hide (l01Shape_any F hF b A c w hr hA)
  have hn := hF.n
  unfold maxLen at hn
  have hv : vface F = (decide (F.ps.length ≤ 12) && shapeB F) := rfl
  have HV := hide hv
  clear hr hA hv
  by_cases h : F.ps.length ≤ 12
  · have hd : decide ((F.ps.length : Int) ≤ 12) = true := by simp; omega
    go_enter Tryz.func124, Tryz.ntmps124
    go_wp2_with (go_at_call 217; refine HS.out.mono ?_; rintro e w1 ⟨rfl, hb1⟩)
    go_ret
    exact ⟨ret_bool (by rw [HV.out]; simp [h]), hb1⟩
  · have hd : decide ((F.ps.length : Int) ≤ 12) = false := by simp; omega
    go_enter Tryz.func124, Tryz.ntmps124
    go_wp2
    go_ret
    exact ⟨ret_bool (by rw [HV.out]; simp [h]), Below.refl _ _⟩

end Go.Proofs.YtngondeaeipcfaaGreatDoor

namespace Go.Proofs.YtngondeaeipcfaaGreatDoor
open Go.RowKit

set_option maxRecDepth 100000 in
set_option maxHeartbeats 4000000 in
theorem l01By_any (F : Fc) (hF : F.ok) (b : Nat) (A : Option Addr) (c : Nat) (x y : Int) (w : World) (hr : w.rangeAt b 0 (fc F (.slice A F.ps.length c))) (hA : PairsAt w w.heap.size A F.ps) :
    Calls Tryz.prog 146 #[.pointer (some ⟨b, 0, none⟩), .int .u8 x, .int .u8 y] w fun e w' => e = .returned (.int .i64 (byL F.ps x y)) ∧ w = w' := by
  have x28 := rangeAt_cell hr (fc_sl hF.len _)
  have hn := hF.n
  unfold maxLen at hn
  generalize hS : byL F.ps x y = S
  have HS := hide hS
  clear hS hr
  go_enter Tryz.func146, Tryz.ntmps146
  go_wp2
  go_loop [7] (fun i => ∃ k : Nat, k ≤ F.ps.length ∧ i = .int .i64 k ∧ Hid (∀ j q, j < k → F.ps[j]? = some q → ¬ (q.1 = x ∧ q.2.1 = y)))
    (fun i => F.ps.length - (intOf i).toNat)
  case atStart => exact ⟨0, by omega, rfl, hide (fun j q hj => by omega)⟩
  case round =>
    obtain ⟨k, hk, rfl, hg⟩ := hrel
    by_cases hlt : k < F.ps.length
    · obtain ⟨b', o', rfl, hb', hps⟩ := hA (by intro e; rw [e] at hlt; simp at hlt)
      obtain ⟨p, hp⟩ : ∃ p, F.ps[k]? = some p := ⟨F.ps[k]'hlt, List.getElem?_eq_getElem _⟩
      have hcell := hps k p hp
      obtain ⟨r, s, t⟩ := p
      obtain ⟨⟨p1, p2⟩, ⟨p3, p4⟩, p5, p6⟩ := hF.pair hp
      have c0 : w.cell? ⟨b', o' + k * 3, none⟩ = some (.int .u8 r) := hcell 0 _ rfl
      have c1 : w.cell? ⟨b', o' + k * 3 + 1, none⟩ = some (.int .u8 s) := hcell 1 _ rfl
      have c2 : w.cell? ⟨b', o' + k * 3 + 2, none⟩ = some (.int .i8 t) := hcell 2 _ rfl
      have hi : (k : Int) < F.ps.length := by omega
      have h0 : (0 : Int) ≤ k := by omega
      clear hcell hps
      cases h1 : (r == x)
      · have hne : ¬ (r = x ∧ s = y) := fun e => by rw [e.1] at h1; simp at h1
        have HN := hide hne
        clear hne
        go_wp2
        exact ⟨⟨k + 1, by omega, by go_num, hide (fun j q hj hq => by
          by_cases e : j = k
          · subst e; rw [hp] at hq; injection hq with hq; subst hq; exact HN.out
          · exact hg.out j q (by omega) hq)⟩, by simp [intOf]; omega⟩
      · cases h2 : (s == y)
        · have hne : ¬ (r = x ∧ s = y) := fun e => by rw [e.2] at h2; simp at h2
          have HN := hide hne
          clear hne
          go_wp2
          exact ⟨⟨k + 1, by omega, by go_num, hide (fun j q hj hq => by
            by_cases e : j = k
            · subst e; rw [hp] at hq; injection hq with hq; subst hq; exact HN.out
            · exact hg.out j q (by omega) hq)⟩, by simp [intOf]; omega⟩
        · go_wp2
          go_ret
          exact ⟨ret_int ((byL_of_get hp (by simpa using h1) (by simpa using h2) (fun j q hj hq => hg.out j q hj hq)).symm.trans HS.out), rfl⟩
    · obtain rfl : k = F.ps.length := by omega
      go_wp2
      go_ret
      exact ⟨ret_int ((byL_none (fun j q hq => hg.out j q (List.getElem?_eq_some_iff.1 hq).1 hq)).symm.trans HS.out), rfl⟩
end Go.Proofs.YtngondeaeipcfaaGreatDoor

namespace Go.Proofs.YtngondeaeipcfaaGreatDoor
open Go.RowKit

set_option maxRecDepth 100000 in
set_option maxHeartbeats 4000000 in
theorem l01Wide_any (F : Fc) (hF : F.ok) (b : Nat) (A : Option Addr) (c : Nat) (s : ByteArray) (w : World) (hv : vface F = true) (hc : allCap s.data.toList) (hs : s.size ≤ 60) (hr : w.rangeAt b 0 (fc F (.slice A F.ps.length c))) (hA : PairsAt w w.heap.size A F.ps) :
    Calls Tryz.prog 122 #[.pointer (some ⟨b, 0, none⟩), .string s] w fun e w' => e = .returned (.int .i64 (wideL F s.data.toList)) ∧ Below w.heap.size w w' := by
  have hW := hide hF.len
  have x27 := rangeAt_cell hr (fc_gp hW.out _)
  have HB := hide (fun x y n => l01By_any F hF b A c x y (w.drewN n) hr hA)
  have hL : s.data.toList.length = s.size := by simp
  have HL := hide hL
  have HBD := hide (fun k hk => wideTo_bd hF hv hc k hk)
  have HLW := hide (fun i hi => letW_bd hF hv hc (i := i) hi)
  have HGB := hide (fun i => gapL_bd hv s.data.toList i)
  have HBY := hide (fun a b => byL_bd hv a b)
  have HC := hide hc
  have hw : wideL F s.data.toList = wideTo F s.data.toList s.size := by unfold wideL; rw [hL]
  have HW := hide hw
  obtain ⟨gp1, gp2⟩ := shape_gap (vface_true.1 hv).2.gp
  clear hL hc hw hA
  go_enter Tryz.func122, Tryz.ntmps122
  go_wp2
  go_loopw [5, 6] (fun t i wr => ∃ k m : Nat, k ≤ s.size ∧ i = .int .i64 k ∧ t = .int .i64 (wideTo F s.data.toList k) ∧ wr = w.drewN m)
    (fun _ i _ => s.size - (intOf i).toNat)
  case atStart => exact ⟨0, 0, by omega, rfl, rfl, rfl⟩
  case round =>
    obtain ⟨k, m, hk, rfl, rfl, rfl⟩ := hrel
    by_cases hlt : k < s.size
    · have hi : (k : Int) < s.size := by omega
      have h0 : (0 : Int) ≤ k := by omega
      have hcap := HC.out k (by rw [HL.out]; exact hlt)
      have hb := byteAt_get s k hlt
      obtain ⟨q1, q2⟩ := capIdx hcap
      have q3 := cap_true.1 hcap
      obtain ⟨l1, l2⟩ := HLW.out k (by rw [HL.out]; exact hlt)
      obtain ⟨t1, t2⟩ := HBD.out k (by rw [HL.out]; omega)
      have hcw := rangeAt_cell hr (fc_W hW.out _ q1)
      have hlet : letW F s.data.toList k = F.W.getD (byteAt s.data.toList k - 65).toNat 0 := rfl
      rw [← hb] at hcw q1 q2 q3 hlet
      have HLET := hide hlet
      have hx : F.W.getD ((s[k].toNat : Int) - 65).toNat 0 = letW F s.data.toList k := hlet.symm
      rw [hx] at hcw
      have HBB := hide hb
      clear hlet hb hcap hx
      obtain ⟨g1, g2⟩ := HGB.out k
      have e1 := IntWalk.u8_in ((s[k].toNat : Int) - 65) ⟨by omega, by omega⟩
      have e2 := IntWalk.i64_in (wideTo F s.data.toList k + letW F s.data.toList k) ⟨by omega, by omega⟩
      have e7 := IntWalk.i64_in (letW F s.data.toList k) ⟨by omega, by omega⟩
      have e3 : (0 : Int) ≤ (s[k].toNat : Int) - 65 := by omega
      have e4 : (s[k].toNat : Int) - 65 < 26 := by omega
      have hst : wideTo F s.data.toList (k + 1) = wideTo F s.data.toList k + letW F s.data.toList k + gapL F s.data.toList k := rfl
      have HST := hide hst
      clear hst
      go_wp2_with fail
      go_quiet (fail)
      clear e1 e2 e7
      by_cases hk0 : k = 0
      · have hd : decide ((0 : Int) < k) = false := by simp; omega
        have hd' : decide (0 < k) = false := by simp; omega
        have hg : gapL F s.data.toList k = 0 := by simp [gapL, hk0]
        have HG := hide hg
        clear hg hk0
        go_wp2
        exact ⟨⟨k + 1, _, by omega, by go_num, by rw [HST.out, HG.out, Int.add_zero], rfl⟩, by simp [intOf]; omega⟩
      · have hd : decide ((0 : Int) < k) = true := by simp; omega
        have hd' : decide (0 < k) = true := by simp; omega
        have hg : gapL F s.data.toList k = F.gp + byL F.ps (byteAt s.data.toList (k - 1)) (byteAt s.data.toList k) := by simp [gapL, hk0]
        have hb1 := byteAt_get s (k - 1) (by omega)
        rw [← hb1, ← HBB.out] at hg
        have HG := hide hg
        have hlt1 : k - 1 < s.size := by omega
        have j0 : (0 : Int) ≤ (k : Int) - 1 := by omega
        have j00 : (1 : Int) ≤ (k : Int) := by omega
        have j1 : (k : Int) - 1 < s.size := by omega
        have j2 := IntWalk.i64_in ((k : Int) - 1) ⟨by omega, by omega⟩
        have j3 : ((k : Int) - 1).toNat = k - 1 := by omega
        obtain ⟨y1, y2, y3, y4⟩ := HBY.out (s[k - 1].toNat : Int) (s[k].toNat : Int)
        have e5 := IntWalk.i64_in (F.gp + byL F.ps (s[k - 1].toNat : Int) (s[k].toNat : Int)) ⟨by omega, by omega⟩
        have e6 := IntWalk.i64_in (wideTo F s.data.toList k + letW F s.data.toList k + (F.gp + byL F.ps (s[k - 1].toNat : Int) (s[k].toNat : Int))) ⟨by omega, by omega⟩
        clear hg hb1 hk0
        go_wp2_with fail
        go_quiet ((go_at_call 146; exact quiet_add_left (HB.out _ _ _)))
        clear e5 e6 j2
        go_wp2
        exact ⟨⟨k + 1, _, by omega, by go_num, by rw [HST.out, HG.out], rfl⟩, by simp [intOf]; omega⟩
    · obtain rfl : k = s.size := by omega
      go_wp2
      go_ret
      exact ⟨ret_int HW.out.symm, below_drewN (Below.refl _ _) _⟩
end Go.Proofs.YtngondeaeipcfaaGreatDoor

namespace Go.Proofs.YtngondeaeipcfaaGreatDoor
open Go.RowKit

set_option maxRecDepth 100000 in
set_option maxHeartbeats 2000000 in
theorem l01Text_any (s : ByteArray) (w : World) (hs : s.size ≤ maxLen) :
    Calls Tryz.prog 112 #[.string s] w fun e w' => e = .returned (.bool (vtext s.data.toList)) ∧ w = w' := by
  unfold maxLen at hs
  generalize hS : vtext s.data.toList = S
  have HS := hide hS
  clear hS
  go_enter Tryz.func112, Tryz.ntmps112
  go_wp2
  go_loop [3] (fun i => ∃ k : Nat, k ≤ s.size ∧ i = .int .i64 k ∧ Hid (∀ j, j < k → good s.data.toList j)) (fun i => s.size - (intOf i).toNat)
  case atStart => exact ⟨0, Nat.zero_le _, rfl, fun j hj => by omega⟩
  case round =>
    obtain ⟨k, hk, rfl, hg⟩ := hrel
    by_cases hlt : k < s.size
    · have hi : (k : Int) < s.size := by omega
      have h0 : (0 : Int) ≤ k := by omega
      have hb := byteAt_get s k hlt
      have HB := hide hb
      clear hb
      cases h32 : ((s[k].toNat : Int) == 32)
      · have hne : byteAt s.data.toList k ≠ 32 := by rw [← HB.out]; simpa using h32
        have HNE := hide hne
        clear hne
        cases hc : cap (s[k].toNat : Int)
        · have hbad : ¬ good s.data.toList k := fun h => by
            rcases h with ⟨h, _⟩ | h
            · exact HNE.out h
            · rw [← HB.out, hc] at h; cases h
          have HBAD := hide hbad
          clear hbad
          go_wp2_with (go_at_call 209; refine (l01Letter_any _ _).mono ?_; rintro e w' ⟨rfl, rfl⟩)
          go_ret
          exact ⟨ret_bool ((vtext_false.2 fun h => HBAD.out (h.2 k (by simpa using hlt))).symm.trans HS.out), rfl⟩
        · have hok : good s.data.toList k := .inr (by rw [← HB.out]; exact hc)
          have HOK := hide hok
          clear hok
          go_wp2_with (go_at_call 209; refine (l01Letter_any _ _).mono ?_; rintro e w' ⟨rfl, rfl⟩)
          exact ⟨⟨k + 1, by omega, by go_num, fun j hj => by
            by_cases e : j = k
            · subst e; exact HOK.out
            · exact hg.out j (by omega)⟩, by simp [intOf]; omega⟩
      · have he : byteAt s.data.toList k = 32 := by rw [← HB.out]; simpa using h32
        have HE := hide he
        clear he
        by_cases hk0 : k = 0
        · have hd0 : ((k : Int) == 0) = true := by simp [hk0]
          have hd1 : (k == 0) = true := by simp [hk0]
          have hbad : ¬ good s.data.toList k := fun h => by
            rcases h with ⟨_, h, _⟩ | h
            · omega
            · rw [cap_32 HE.out] at h; cases h
          have HBAD := hide hbad
          clear hbad hk0
          go_wp2
          go_ret
          exact ⟨ret_bool ((vtext_false.2 fun h => HBAD.out (h.2 k (by simpa using hlt))).symm.trans HS.out), rfl⟩
        · have hd0 : ((k : Int) == 0) = false := by simp; omega
          have hd1 : (k == 0) = false := by simp; omega
          have j00 : (1 : Int) ≤ k := by omega
          clear hk0
          by_cases hke : k = s.size - 1
          · have he0 : ((k : Int) == s.size - 1) = true := by simp; omega
            have hbad : ¬ good s.data.toList k := fun h => by
              rcases h with ⟨_, _, h, _⟩ | h
              · have : s.data.toList.length = s.size := by simp
                omega
              · rw [cap_32 HE.out] at h; cases h
            have HBAD := hide hbad
            clear hbad hke
            go_wp2
            go_ret
            exact ⟨ret_bool ((vtext_false.2 fun h => HBAD.out (h.2 k (by simpa using hlt))).symm.trans HS.out), rfl⟩
          · have he0 : ((k : Int) == s.size - 1) = false := by simp; omega
            have hlt1 : k - 1 < s.size := by omega
            have hlast : k + 1 < s.data.toList.length := by simp; omega
            have HLAST := hide hlast
            clear hke hlast
            have j0 : (0 : Int) ≤ (k : Int) - 1 := by omega
            have j1 : (k : Int) - 1 < s.size := by omega
            have j3 : ((k : Int) - 1).toNat = k - 1 := by omega
            have hb1 := byteAt_get s (k - 1) hlt1
            have HB1 := hide hb1
            clear hb1
            cases hp : ((s[k - 1].toNat : Int) == 32)
            · have hok : good s.data.toList k := .inl ⟨HE.out, by omega, HLAST.out, by rw [← HB1.out]; simpa using hp⟩
              have HOK := hide hok
              clear hok
              go_wp2
              exact ⟨⟨k + 1, by omega, by go_num, fun j hj => by
                by_cases e : j = k
                · subst e; exact HOK.out
                · exact hg.out j (by omega)⟩, by simp [intOf]; omega⟩
            · have hbad : ¬ good s.data.toList k := fun h => by
                rcases h with ⟨_, _, _, h⟩ | h
                · exact h (by rw [← HB1.out]; simpa using hp)
                · rw [cap_32 HE.out] at h; cases h
              have HBAD := hide hbad
              clear hbad
              go_wp2
              go_ret
              exact ⟨ret_bool ((vtext_false.2 fun h => HBAD.out (h.2 k (by simpa using hlt))).symm.trans HS.out), rfl⟩
    · obtain rfl : k = s.size := by omega
      go_wp2
      go_ret
      refine ⟨ret_bool ?_, rfl⟩
      rw [← HS.out, Bool.eq_iff_iff, vtext_true]
      have hl : s.data.toList.length = s.size := by simp
      rw [hl]
      simp only [decide_eq_true_eq]
      exact ⟨fun h => ⟨by omega, hg.out⟩, fun h => by omega⟩
end Go.Proofs.YtngondeaeipcfaaGreatDoor
