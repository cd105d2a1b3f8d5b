/- The program's test of a face. -/
import Derived.Test.YtikndeloeeppaaaShapeP
import Derived.Test.YtikndeloeeppaaaFace3
import Derived.StillTailTactics
import Derived.Test.YtikndeloeeppaaaOver
namespace Go.Proofs.Ytikndeloeeppaaa
open Go.RowKit

/-- Which of two pairs comes first. -/
def cmpP (p q : Int × Int × Int) : Int := if cmpI p.1 q.1 = 0 then cmpI p.2.1 q.2.1 else cmpI p.1 q.1
theorem cmpP_neg {p q : Int × Int × Int} : cmpP p q < 0 ↔ ahead p q = true := by
  rw [ahead_true]; unfold cmpP cmpI
  (repeat' split) <;> omega
theorem cmpP_bd (p q : Int × Int × Int) : -1 ≤ cmpP p q ∧ cmpP p q ≤ 1 := by
  unfold cmpP cmpI
  (repeat' split) <;> omega
theorem cmpI_bd (a b : Int) : -1 ≤ cmpI a b ∧ cmpI a b ≤ 1 := by unfold cmpI; (repeat' split) <;> omega

set_option maxHeartbeats 1000000 in
theorem cmpOr_any (b : Nat) (x y : Int) (w : World) (h0 : w.cell? ⟨b, 0, none⟩ = some (.int .i64 x)) (h1 : w.cell? ⟨b, 1, none⟩ = some (.int .i64 y)) :
    Calls Try.prog 208 #[.slice (some ⟨b, 0, none⟩) 2 2] w fun e w' => e = .returned (.int .i64 (if x = 0 then y else x)) ∧ w = w' := by
  generalize hz : (if x = 0 then y else x) = z
  have HZ := hide hz
  clear hz
  go_enter Try.func208, Try.ntmps208
  go_wp2
  go_loop [8] (fun i => ∃ k : Nat, k ≤ 2 ∧ i = .int .i64 k ∧ (0 < k → x = 0) ∧ (1 < k → y = 0)) (fun i => 2 - (intOf i).toNat)
  case atStart => exact ⟨0, by omega, rfl, by omega, by omega⟩
  case round =>
    obtain ⟨k, hk, rfl, hx, hy⟩ := hrel
    have : k = 0 ∨ k = 1 ∨ k = 2 := by omega
    rcases this with rfl | rfl | rfl
    · clear hx hy
      by_cases e : x = 0
      · subst e
        go_wp2
        exact ⟨⟨1, by omega, by go_num, fun _ => trivial, by omega⟩, by simp [intOf]⟩
      · have he : (x == 0) = false := by simpa using e
        have he' : (x != 0) = true := by simpa using e
        have E := hide e
        clear e
        go_wp2
        go_ret
        exact ⟨ret_int (by rw [← HZ.out, if_neg E.out]), rfl⟩
    · have ex := hide (hx (by omega))
      clear hx hy
      by_cases e : y = 0
      · subst e
        go_wp2
        exact ⟨⟨2, by omega, by go_num, fun _ => ex.out, fun _ => trivial⟩, by simp [intOf]⟩
      · have he : (y == 0) = false := by simpa using e
        have he' : (y != 0) = true := by simpa using e
        have E := hide e
        clear e
        go_wp2
        go_ret
        exact ⟨ret_int (by rw [← HZ.out, if_pos ex.out]), rfl⟩
    · have ex := hide (hx (by omega))
      have ey := hide (hy (by omega))
      clear hx hy
      go_wp2
      go_ret
      exact ⟨ret_int (by rw [← HZ.out, if_pos ex.out, ey.out]), rfl⟩

set_option maxHeartbeats 1000000 in
theorem hasLetters_any (a b c : Int) (w : World) :
    Calls Try.prog 88 #[.agg #[.int .u8 a, .int .u8 b, .int .i8 c]] w fun e w' => e = .returned (.bool (cap a && cap b)) ∧ Below w.heap.size w w' := by
  cases ha : cap a
  · go_enter Try.func88, Try.ntmps88
    go_wp2_with (go_at_call 162; refine (isCapital_any _ _).mono ?_; rintro e w' ⟨rfl, rfl⟩)
    go_ret
    exact ⟨rfl, (Below.refl _ _).alloc (Nat.le_refl _) _⟩
  · go_enter Try.func88, Try.ntmps88
    go_wp2_with (go_at_call 162; refine (isCapital_any _ _).mono ?_; rintro e w' ⟨rfl, rfl⟩)
    go_ret
    exact ⟨rfl, (Below.refl _ _).alloc (Nat.le_refl _) _⟩

noncomputable def pairB (g : Int) (p : Int × Int × Int) : Bool := @decide (pairOk g p) (Classical.propDecidable _)
theorem pairB_true {g : Int} {p : Int × Int × Int} : pairB g p = true ↔ pairOk g p := by simp [pairB]
theorem pairB_false {g : Int} {p : Int × Int × Int} : pairB g p = false ↔ ¬ pairOk g p := by simp [pairB]

set_option maxHeartbeats 2000000 in
theorem validPair_any (x y z g : Int) (w : World) (hz : -128 ≤ z ∧ z ≤ 127) (hg : -128 ≤ g ∧ g ≤ 127) :
    Calls Try.prog 89 #[.agg #[.int .u8 x, .int .u8 y, .int .i8 z], .int .i8 g] w fun e w' => e = .returned (.bool (pairB g (x, y, z))) ∧ Below w.heap.size w w' := by
  obtain ⟨z1, z2⟩ := hz
  obtain ⟨g1, g2⟩ := hg
  generalize hP : pairB g (x, y, z) = P
  have HP := hide hP
  clear hP
  have hb : Below w.heap.size w (w.alloc (.cells #[.int .u8 x, .int .u8 y, .int .i8 z] 36)) := (Below.refl _ _).alloc (Nat.le_refl _) _
  have HB := hide hb
  clear hb
  have HA := hide (hasLetters_any x y z)
  have wf : ¬ pairOk g (x, y, z) → P = false := fun h => HP.out.symm.trans (pairB_false.2 h)
  have wt : pairOk g (x, y, z) → P = true := fun h => HP.out.symm.trans (pairB_true.2 h)
  have WF := hide wf
  have WT := hide wt
  clear wf wt
  cases hl : (cap x && cap y)
  · have hN : ¬ pairOk g (x, y, z) := fun h => by have h1 := h.a; have h2 := h.b; simp only at h1 h2; rw [h1, h2] at hl; cases hl
    have HN := hide hN
    clear hN
    go_enter Try.func89, Try.ntmps89
    go_wp2_with (go_at_call 88; refine (HA.out _).mono ?_; rintro e w1 ⟨rfl, hb1⟩; simp only [hl])
    go_ret
    exact ⟨ret_bool (WF.out HN.out).symm, HB.out.trans (hb1.mono HB.out.size)⟩
  · cases h0 : (z != 0)
    · have hN : ¬ pairOk g (x, y, z) := fun h => h.ne (by simpa using h0)
      have HN := hide hN
      clear hN
      go_enter Try.func89, Try.ntmps89
      go_wp2_with (go_at_call 88; refine (HA.out _).mono ?_; rintro e w1 ⟨rfl, hb1⟩; simp only [hl])
      go_ret
      exact ⟨ret_bool (WF.out HN.out).symm, HB.out.trans (hb1.mono HB.out.size)⟩
    · cases h1 : inB z (-10) 10
      · have hN : ¬ pairOk g (x, y, z) := fun h => by have := h.by_; simp only at this; rw [h1] at this; cases this
        have HN := hide hN
        clear hN
        go_enter Try.func89, Try.ntmps89
        go_wp2_with (first | (go_at_call 88; refine (HA.out _).mono ?_; rintro e w1 ⟨rfl, hb1⟩; simp only [hl]) | (go_at_call 132; refine (between_any _ _ _ _).mono ?_; rintro e w' ⟨rfl, rfl⟩))
        go_ret
        exact ⟨ret_bool (WF.out HN.out).symm, HB.out.trans (hb1.mono HB.out.size)⟩
      · obtain ⟨z3, z4⟩ := inB_true.1 h1
        cases h2 : decide (0 ≤ g + z)
        · have hN : ¬ pairOk g (x, y, z) := fun h => by have := h.sum; simp only [decide_eq_false_iff_not] at h2; exact h2 this
          have HN := hide hN
          clear hN
          go_enter Try.func89, Try.ntmps89
          go_wp2_with (first | (go_at_call 88; refine (HA.out _).mono ?_; rintro e w1 ⟨rfl, hb1⟩; simp only [hl]) | (go_at_call 132; refine (between_any _ _ _ _).mono ?_; rintro e w' ⟨rfl, rfl⟩))
          go_ret
          exact ⟨ret_bool (WF.out HN.out).symm, HB.out.trans (hb1.mono HB.out.size)⟩
        · have hN : pairOk g (x, y, z) := ⟨by simp at hl; exact hl.1, by simp at hl; exact hl.2, h1, by simpa using h0, by simpa using h2⟩
          have HN := hide hN
          clear hN
          go_enter Try.func89, Try.ntmps89
          go_wp2_with (first | (go_at_call 88; refine (HA.out _).mono ?_; rintro e w1 ⟨rfl, hb1⟩; simp only [hl]) | (go_at_call 132; refine (between_any _ _ _ _).mono ?_; rintro e w' ⟨rfl, rfl⟩))
          go_ret
          exact ⟨ret_bool (WT.out HN.out).symm, HB.out.trans (hb1.mono HB.out.size)⟩

set_option maxRecDepth 100000 in
set_option maxHeartbeats 2000000 in
theorem comparePairs_any (a b c x y z : Int) (w : World) :
    Calls Try.prog 199 #[.agg #[.int .u8 a, .int .u8 b, .int .i8 c], .agg #[.int .u8 x, .int .u8 y, .int .i8 z]] w fun e w' => e = .returned (.int .i64 (cmpP (a, b, c) (x, y, z))) ∧ Below w.heap.size w w' := by
  have hb : Below w.heap.size w ((w.alloc (.cells #[.int .u8 a, .int .u8 b, .int .i8 c] 36)).alloc (.cells #[.int .u8 x, .int .u8 y, .int .i8 z] 36)) := ((Below.refl _ _).alloc (Nat.le_refl _) _).alloc (by simp) _
  have r1 := World.rangeAt_alloc (rangeAt_new' w #[.int .u8 a, .int .u8 b, .int .i8 c] 36) (.cells #[.int .u8 x, .int .u8 y, .int .i8 z] 36)
  have r2 := rangeAt_newg (w := w.alloc (.cells #[.int .u8 a, .int .u8 b, .int .i8 c] 36)) (cs := #[.int .u8 x, .int .u8 y, .int .i8 z]) (t := 36) (g := w.heap.size + 1) (l := _) (by simp) rfl
  go_enter Try.func199, Try.ntmps199
  go_wp2
  have hs : ((w.alloc (.cells #[.int .u8 a, .int .u8 b, .int .i8 c] 36)).alloc (.cells #[.int .u8 x, .int .u8 y, .int .i8 z] 36)).heap.size = w.heap.size + 1 + 1 := by simp
  have hs1 : w.heap.size + 1 < ((w.alloc (.cells #[.int .u8 a, .int .u8 b, .int .i8 c] 36)).alloc (.cells #[.int .u8 x, .int .u8 y, .int .i8 z] 36)).heap.size := by rw [hs]; omega
  have hs0 : w.heap.size < ((w.alloc (.cells #[.int .u8 a, .int .u8 b, .int .i8 c] 36)).alloc (.cells #[.int .u8 x, .int .u8 y, .int .i8 z] 36)).heap.size := by rw [hs]; omega
  clear hs
  generalize ((w.alloc (.cells #[.int .u8 a, .int .u8 b, .int .i8 c] 36)).alloc (.cells #[.int .u8 x, .int .u8 y, .int .i8 z] 36)) = W1 at *
  have c0 : W1.cell? ⟨w.heap.size, 0, none⟩ = some (.int .u8 a) := r1 0 _ rfl
  have c1 : W1.cell? ⟨w.heap.size, 1, none⟩ = some (.int .u8 b) := r1 1 _ rfl
  have d0 : W1.cell? ⟨w.heap.size + 1, 0, none⟩ = some (.int .u8 x) := r2 0 _ rfl
  have d1 : W1.cell? ⟨w.heap.size + 1, 1, none⟩ = some (.int .u8 y) := r2 1 _ rfl
  clear r1 r2
  refine wp_region_still_tail 10 (by kernel_rfl) (by kernel_rfl) ?_
  simp only [List.take_succ_cons, List.take_zero, List.drop_succ_cons, List.drop_zero]
  iterate 4 still_step
  still_call ((compare_any a x _).mono fun _ _ ⟨h, h'⟩ => ⟨h, h'.symm⟩)
  iterate 4 still_step
  still_call ((compare_any b y _).mono fun _ _ ⟨h, h'⟩ => ⟨h, h'.symm⟩)
  refine wpStill_nil ?_
  change wpList _ _ _ _ _ W1.drew
  have hb2 : Below w.heap.size w W1.drew := below_drewN hb 1
  generalize W1.drew = W2 at *
  clear c0 c1 d0 d1 hs0 hs1 hb
  have e0 : (W2.alloc (.cells #[.int .i64 (cmpI a x), .int .i64 (cmpI b y)] 3)).cell? ⟨W2.heap.size, 0, none⟩ = some (.int .i64 (cmpI a x)) := (rangeAt_new' W2 #[.int .i64 (cmpI a x), .int .i64 (cmpI b y)] 3) 0 _ rfl
  have e1 : (W2.alloc (.cells #[.int .i64 (cmpI a x), .int .i64 (cmpI b y)] 3)).cell? ⟨W2.heap.size, 1, none⟩ = some (.int .i64 (cmpI b y)) := (rangeAt_new' W2 #[.int .i64 (cmpI a x), .int .i64 (cmpI b y)] 3) 1 _ rfl
  have E0 := hide e0
  have E1 := hide e1
  clear e0 e1
  go_wp2_with (go_at_call 208; refine (cmpOr_any _ _ _ _ E0.out E1.out).mono ?_; rintro e w1 ⟨rfl, rfl⟩)
  all_goals (go_ret; exact ⟨ret_int (by simp_all [cmpP]), hb2.alloc hb2.size _⟩)

set_option maxRecDepth 100000 in
set_option maxHeartbeats 4000000 in
theorem validPairs_any (F : Fc) (hF : F.ok) (A : Option Addr) (c : Nat) (w : World) (hA : PairsAt w w.heap.size A F.ps) :
    Calls Try.prog 161 #[.agg (fc F (.slice A F.ps.length c)).toArray] w fun e w' => e = .returned (.bool (decide (F.ps.length ≤ 12) && @decide (goodTo F.gp F.ps F.ps.length) (Classical.propDecidable _))) ∧ Below w.heap.size w w' := by
  have hW := hide hF.len
  have hr := rangeAt_new w (fc F (.slice A F.ps.length c)) 32
  have hb0 : Below w.heap.size w (w.alloc (.cells (fc F (.slice A F.ps.length c)).toArray 32)) := (Below.refl _ _).alloc (Nat.le_refl _) _
  have hs0 : w.heap.size < (w.alloc (.cells (fc F (.slice A F.ps.length c)).toArray 32)).heap.size := by simp
  have hn := hF.n
  unfold maxLen at hn
  obtain ⟨gp1, gp2⟩ := hF.gp
  generalize hS : (decide (F.ps.length ≤ 12) && @decide (goodTo F.gp F.ps F.ps.length) (Classical.propDecidable _)) = S
  have HS := hide hS
  clear hS
  have x27 := rangeAt_cell hr (fc_gp hW.out _)
  have x28 := rangeAt_cell hr (fc_sl hW.out _)
  by_cases h12 : F.ps.length ≤ 12
  · have hd : decide ((12 : Int) < F.ps.length) = false := by simp; omega
    have hd' : decide (12 < F.ps.length) = false := by simp; omega
    have BL := (PairsAt.below hA hb0)
    go_enter Try.func161, Try.ntmps161
    go_wp2
    generalize (w.alloc (.cells (fc F (.slice A F.ps.length c)).toArray 32)) = W0 at *
    have hBs := hb0.size
    clear hA
    go_loopw [12] (fun i wr => ∃ k : Nat, k ≤ F.ps.length ∧ i = .int .i64 k ∧ Below W0.heap.size W0 wr ∧ Hid (goodTo F.gp F.ps k))
      (fun i _ => F.ps.length - (intOf i).toNat)
    case atStart => exact ⟨0, by omega, rfl, Below.refl _ _, goodTo_zero _ _⟩
    case round =>
      obtain ⟨k, hk, rfl, hB, hg⟩ := hrel
      have hBW := hB.size
      by_cases hlt : k < F.ps.length
      · obtain ⟨b', o', rfl, hb', hps⟩ := BL (by intro e; rw [e] at hlt; simp at hlt)
        obtain ⟨p, hp⟩ : ∃ p, F.ps[k]? = some p := ⟨F.ps[k]'hlt, List.getElem?_eq_getElem _⟩
        obtain ⟨x, y, z⟩ := p
        obtain ⟨⟨p1, p2⟩, ⟨p3, p4⟩, p5, p6⟩ := hF.pair hp
        have hq0 := rangeAt_below (hps k _ hp) hB (by omega)
        have c0 : wr.cell? ⟨b', o' + k * 3, none⟩ = some (.int .u8 x) := hq0 0 _ rfl
        have c1 : wr.cell? ⟨b', o' + k * 3 + 1, none⟩ = some (.int .u8 y) := hq0 1 _ rfl
        have c2 : wr.cell? ⟨b', o' + k * 3 + 2, none⟩ = some (.int .i8 z) := hq0 2 _ rfl
        have hi : (k : Int) < F.ps.length := by omega
        have h0 : (0 : Int) ≤ k := by omega
        clear hq0 x27 x28
        go_wp2
        clear c0 c1 c2
        have hB1 : Below W0.heap.size W0 (wr.alloc (.cells #[.int .u8 x, .int .u8 y, .int .i8 z] 36)) := hB.alloc hB.size _
        have e0 := rangeAt_new' wr #[.int .u8 x, .int .u8 y, .int .i8 z] 36
        have hz1 : wr.heap.size < (wr.alloc (.cells #[.int .u8 x, .int .u8 y, .int .i8 z] 36)).heap.size := by simp
        have hB0 := hB.size
        generalize (wr.alloc (.cells #[.int .u8 x, .int .u8 y, .int .i8 z] 36)) = W1 at *
        generalize wr.heap.size = g at *
        have hBx := hB1.size
        have hrr := rangeAt_below hr hB1 hs0
        have z27 := Over.get (rangeAt_cell hrr (fc_gp hW.out _))
        have d0 := Over.get (e0 0 _ rfl)
        have d1 := Over.get (e0 1 _ rfl)
        have d2 := Over.get (e0 2 _ rfl)
        simp only [Nat.zero_add] at d0 d1 d2
        cases hP : pairB F.gp (x, y, z)
        · clear hr hrr e0 hps
          refine wp_region_over (by kernel_rfl) (by kernel_rfl) ?_
          repeat (go_big_quiet_step (first | (go_at_call 89; exact over_call (validPair_any _ _ _ _ _ ⟨p5, p6⟩ ⟨gp1, gp2⟩)) | (go_at_call 199; exact over_call (comparePairs_any _ _ _ _ _ _ _))))
          refine wpQuiet_nil ?_
          intro w1 hb1
          have hB2 : Below W0.heap.size W0 w1 := hB1.trans (hb1.mono hBx)
          clear hb1
          clear z27 d0 d1 d2
          go_wp2
          go_ret
          refine ⟨ret_bool ?_, hb0.trans (hB2.mono hBs)⟩
          rw [← HS.out]
          have hN : ¬ goodTo F.gp F.ps F.ps.length := fun h => pairB_false.1 hP (h k _ (by omega) hp).1
          simp [hN]
        · by_cases hk0 : k = 0
          · have hd0 : decide (0 < k) = false := by simp [hk0]
            have hgo := hide (goodTo_succ hg.out hp (pairB_true.1 hP) (fun q h0 _ => absurd h0 (by omega)))
            clear hr hrr e0 hps hk0
            refine wp_region_over (by kernel_rfl) (by kernel_rfl) ?_
            repeat (go_big_quiet_step (first | (go_at_call 89; exact over_call (validPair_any _ _ _ _ _ ⟨p5, p6⟩ ⟨gp1, gp2⟩)) | (go_at_call 199; exact over_call (comparePairs_any _ _ _ _ _ _ _))))
            refine wpQuiet_nil ?_
            intro w1 hb1
            have hB2 : Below W0.heap.size W0 w1 := hB1.trans (hb1.mono hBx)
            clear hb1
            clear z27 d0 d1 d2
            go_wp2
            exact ⟨⟨k + 1, by omega, by go_num, hB2, hgo⟩, by simp [intOf]; omega⟩
          · have hd0 : decide (0 < k) = true := by simp; omega
            obtain ⟨q, hq⟩ : ∃ q, F.ps[k - 1]? = some q := ⟨F.ps[k - 1]'(by omega), List.getElem?_eq_getElem _⟩
            obtain ⟨r, s, t⟩ := q
            have j00 : (1 : Int) ≤ (k : Int) := by omega
            have HGT := hide (goodTo_succ hg.out hp (pairB_true.1 hP))
            have hcell := rangeAt_below (hps (k - 1) _ hq) hB1 (by omega)
            have z28 := Over.get (rangeAt_cell hrr (fc_sl hW.out _))
            have c0 := Over.get (hcell 0 _ rfl)
            have c1 := Over.get (hcell 1 _ rfl)
            have c2 := Over.get (hcell 2 _ rfl)
            simp only [Nat.add_zero] at c0
            clear hr hrr e0 hps hk0 hcell
            have j0 : (0 : Int) ≤ (k : Int) - 1 := by omega
            have j1 : (k : Int) - 1 < F.ps.length := by omega
            have j2 := IntWalk.i64_in ((k : Int) - 1) ⟨by omega, by omega⟩
            have j3 : ((k : Int) - 1).toNat = k - 1 := by omega
            cases ha : ahead (r, s, t) (x, y, z)
            · have hc0 : decide (0 ≤ cmpP (r, s, t) (x, y, z)) = true := by simp; apply Int.not_lt.1; intro h; rw [cmpP_neg.1 h] at ha; cases ha
              refine wp_region_over (by kernel_rfl) (by kernel_rfl) ?_
              repeat (go_big_quiet_step (first | (go_at_call 89; exact over_call (validPair_any _ _ _ _ _ ⟨p5, p6⟩ ⟨gp1, gp2⟩)) | (go_at_call 199; exact over_call (comparePairs_any _ _ _ _ _ _ _))))
              refine wpQuiet_nil ?_
              intro w1 hb1
              have hB2 : Below W0.heap.size W0 w1 := hB1.trans (hb1.mono hBx)
              clear hb1
              clear z27 z28 c0 c1 c2 d0 d1 d2 j2 j3
              go_wp2
              go_ret
              refine ⟨ret_bool ?_, hb0.trans (hB2.mono hBs)⟩
              rw [← HS.out]
              have hN : ¬ goodTo F.gp F.ps F.ps.length := fun h => by have := (h k _ (by omega) hp).2 _ (by omega) hq; rw [ha] at this; cases this
              simp [hN]
            · have hc0 : decide (0 ≤ cmpP (r, s, t) (x, y, z)) = false := by have := cmpP_neg.2 ha; simp; omega
              refine wp_region_over (by kernel_rfl) (by kernel_rfl) ?_
              repeat (go_big_quiet_step (first | (go_at_call 89; exact over_call (validPair_any _ _ _ _ _ ⟨p5, p6⟩ ⟨gp1, gp2⟩)) | (go_at_call 199; exact over_call (comparePairs_any _ _ _ _ _ _ _))))
              refine wpQuiet_nil ?_
              intro w1 hb1
              have hB2 : Below W0.heap.size W0 w1 := hB1.trans (hb1.mono hBx)
              clear hb1
              clear z27 z28 c0 c1 c2 d0 d1 d2 j2 j3
              go_wp2
              exact ⟨⟨k + 1, by omega, by go_num, hB2, hide (HGT.out (fun q' _ hq' => by rw [hq] at hq'; injection hq' with hq'; subst hq'; exact ha))⟩, by simp [intOf]; omega⟩
      · obtain rfl : k = F.ps.length := by omega
        go_wp2
        go_ret
        refine ⟨ret_bool ?_, hb0.trans (hB.mono hBs)⟩
        rw [← HS.out]
        have hN := hg.out
        simp [hN, h12]
  · have hd : decide ((12 : Int) < F.ps.length) = true := by simp; omega
    have hd' : decide (12 < F.ps.length) = true := by simp; omega
    go_enter Try.func161, Try.ntmps161
    go_wp2
    go_ret
    exact ⟨ret_bool (by rw [← HS.out]; simp [h12]), hb0⟩

/-- A row is loaded where a guard says yes. -/
theorem wpList_load_mid_g {P : Program} {ops : Array Oper} {rest : List Oper} {op : Oper} {a : Act} {w : World} {Q : Exit → Act → World → Prop} (hw : Region.wanted op (yielded ops a.tmps) = true) (ty : TypeId) (x : Operand) (ho : op.op = .load ty x)
    (b o : Nat) (hx : a.eval x = .pointer (some ⟨b, o, none⟩)) (cs : List Value) (d : TypeDesc) (hc : w.rangeAt b o cs)
    (hu : P.underlying ty = some d) (hd : d.isRow = true) (hi : (P.info? ty).map (·.size) = some cs.length)
    (h : wpList P ops Q rest (a.put op.dst (.agg cs.toArray)) w) : wpList P ops Q (op :: rest) a w :=
  wpList_step fun _ hK => by rw [if_pos hw]; exact wp_load_mid ty x ho b o hx cs d hc hu hd hi (hK _ _ h)

theorem run_index_agg {P : Program} {t e : TypeId} {n k : Nat} {cs : Array Value} {v : Value} (h : P.underlying t = some (.array n e)) (hz : ∀ w, (sizeOf e).run P w = .ok 1 w) (ha : ∀ w, (isAgg e).run P w = .ok false w) (hk : k < n) (hv : cs[k]? = some v) (w : World) :
    (Instr.index t (.agg cs) (.int .i64 (k : Int))).run P w = .ok v w := by
  have h1 : (0 : Int) ≤ k ∧ (k : Int) < n := by omega
  simp [Instr.index, run_underlying h, asIntOf, h1, hk, hz, ha, hv, go_sem]

set_option maxRecDepth 100000 in
set_option maxHeartbeats 4000000 in
theorem implValidFace_any (F : Fc) (hF : F.ok) (A : Option Addr) (c : Nat) (w : World) (hA : PairsAt w w.heap.size A F.ps) :
    Calls Try.prog 87 #[.agg (fc F (.slice A F.ps.length c)).toArray] w fun e w' => e = .returned (.bool (vface F)) ∧ Below w.heap.size w w' := by
  have hW := hide hF.len
  have hr := rangeAt_new w (fc F (.slice A F.ps.length c)) 32
  have hb0 : Below w.heap.size w (w.alloc (.cells (fc F (.slice A F.ps.length c)).toArray 32)) := (Below.refl _ _).alloc (Nat.le_refl _) _
  have hs0 : w.heap.size < (w.alloc (.cells (fc F (.slice A F.ps.length c)).toArray 32)).heap.size := by simp
  obtain ⟨sp1, sp2⟩ := hF.sp
  obtain ⟨gp1, gp2⟩ := hF.gp
  have hi26 : (Try.prog.info? 23).map (·.size) = some (wc F.W).length := by rw [wc_length, hW.out]; kernel_rfl
  have HI26 := hide hi26
  have hi29 : (Try.prog.info? 32).map (·.size) = some (fc F (.slice A F.ps.length c)).length := by rw [fc_length hW.out]; kernel_rfl
  have HI29 := hide hi29
  clear hi26 hi29
  generalize hS : vface F = S
  have HS := hide hS
  clear hS
  have x26 := rangeAt_cell hr (fc_sp hW.out _)
  have x27 := rangeAt_cell hr (fc_gp hW.out _)
  have VP := hide (validPairs_any F hF A c _ ((hA.below hb0).mono hb0.size))
  have rl := rangeAt_left hr
  clear hA
  go_enter Try.func87, Try.ntmps87
  go_wp2_with (first
    | (refine wpList_load_mid rfl 23 (.tmp 5) rfl _ 0 rfl (wc F.W) _ rl Try.underlying23 rfl HI26.out ?_))
  generalize (w.alloc (.cells (fc F (.slice A F.ps.length c)).toArray 32)) = W0 at *
  have hBs := hb0.size
  go_loop [7] (fun i => ∃ k : Nat, k ≤ 26 ∧ i = .int .i64 k ∧ Hid (∀ j, j < k → inB (F.W.getD j 0) 1 40 = true))
    (fun i => 26 - (intOf i).toNat)
  case atStart => exact ⟨0, by omega, rfl, fun j hj => by omega⟩
  case round =>
    obtain ⟨k, hk, rfl, hall⟩ := hrel
    by_cases hlt : k < 26
    · have hi : (k : Int) < 26 := by omega
      have h0 : (0 : Int) ≤ k := by omega
      have hix := run_index_agg (P := Try.prog) (t := 23) (k := k) (cs := (wc F.W).toArray) Try.underlying23 (fun _ => by kernel_rfl) (fun _ => by kernel_rfl) hlt (by rw [List.getElem?_toArray]; exact wc_get (by rw [hW.out]; exact hlt))
      obtain ⟨wk1, wk2⟩ := hF.at_ k
      simp only [List.getD_eq_getElem?_getD] at hix
      cases hv : inB (F.W.getD k 0) 1 40
      · have HV := hide hv
        simp only [List.getD_eq_getElem?_getD] at hv
        go_wp2_with (go_at_call 132; refine (between_any _ _ _ _).mono ?_; rintro e w' ⟨rfl, rfl⟩)
        go_ret
        refine ⟨ret_bool ?_, hb0⟩
        rw [← HS.out]
        have := not_wide (by rw [hW.out]; exact hlt) HV.out
        simp [vface, this]
      · have HV := hide hv
        simp only [List.getD_eq_getElem?_getD] at hv
        go_wp2_with (go_at_call 132; refine (between_any _ _ _ _).mono ?_; rintro e w' ⟨rfl, rfl⟩)
        exact ⟨⟨k + 1, by omega, by go_num, fun j hj => by
          by_cases e : j = k
          · subst e; exact HV.out
          · exact hall.out j (by omega)⟩, by simp [intOf]; omega⟩
    · obtain rfl : k = 26 := by omega
      have allW := hide (all_wide (W := F.W) (by rw [hW.out]; exact hall.out))
      have hv : vface F = (decide (F.ps.length ≤ 12) && shapeB F) := rfl
      have HF := hide hv
      clear hall hv
      cases hsp : inB F.sp 1 40
      · go_wp2_with (go_at_call 132; refine (between_any _ _ _ _).mono ?_; rintro e w' ⟨rfl, rfl⟩)
        go_ret
        refine ⟨ret_bool ?_, hb0⟩
        rw [← HS.out, HF.out, shapeB_false.2 (fun s => by have := s.sp; rw [hsp] at this; cases this)]
        simp
      · cases hgp : inB F.gp 0 10
        · go_wp2_with (go_at_call 132; refine (between_any _ _ _ _).mono ?_; rintro e w' ⟨rfl, rfl⟩)
          go_ret
          refine ⟨ret_bool ?_, hb0⟩
          rw [← HS.out, HF.out, shapeB_false.2 (fun s => by have := s.gp; rw [hgp] at this; cases this)]
          simp
        · have HSP := hide hsp
          have HGP := hide hgp
          go_wp2_with (first
            | (go_at_call 132; refine (between_any _ _ _ _).mono ?_; rintro e w' ⟨rfl, rfl⟩)
            | (refine wpList_load_mid_g rfl 32 (.tmp 1) rfl _ 0 rfl (fc F (.slice A F.ps.length c)) _ hr Try.underlying32 rfl HI29.out ?_)
            | (go_at_call 161; refine VP.out.mono ?_; rintro e w1 ⟨rfl, hb1⟩))
          go_ret
          refine ⟨ret_bool ?_, hb0.trans (hb1.mono hBs)⟩
          rw [← HS.out, HF.out, Bool.eq_iff_iff]
          simp only [Bool.and_eq_true, decide_eq_true_eq, shapeB_true]
          exact ⟨fun ⟨a, b⟩ => ⟨a, allW.out, HSP.out, HGP.out, b⟩, fun ⟨a, b⟩ => ⟨a, b.ps⟩⟩
end Go.Proofs.Ytikndeloeeppaaa
