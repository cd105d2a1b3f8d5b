/- The program's test of a face. · Pairs in their order: where a pair is, as plain data. · How wide a word is, as plain data. · What makes a word, as plain data. · Words that are joined, as plain data. · The words of a text: what lies between blanks; as the model splits, and as the program cuts. · How wide a line of words is, as plain data. · The words of a text on one line, and its lines, as plain data. -/
import Derived.Test.YtngondeaeipcfaaGreatDoorG1
import Derived.Test.YtngondeaeipcfaaGreatDoorG2
import Derived.StillTailTactics
import Derived.Lib.IndexLaws
import Derived.Lib.Join
import Derived.Lib.CutLaws
import Derived.Lib.IndexBytes

namespace Go.Proofs.YtngondeaeipcfaaGreatDoor
open Go.RowKit

/-- Which of two pairs comes first. -/
def cmpP (p q : Int × Int × Int) : Int := if cmpI p.1 q.1 = 0 then cmpI p.2.1 q.2.1 else cmpI p.1 q.1
theorem cmpP_neg {p q : Int × Int × Int} : cmpP p q < 0 ↔ ahead p q = true := by
  rw [ahead_true]; unfold cmpP cmpI
  (repeat' split) <;> omega
theorem cmpP_bd (p q : Int × Int × Int) : -1 ≤ cmpP p q ∧ cmpP p q ≤ 1 := by
  unfold cmpP cmpI
  (repeat' split) <;> omega
theorem cmpI_bd (a b : Int) : -1 ≤ cmpI a b ∧ cmpI a b ≤ 1 := by unfold cmpI; (repeat' split) <;> omega

set_option maxHeartbeats 1000000 in
theorem cmpOr_any (b : Nat) (x y : Int) (w : World) (h0 : w.cell? ⟨b, 0, none⟩ = some (.int .i64 x)) (h1 : w.cell? ⟨b, 1, none⟩ = some (.int .i64 y)) :
    Calls Tryz.prog 281 #[.slice (some ⟨b, 0, none⟩) 2 2] w fun e w' => e = .returned (.int .i64 (if x = 0 then y else x)) ∧ w = w' := by
  generalize hz : (if x = 0 then y else x) = z
  have HZ := hide hz
  clear hz
  go_enter Tryz.func281, Tryz.ntmps281
  go_wp2
  go_loop [8] (fun i => ∃ k : Nat, k ≤ 2 ∧ i = .int .i64 k ∧ (0 < k → x = 0) ∧ (1 < k → y = 0)) (fun i => 2 - (intOf i).toNat)
  case atStart => exact ⟨0, by omega, rfl, by omega, by omega⟩
  case round =>
    obtain ⟨k, hk, rfl, hx, hy⟩ := hrel
    have : k = 0 ∨ k = 1 ∨ k = 2 := by omega
    rcases this with rfl | rfl | rfl
    · clear hx hy
      by_cases e : x = 0
      · subst e
        go_wp2
        exact ⟨⟨1, by omega, by go_num, fun _ => trivial, by omega⟩, by simp [intOf]⟩
      · have he : (x == 0) = false := by simpa using e
        have he' : (x != 0) = true := by simpa using e
        have E := hide e
        clear e
        go_wp2
        go_ret
        exact ⟨ret_int (by rw [← HZ.out, if_neg E.out]), rfl⟩
    · have ex := hide (hx (by omega))
      clear hx hy
      by_cases e : y = 0
      · subst e
        go_wp2
        exact ⟨⟨2, by omega, by go_num, fun _ => ex.out, fun _ => trivial⟩, by simp [intOf]⟩
      · have he : (y == 0) = false := by simpa using e
        have he' : (y != 0) = true := by simpa using e
        have E := hide e
        clear e
        go_wp2
        go_ret
        exact ⟨ret_int (by rw [← HZ.out, if_pos ex.out]), rfl⟩
    · have ex := hide (hx (by omega))
      have ey := hide (hy (by omega))
      clear hx hy
      go_wp2
      go_ret
      exact ⟨ret_int (by rw [← HZ.out, if_pos ex.out, ey.out]), rfl⟩

set_option maxHeartbeats 1000000 in
theorem hasLetters_any (a b c : Int) (w : World) :
    Calls Tryz.prog 114 #[.agg #[.int .u8 a, .int .u8 b, .int .i8 c]] w fun e w' => e = .returned (.bool (cap a && cap b)) ∧ Below w.heap.size w w' := by
  cases ha : cap a
  · go_enter Tryz.func114, Tryz.ntmps114
    go_wp2_with (go_at_call 210; refine (isCapital_any _ _).mono ?_; rintro e w' ⟨rfl, rfl⟩)
    go_ret
    exact ⟨rfl, (Below.refl _ _).alloc (Nat.le_refl _) _⟩
  · go_enter Tryz.func114, Tryz.ntmps114
    go_wp2_with (go_at_call 210; refine (isCapital_any _ _).mono ?_; rintro e w' ⟨rfl, rfl⟩)
    go_ret
    exact ⟨rfl, (Below.refl _ _).alloc (Nat.le_refl _) _⟩

noncomputable def pairB (g : Int) (p : Int × Int × Int) : Bool := @decide (pairOk g p) (Classical.propDecidable _)
theorem pairB_true {g : Int} {p : Int × Int × Int} : pairB g p = true ↔ pairOk g p := by simp [pairB]
theorem pairB_false {g : Int} {p : Int × Int × Int} : pairB g p = false ↔ ¬ pairOk g p := by simp [pairB]

set_option maxHeartbeats 2000000 in
theorem validPair_any (x y z g : Int) (w : World) (hz : -128 ≤ z ∧ z ≤ 127) (hg : -128 ≤ g ∧ g ≤ 127) :
    Calls Tryz.prog 257 #[.agg #[.int .u8 x, .int .u8 y, .int .i8 z], .int .i8 g] w fun e w' => e = .returned (.bool (pairB g (x, y, z))) ∧ Below w.heap.size w w' := by
  obtain ⟨z1, z2⟩ := hz
  obtain ⟨g1, g2⟩ := hg
  generalize hP : pairB g (x, y, z) = P
  have HP := hide hP
  clear hP
  have hb : Below w.heap.size w (w.alloc (.cells #[.int .u8 x, .int .u8 y, .int .i8 z] 119)) := (Below.refl _ _).alloc (Nat.le_refl _) _
  have HB := hide hb
  clear hb
  have HA := hide (hasLetters_any x y z)
  have wf : ¬ pairOk g (x, y, z) → P = false := fun h => HP.out.symm.trans (pairB_false.2 h)
  have wt : pairOk g (x, y, z) → P = true := fun h => HP.out.symm.trans (pairB_true.2 h)
  have WF := hide wf
  have WT := hide wt
  clear wf wt
  cases hl : (cap x && cap y)
  · have hN : ¬ pairOk g (x, y, z) := fun h => by have h1 := h.a; have h2 := h.b; simp only at h1 h2; rw [h1, h2] at hl; cases hl
    have HN := hide hN
    clear hN
    go_enter Tryz.func257, Tryz.ntmps257
    go_wp2_with (go_at_call 114; refine (HA.out _).mono ?_; rintro e w1 ⟨rfl, hb1⟩; simp only [hl])
    go_ret
    exact ⟨ret_bool (WF.out HN.out).symm, HB.out.trans (hb1.mono HB.out.size)⟩
  · cases h0 : (z != 0)
    · have hN : ¬ pairOk g (x, y, z) := fun h => h.ne (by simpa using h0)
      have HN := hide hN
      clear hN
      go_enter Tryz.func257, Tryz.ntmps257
      go_wp2_with (go_at_call 114; refine (HA.out _).mono ?_; rintro e w1 ⟨rfl, hb1⟩; simp only [hl])
      go_ret
      exact ⟨ret_bool (WF.out HN.out).symm, HB.out.trans (hb1.mono HB.out.size)⟩
    · cases h1 : inB z (-10) 10
      · have hN : ¬ pairOk g (x, y, z) := fun h => by have := h.by_; simp only at this; rw [h1] at this; cases this
        have HN := hide hN
        clear hN
        go_enter Tryz.func257, Tryz.ntmps257
        go_wp2_with (first | (go_at_call 114; refine (HA.out _).mono ?_; rintro e w1 ⟨rfl, hb1⟩; simp only [hl]) | (go_at_call 116; refine (between_any _ _ _ _).mono ?_; rintro e w' ⟨rfl, rfl⟩))
        go_ret
        exact ⟨ret_bool (WF.out HN.out).symm, HB.out.trans (hb1.mono HB.out.size)⟩
      · obtain ⟨z3, z4⟩ := inB_true.1 h1
        cases h2 : decide (0 ≤ g + z)
        · have hN : ¬ pairOk g (x, y, z) := fun h => by have := h.sum; simp only [decide_eq_false_iff_not] at h2; exact h2 this
          have HN := hide hN
          clear hN
          go_enter Tryz.func257, Tryz.ntmps257
          go_wp2_with (first | (go_at_call 114; refine (HA.out _).mono ?_; rintro e w1 ⟨rfl, hb1⟩; simp only [hl]) | (go_at_call 116; refine (between_any _ _ _ _).mono ?_; rintro e w' ⟨rfl, rfl⟩))
          go_ret
          exact ⟨ret_bool (WF.out HN.out).symm, HB.out.trans (hb1.mono HB.out.size)⟩
        · have hN : pairOk g (x, y, z) := ⟨by simp at hl; exact hl.1, by simp at hl; exact hl.2, h1, by simpa using h0, by simpa using h2⟩
          have HN := hide hN
          clear hN
          go_enter Tryz.func257, Tryz.ntmps257
          go_wp2_with (first | (go_at_call 114; refine (HA.out _).mono ?_; rintro e w1 ⟨rfl, hb1⟩; simp only [hl]) | (go_at_call 116; refine (between_any _ _ _ _).mono ?_; rintro e w' ⟨rfl, rfl⟩))
          go_ret
          exact ⟨ret_bool (WT.out HN.out).symm, HB.out.trans (hb1.mono HB.out.size)⟩

set_option maxRecDepth 100000 in
set_option maxHeartbeats 2000000 in
theorem comparePairs_any (a b c x y z : Int) (w : World) :
    Calls Tryz.prog 258 #[.agg #[.int .u8 a, .int .u8 b, .int .i8 c], .agg #[.int .u8 x, .int .u8 y, .int .i8 z]] w fun e w' => e = .returned (.int .i64 (cmpP (a, b, c) (x, y, z))) ∧ Below w.heap.size w w' := by
  have hb : Below w.heap.size w ((w.alloc (.cells #[.int .u8 a, .int .u8 b, .int .i8 c] 119)).alloc (.cells #[.int .u8 x, .int .u8 y, .int .i8 z] 119)) := ((Below.refl _ _).alloc (Nat.le_refl _) _).alloc (by simp) _
  have r1 := World.rangeAt_alloc (rangeAt_new' w #[.int .u8 a, .int .u8 b, .int .i8 c] 119) (.cells #[.int .u8 x, .int .u8 y, .int .i8 z] 119)
  have r2 := rangeAt_newg (w := w.alloc (.cells #[.int .u8 a, .int .u8 b, .int .i8 c] 119)) (cs := #[.int .u8 x, .int .u8 y, .int .i8 z]) (t := 119) (g := w.heap.size + 1) (l := _) (by simp) rfl
  go_enter Tryz.func258, Tryz.ntmps258
  go_wp2
  have hs : ((w.alloc (.cells #[.int .u8 a, .int .u8 b, .int .i8 c] 119)).alloc (.cells #[.int .u8 x, .int .u8 y, .int .i8 z] 119)).heap.size = w.heap.size + 1 + 1 := by simp
  have hs1 : w.heap.size + 1 < ((w.alloc (.cells #[.int .u8 a, .int .u8 b, .int .i8 c] 119)).alloc (.cells #[.int .u8 x, .int .u8 y, .int .i8 z] 119)).heap.size := by rw [hs]; omega
  have hs0 : w.heap.size < ((w.alloc (.cells #[.int .u8 a, .int .u8 b, .int .i8 c] 119)).alloc (.cells #[.int .u8 x, .int .u8 y, .int .i8 z] 119)).heap.size := by rw [hs]; omega
  clear hs
  generalize ((w.alloc (.cells #[.int .u8 a, .int .u8 b, .int .i8 c] 119)).alloc (.cells #[.int .u8 x, .int .u8 y, .int .i8 z] 119)) = W1 at *
  have c0 : W1.cell? ⟨w.heap.size, 0, none⟩ = some (.int .u8 a) := r1 0 _ rfl
  have c1 : W1.cell? ⟨w.heap.size, 1, none⟩ = some (.int .u8 b) := r1 1 _ rfl
  have d0 : W1.cell? ⟨w.heap.size + 1, 0, none⟩ = some (.int .u8 x) := r2 0 _ rfl
  have d1 : W1.cell? ⟨w.heap.size + 1, 1, none⟩ = some (.int .u8 y) := r2 1 _ rfl
  clear r1 r2
  refine wp_region_still_tail 10 (by kernel_rfl) (by kernel_rfl) ?_
  simp only [List.take_succ_cons, List.take_zero, List.drop_succ_cons, List.drop_zero]
  iterate 4 still_step
  still_call ((compare_any a x _).mono fun _ _ ⟨h, h'⟩ => ⟨h, h'.symm⟩)
  iterate 4 still_step
  still_call ((compare_any b y _).mono fun _ _ ⟨h, h'⟩ => ⟨h, h'.symm⟩)
  refine wpStill_nil ?_
  change wpList _ _ _ _ _ W1.drew
  have hb2 : Below w.heap.size w W1.drew := below_drewN hb 1
  generalize W1.drew = W2 at *
  clear c0 c1 d0 d1 hs0 hs1 hb
  have e0 : (W2.alloc (.cells #[.int .i64 (cmpI a x), .int .i64 (cmpI b y)] 3)).cell? ⟨W2.heap.size, 0, none⟩ = some (.int .i64 (cmpI a x)) := (rangeAt_new' W2 #[.int .i64 (cmpI a x), .int .i64 (cmpI b y)] 3) 0 _ rfl
  have e1 : (W2.alloc (.cells #[.int .i64 (cmpI a x), .int .i64 (cmpI b y)] 3)).cell? ⟨W2.heap.size, 1, none⟩ = some (.int .i64 (cmpI b y)) := (rangeAt_new' W2 #[.int .i64 (cmpI a x), .int .i64 (cmpI b y)] 3) 1 _ rfl
  have E0 := hide e0
  have E1 := hide e1
  clear e0 e1
  go_wp2_with (go_at_call 281; refine (cmpOr_any _ _ _ _ E0.out E1.out).mono ?_; rintro e w1 ⟨rfl, rfl⟩)
  all_goals (go_ret; exact ⟨ret_int (by simp_all [cmpP]), hb2.alloc hb2.size _⟩)

set_option maxRecDepth 100000 in
set_option maxHeartbeats 4000000 in
theorem validPairs_any (F : Fc) (hF : F.ok) (A : Option Addr) (c : Nat) (w : World) (hA : PairsAt w w.heap.size A F.ps) :
    Calls Tryz.prog 206 #[.agg (fc F (.slice A F.ps.length c)).toArray] w fun e w' => e = .returned (.bool (decide (F.ps.length ≤ 12) && @decide (goodTo F.gp F.ps F.ps.length) (Classical.propDecidable _))) ∧ Below w.heap.size w w' := by
  have hW := hide hF.len
  have hr := rangeAt_new w (fc F (.slice A F.ps.length c)) 28
  have hb0 : Below w.heap.size w (w.alloc (.cells (fc F (.slice A F.ps.length c)).toArray 28)) := (Below.refl _ _).alloc (Nat.le_refl _) _
  have hs0 : w.heap.size < (w.alloc (.cells (fc F (.slice A F.ps.length c)).toArray 28)).heap.size := by simp
  have hn := hF.n
  unfold maxLen at hn
  obtain ⟨gp1, gp2⟩ := hF.gp
  generalize hS : (decide (F.ps.length ≤ 12) && @decide (goodTo F.gp F.ps F.ps.length) (Classical.propDecidable _)) = S
  have HS := hide hS
  clear hS
  have x27 := rangeAt_cell hr (fc_gp hW.out _)
  have x28 := rangeAt_cell hr (fc_sl hW.out _)
  by_cases h12 : F.ps.length ≤ 12
  · have hd : decide ((12 : Int) < F.ps.length) = false := by simp; omega
    have hd' : decide (12 < F.ps.length) = false := by simp; omega
    have BL := (PairsAt.below hA hb0)
    go_enter Tryz.func206, Tryz.ntmps206
    go_wp2
    generalize (w.alloc (.cells (fc F (.slice A F.ps.length c)).toArray 28)) = W0 at *
    have hBs := hb0.size
    clear hA
    go_loopw [12] (fun i wr => ∃ k : Nat, k ≤ F.ps.length ∧ i = .int .i64 k ∧ Below W0.heap.size W0 wr ∧ Hid (goodTo F.gp F.ps k))
      (fun i _ => F.ps.length - (intOf i).toNat)
    case atStart => exact ⟨0, by omega, rfl, Below.refl _ _, goodTo_zero _ _⟩
    case round =>
      obtain ⟨k, hk, rfl, hB, hg⟩ := hrel
      have hBW := hB.size
      by_cases hlt : k < F.ps.length
      · obtain ⟨b', o', rfl, hb', hps⟩ := BL (by intro e; rw [e] at hlt; simp at hlt)
        obtain ⟨p, hp⟩ : ∃ p, F.ps[k]? = some p := ⟨F.ps[k]'hlt, List.getElem?_eq_getElem _⟩
        obtain ⟨x, y, z⟩ := p
        obtain ⟨⟨p1, p2⟩, ⟨p3, p4⟩, p5, p6⟩ := hF.pair hp
        have hq0 := rangeAt_below (hps k _ hp) hB (by omega)
        have c0 : wr.cell? ⟨b', o' + k * 3, none⟩ = some (.int .u8 x) := hq0 0 _ rfl
        have c1 : wr.cell? ⟨b', o' + k * 3 + 1, none⟩ = some (.int .u8 y) := hq0 1 _ rfl
        have c2 : wr.cell? ⟨b', o' + k * 3 + 2, none⟩ = some (.int .i8 z) := hq0 2 _ rfl
        have hi : (k : Int) < F.ps.length := by omega
        have h0 : (0 : Int) ≤ k := by omega
        clear hq0 x27 x28
        go_wp2
        clear c0 c1 c2
        have hB1 : Below W0.heap.size W0 (wr.alloc (.cells #[.int .u8 x, .int .u8 y, .int .i8 z] 119)) := hB.alloc hB.size _
        have e0 := rangeAt_new' wr #[.int .u8 x, .int .u8 y, .int .i8 z] 119
        have hz1 : wr.heap.size < (wr.alloc (.cells #[.int .u8 x, .int .u8 y, .int .i8 z] 119)).heap.size := by simp
        have hB0 := hB.size
        generalize (wr.alloc (.cells #[.int .u8 x, .int .u8 y, .int .i8 z] 119)) = W1 at *
        generalize wr.heap.size = g at *
        have hBx := hB1.size
        have hrr := rangeAt_below hr hB1 hs0
        have z27 := Over.get (rangeAt_cell hrr (fc_gp hW.out _))
        have d0 := Over.get (e0 0 _ rfl)
        have d1 := Over.get (e0 1 _ rfl)
        have d2 := Over.get (e0 2 _ rfl)
        simp only [Nat.zero_add] at d0 d1 d2
        cases hP : pairB F.gp (x, y, z)
        · clear hr hrr e0 hps
          refine wp_region_over (by kernel_rfl) (by kernel_rfl) ?_
          repeat (go_big_quiet_step (first | (go_at_call 257; exact over_call (validPair_any _ _ _ _ _ ⟨p5, p6⟩ ⟨gp1, gp2⟩)) | (go_at_call 258; exact over_call (comparePairs_any _ _ _ _ _ _ _))))
          refine wpQuiet_nil ?_
          intro w1 hb1
          have hB2 : Below W0.heap.size W0 w1 := hB1.trans (hb1.mono hBx)
          clear hb1
          clear z27 d0 d1 d2
          go_wp2
          go_ret
          refine ⟨ret_bool ?_, hb0.trans (hB2.mono hBs)⟩
          rw [← HS.out]
          have hN : ¬ goodTo F.gp F.ps F.ps.length := fun h => pairB_false.1 hP (h k _ (by omega) hp).1
          simp [hN]
        · by_cases hk0 : k = 0
          · have hd0 : decide (0 < k) = false := by simp [hk0]
            have hgo := hide (goodTo_succ hg.out hp (pairB_true.1 hP) (fun q h0 _ => absurd h0 (by omega)))
            clear hr hrr e0 hps hk0
            refine wp_region_over (by kernel_rfl) (by kernel_rfl) ?_
            repeat (go_big_quiet_step (first | (go_at_call 257; exact over_call (validPair_any _ _ _ _ _ ⟨p5, p6⟩ ⟨gp1, gp2⟩)) | (go_at_call 258; exact over_call (comparePairs_any _ _ _ _ _ _ _))))
            refine wpQuiet_nil ?_
            intro w1 hb1
            have hB2 : Below W0.heap.size W0 w1 := hB1.trans (hb1.mono hBx)
            clear hb1
            clear z27 d0 d1 d2
            go_wp2
            exact ⟨⟨k + 1, by omega, by go_num, hB2, hgo⟩, by simp [intOf]; omega⟩
          · have hd0 : decide (0 < k) = true := by simp; omega
            obtain ⟨q, hq⟩ : ∃ q, F.ps[k - 1]? = some q := ⟨F.ps[k - 1]'(by omega), List.getElem?_eq_getElem _⟩
            obtain ⟨r, s, t⟩ := q
            have j00 : (1 : Int) ≤ (k : Int) := by omega
            have HGT := hide (goodTo_succ hg.out hp (pairB_true.1 hP))
            have hcell := rangeAt_below (hps (k - 1) _ hq) hB1 (by omega)
            have z28 := Over.get (rangeAt_cell hrr (fc_sl hW.out _))
            have c0 := Over.get (hcell 0 _ rfl)
            have c1 := Over.get (hcell 1 _ rfl)
            have c2 := Over.get (hcell 2 _ rfl)
            simp only [Nat.add_zero] at c0
            clear hr hrr e0 hps hk0 hcell
            have j0 : (0 : Int) ≤ (k : Int) - 1 := by omega
            have j1 : (k : Int) - 1 < F.ps.length := by omega
            have j2 := IntWalk.i64_in ((k : Int) - 1) ⟨by omega, by omega⟩
            have j3 : ((k : Int) - 1).toNat = k - 1 := by omega
            cases ha : ahead (r, s, t) (x, y, z)
            · have hc0 : decide (0 ≤ cmpP (r, s, t) (x, y, z)) = true := by simp; apply Int.not_lt.1; intro h; rw [cmpP_neg.1 h] at ha; cases ha
              refine wp_region_over (by kernel_rfl) (by kernel_rfl) ?_
              repeat (go_big_quiet_step (first | (go_at_call 257; exact over_call (validPair_any _ _ _ _ _ ⟨p5, p6⟩ ⟨gp1, gp2⟩)) | (go_at_call 258; exact over_call (comparePairs_any _ _ _ _ _ _ _))))
              refine wpQuiet_nil ?_
              intro w1 hb1
              have hB2 : Below W0.heap.size W0 w1 := hB1.trans (hb1.mono hBx)
              clear hb1
              clear z27 z28 c0 c1 c2 d0 d1 d2 j2 j3
              go_wp2
              go_ret
              refine ⟨ret_bool ?_, hb0.trans (hB2.mono hBs)⟩
              rw [← HS.out]
              have hN : ¬ goodTo F.gp F.ps F.ps.length := fun h => by have := (h k _ (by omega) hp).2 _ (by omega) hq; rw [ha] at this; cases this
              simp [hN]
            · have hc0 : decide (0 ≤ cmpP (r, s, t) (x, y, z)) = false := by have := cmpP_neg.2 ha; simp; omega
              refine wp_region_over (by kernel_rfl) (by kernel_rfl) ?_
              repeat (go_big_quiet_step (first | (go_at_call 257; exact over_call (validPair_any _ _ _ _ _ ⟨p5, p6⟩ ⟨gp1, gp2⟩)) | (go_at_call 258; exact over_call (comparePairs_any _ _ _ _ _ _ _))))
              refine wpQuiet_nil ?_
              intro w1 hb1
              have hB2 : Below W0.heap.size W0 w1 := hB1.trans (hb1.mono hBx)
              clear hb1
              clear z27 z28 c0 c1 c2 d0 d1 d2 j2 j3
              go_wp2
              exact ⟨⟨k + 1, by omega, by go_num, hB2, hide (HGT.out (fun q' _ hq' => by rw [hq] at hq'; injection hq' with hq'; subst hq'; exact ha))⟩, by simp [intOf]; omega⟩
      · obtain rfl : k = F.ps.length := by omega
        go_wp2
        go_ret
        refine ⟨ret_bool ?_, hb0.trans (hB.mono hBs)⟩
        rw [← HS.out]
        have hN := hg.out
        simp [hN, h12]
  · have hd : decide ((12 : Int) < F.ps.length) = true := by simp; omega
    have hd' : decide (12 < F.ps.length) = true := by simp; omega
    go_enter Tryz.func206, Tryz.ntmps206
    go_wp2
    go_ret
    exact ⟨ret_bool (by rw [← HS.out]; simp [h12]), hb0⟩

/-- A row is loaded where a guard says yes. -/
theorem wpList_load_mid_g {P : Program} {ops : Array Oper} {rest : List Oper} {op : Oper} {a : Act} {w : World} {Q : Exit → Act → World → Prop} (hw : Region.wanted op (yielded ops a.tmps) = true) (ty : TypeId) (x : Operand) (ho : op.op = .load ty x)
    (b o : Nat) (hx : a.eval x = .pointer (some ⟨b, o, none⟩)) (cs : List Value) (d : TypeDesc) (hc : w.rangeAt b o cs)
    (hu : P.underlying ty = some d) (hd : d.isRow = true) (hi : (P.info? ty).map (·.size) = some cs.length)
    (h : wpList P ops Q rest (a.put op.dst (.agg cs.toArray)) w) : wpList P ops Q (op :: rest) a w :=
  wpList_step fun _ hK => by rw [if_pos hw]; exact wp_load_mid ty x ho b o hx cs d hc hu hd hi (hK _ _ h)

theorem run_index_agg {P : Program} {t e : TypeId} {n k : Nat} {cs : Array Value} {v : Value} (h : P.underlying t = some (.array n e)) (hz : ∀ w, (sizeOf e).run P w = .ok 1 w) (ha : ∀ w, (isAgg e).run P w = .ok false w) (hk : k < n) (hv : cs[k]? = some v) (w : World) :
    (Instr.index t (.agg cs) (.int .i64 (k : Int))).run P w = .ok v w := by
  have h1 : (0 : Int) ≤ k ∧ (k : Int) < n := by omega
  simp [Instr.index, run_underlying h, asIntOf, h1, hk, hz, ha, hv, go_sem]

set_option maxRecDepth 100000 in
set_option maxHeartbeats 4000000 in
theorem implValidFace_any (F : Fc) (hF : F.ok) (A : Option Addr) (c : Nat) (w : World) (hA : PairsAt w w.heap.size A F.ps) :
    Calls Tryz.prog 104 #[.agg (fc F (.slice A F.ps.length c)).toArray] w fun e w' => e = .returned (.bool (vface F)) ∧ Below w.heap.size w w' := by
  have hW := hide hF.len
  have hr := rangeAt_new w (fc F (.slice A F.ps.length c)) 28
  have hb0 : Below w.heap.size w (w.alloc (.cells (fc F (.slice A F.ps.length c)).toArray 28)) := (Below.refl _ _).alloc (Nat.le_refl _) _
  have hs0 : w.heap.size < (w.alloc (.cells (fc F (.slice A F.ps.length c)).toArray 28)).heap.size := by simp
  obtain ⟨sp1, sp2⟩ := hF.sp
  obtain ⟨gp1, gp2⟩ := hF.gp
  have hi26 : (Tryz.prog.info? 25).map (·.size) = some (wc F.W).length := by rw [wc_length, hW.out]; kernel_rfl
  have HI26 := hide hi26
  have hi29 : (Tryz.prog.info? 28).map (·.size) = some (fc F (.slice A F.ps.length c)).length := by rw [fc_length hW.out]; kernel_rfl
  have HI29 := hide hi29
  clear hi26 hi29
  generalize hS : vface F = S
  have HS := hide hS
  clear hS
  have x26 := rangeAt_cell hr (fc_sp hW.out _)
  have x27 := rangeAt_cell hr (fc_gp hW.out _)
  have VP := hide (validPairs_any F hF A c _ ((hA.below hb0).mono hb0.size))
  have rl := rangeAt_left hr
  clear hA
  go_enter Tryz.func104, Tryz.ntmps104
  go_wp2_with (first
    | (refine wpList_load_mid rfl 25 (.tmp 5) rfl _ 0 rfl (wc F.W) _ rl Tryz.underlying25 rfl HI26.out ?_))
  generalize (w.alloc (.cells (fc F (.slice A F.ps.length c)).toArray 28)) = W0 at *
  have hBs := hb0.size
  go_loop [7] (fun i => ∃ k : Nat, k ≤ 26 ∧ i = .int .i64 k ∧ Hid (∀ j, j < k → inB (F.W.getD j 0) 1 40 = true))
    (fun i => 26 - (intOf i).toNat)
  case atStart => exact ⟨0, by omega, rfl, fun j hj => by omega⟩
  case round =>
    obtain ⟨k, hk, rfl, hall⟩ := hrel
    by_cases hlt : k < 26
    · have hi : (k : Int) < 26 := by omega
      have h0 : (0 : Int) ≤ k := by omega
      have hix := run_index_agg (P := Tryz.prog) (t := 25) (k := k) (cs := (wc F.W).toArray) Tryz.underlying25 (fun _ => by kernel_rfl) (fun _ => by kernel_rfl) hlt (by rw [List.getElem?_toArray]; exact wc_get (by rw [hW.out]; exact hlt))
      obtain ⟨wk1, wk2⟩ := hF.at_ k
      simp only [List.getD_eq_getElem?_getD] at hix
      cases hv : inB (F.W.getD k 0) 1 40
      · have HV := hide hv
        simp only [List.getD_eq_getElem?_getD] at hv
        go_wp2_with (go_at_call 116; refine (between_any _ _ _ _).mono ?_; rintro e w' ⟨rfl, rfl⟩)
        go_ret
        refine ⟨ret_bool ?_, hb0⟩
        rw [← HS.out]
        have := not_wide (by rw [hW.out]; exact hlt) HV.out
        simp [vface, this]
      · have HV := hide hv
        simp only [List.getD_eq_getElem?_getD] at hv
        go_wp2_with (go_at_call 116; refine (between_any _ _ _ _).mono ?_; rintro e w' ⟨rfl, rfl⟩)
        exact ⟨⟨k + 1, by omega, by go_num, fun j hj => by
          by_cases e : j = k
          · subst e; exact HV.out
          · exact hall.out j (by omega)⟩, by simp [intOf]; omega⟩
    · obtain rfl : k = 26 := by omega
      have allW := hide (all_wide (W := F.W) (by rw [hW.out]; exact hall.out))
      have hv : vface F = (decide (F.ps.length ≤ 12) && shapeB F) := rfl
      have HF := hide hv
      clear hall hv
      cases hsp : inB F.sp 1 40
      · go_wp2_with (go_at_call 116; refine (between_any _ _ _ _).mono ?_; rintro e w' ⟨rfl, rfl⟩)
        go_ret
        refine ⟨ret_bool ?_, hb0⟩
        rw [← HS.out, HF.out, shapeB_false.2 (fun s => by have := s.sp; rw [hsp] at this; cases this)]
        simp
      · cases hgp : inB F.gp 0 10
        · go_wp2_with (go_at_call 116; refine (between_any _ _ _ _).mono ?_; rintro e w' ⟨rfl, rfl⟩)
          go_ret
          refine ⟨ret_bool ?_, hb0⟩
          rw [← HS.out, HF.out, shapeB_false.2 (fun s => by have := s.gp; rw [hgp] at this; cases this)]
          simp
        · have HSP := hide hsp
          have HGP := hide hgp
          go_wp2_with (first
            | (go_at_call 116; refine (between_any _ _ _ _).mono ?_; rintro e w' ⟨rfl, rfl⟩)
            | (refine wpList_load_mid_g rfl 28 (.tmp 1) rfl _ 0 rfl (fc F (.slice A F.ps.length c)) _ hr Tryz.underlying28 rfl HI29.out ?_)
            | (go_at_call 206; refine VP.out.mono ?_; rintro e w1 ⟨rfl, hb1⟩))
          go_ret
          refine ⟨ret_bool ?_, hb0.trans (hb1.mono hBs)⟩
          rw [← HS.out, HF.out, Bool.eq_iff_iff]
          simp only [Bool.and_eq_true, decide_eq_true_eq, shapeB_true]
          exact ⟨fun ⟨a, b⟩ => ⟨a, allW.out, HSP.out, HGP.out, b⟩, fun ⟨a, b⟩ => ⟨a, b.ps⟩⟩
end Go.Proofs.YtngondeaeipcfaaGreatDoor

namespace Go.Proofs.YtngondeaeipcfaaGreatDoor
open Go.RowKit

abbrev Tri := Int × Int × Int
theorem ahead_trans {p q r : Tri} (h : ahead p q = true) (h' : ahead q r = true) : ahead p r = true := by
  rw [ahead_true] at *; omega
theorem ahead_irrefl (p : Tri) : ahead p p = false := by
  cases h : ahead p p
  · rfl
  · rw [ahead_true] at h; omega
theorem ahead_asymm {p q : Tri} (h : ahead p q = true) : ahead q p = false := by
  cases h' : ahead q p
  · rfl
  · rw [ahead_true] at *; omega
def sortedP (ps : List Tri) : Prop := ∀ (i j : Nat) (p q : Tri), i < j → ps[i]? = some p → ps[j]? = some q → ahead p q = true
theorem sortedP_of_good {g : Int} {ps : List Tri} (h : goodTo g ps ps.length) : sortedP ps := by
  intro i j
  induction j with
  | zero => intro p q hij; omega
  | succ j ih =>
    intro p q hij hp hq
    have hj := (List.getElem?_eq_some_iff.1 hq).1
    obtain ⟨r, hr⟩ : ∃ r, ps[j]? = some r := ⟨ps[j]'(by omega), List.getElem?_eq_getElem _⟩
    have h1 := (h (j + 1) q hj hq).2 r (by omega) (by simpa using hr)
    by_cases e : i = j
    · subst e; rw [hr] at hp; injection hp with hp; subst hp; exact h1
    · exact ahead_trans (ih p r (by omega) hp hr) h1
/-- How many pairs come ahead of p. -/
def lb (ps : List Tri) (p : Tri) : Nat := (ps.takeWhile (ahead · p)).length
theorem lb_le (ps : List Tri) (p : Tri) : lb ps p ≤ ps.length := by
  unfold lb
  have h : (ps.takeWhile (ahead · p)).length ≤ ps.length := List.Sublist.length_le (List.takeWhile_sublist _)
  exact h
theorem lb_eq : ∀ {ps : List Tri} {p : Tri} {i : Nat}, i ≤ ps.length → (∀ k q, k < i → ps[k]? = some q → ahead q p = true) → (∀ q, ps[i]? = some q → ahead q p = false) → i = lb ps p
  | [], p, i, hi, _, _ => by simp [lb] at *; omega
  | q :: ps, p, 0, _, _, h => by
    have := h q rfl
    simp [lb, List.takeWhile_cons, this]
  | q :: ps, p, i + 1, hi, h1, h2 => by
    have h0 := h1 0 q (by omega) rfl
    have ih := lb_eq (ps := ps) (p := p) (i := i) (by simpa using hi) (fun k r hk hr => h1 (k + 1) r (by omega) (by simpa using hr)) (fun r hr => h2 r (by simpa using hr))
    have : lb (q :: ps) p = lb ps p + 1 := by simp [lb, List.takeWhile_cons, h0]
    omega
/-- Whether p's letters stand there. -/
def hit (ps : List Tri) (p : Tri) : Bool := match ps[lb ps p]? with
  | some q => cmpP q p == 0
  | none => false
theorem cmpP_zero {p q : Tri} : cmpP p q = 0 ↔ p.1 = q.1 ∧ p.2.1 = q.2.1 := by
  unfold cmpP cmpI
  (repeat' split) <;> omega
/-- By of a pair: of the first one with its letters, 0 if there is none. -/
def byL (ps : List Tri) (a b : Int) : Int := match ps.find? (fun p => p.1 == a && p.2.1 == b) with
  | some p => p.2.2
  | none => 0
theorem byL_cons (p : Tri) (ps : List Tri) (a b : Int) : byL (p :: ps) a b = if p.1 = a ∧ p.2.1 = b then p.2.2 else byL ps a b := by
  unfold byL
  rw [List.find?_cons]
  by_cases h : p.1 = a ∧ p.2.1 = b
  · simp [h]
  · rw [if_neg h]
    have : (p.1 == a && p.2.1 == b) = false := by
      cases h' : (p.1 == a && p.2.1 == b)
      · rfl
      · simp at h'; exact (h h').elim
    rw [this]
theorem byL_of_get {ps : List Tri} {a b : Int} {k : Nat} {p : Tri} (hk : ps[k]? = some p) (h1 : p.1 = a) (h2 : p.2.1 = b) (h : ∀ j q, j < k → ps[j]? = some q → ¬ (q.1 = a ∧ q.2.1 = b)) : byL ps a b = p.2.2 := by
  induction ps generalizing k with
  | nil => simp at hk
  | cons q ps ih =>
    rw [byL_cons]
    cases k with
    | zero => simp at hk; subst hk; rw [if_pos ⟨h1, h2⟩]
    | succ k =>
      rw [if_neg (h 0 q (by omega) rfl)]
      exact ih (by simpa using hk) (fun j r hj hr => h (j + 1) r (by omega) (by simpa using hr))
theorem byL_none {ps : List Tri} {a b : Int} (h : ∀ (j : Nat) (q : Tri), ps[j]? = some q → ¬ (q.1 = a ∧ q.2.1 = b)) : byL ps a b = 0 := by
  induction ps with
  | nil => rfl
  | cons q ps ih =>
    rw [byL_cons, if_neg (h 0 q rfl)]
    exact ih (fun j r hr => h (j + 1) r (by simpa using hr))
/-- In pairs that rise, the search finds just the pair with these letters. -/
theorem byL_hit {ps : List Tri} (hs : sortedP ps) (a b : Int) : (hit ps (a, b, 0) = true → ∃ q, ps[lb ps (a, b, 0)]? = some q ∧ byL ps a b = q.2.2) ∧ (hit ps (a, b, 0) = false → byL ps a b = 0) := by
  have hlow : ∀ k q, k < lb ps (a, b, 0) → ps[k]? = some q → ahead q (a, b, 0) = true := by
    intro k q hk hq
    unfold lb at hk
    have hmem : ∀ (l : List Tri) (f : Tri → Bool) (k : Nat) (q : Tri), k < (l.takeWhile f).length → l[k]? = some q → f q = true := by
      intro l f
      induction l with
      | nil => intro k q hk; simp at hk
      | cons x l ih =>
        intro k q hk hq
        rw [List.takeWhile_cons] at hk
        split at hk
        · cases k with
          | zero => simp at hq; subst hq; assumption
          | succ k => exact ih k q (by simpa using hk) (by simpa using hq)
        · simp at hk
    exact hmem ps (ahead · (a, b, 0)) k q hk hq
  have hne : ∀ k q, k < lb ps (a, b, 0) → ps[k]? = some q → ¬ (q.1 = a ∧ q.2.1 = b) := by
    intro k q hk hq ⟨h1, h2⟩
    have := hlow k q hk hq
    rw [ahead_true] at this
    simp only at this
    omega
  cases hg : ps[lb ps (a, b, 0)]? with
  | none =>
    have hh : hit ps (a, b, 0) = false := by simp [hit, hg]
    refine ⟨fun h => absurd h (by rw [hh]; decide), fun _ => byL_none fun j q hq => ?_⟩
    have := (List.getElem?_eq_some_iff.1 hq).1
    have := List.getElem?_eq_none_iff.1 hg
    exact hne j q (by omega) hq
  | some q =>
    have hh : hit ps (a, b, 0) = (cmpP q (a, b, 0) == 0) := by simp [hit, hg]
    refine ⟨fun h => ?_, fun h => ?_⟩
    · rw [hh] at h
      have hc := cmpP_zero.1 (by simpa using h)
      exact ⟨q, rfl, byL_of_get hg hc.1 hc.2 hne⟩
    · rw [hh] at h
      have hc : ¬ (q.1 = a ∧ q.2.1 = b) := fun e => by
        have := cmpP_zero (p := q) (q := (a, b, 0)) |>.2 e
        rw [this] at h; simp at h
      have hna : ahead q (a, b, 0) = false := by
        cases e : ahead q (a, b, 0)
        · rfl
        · exfalso
          have htw : ∀ (l : List Tri) (f : Tri → Bool) (q : Tri), l[(l.takeWhile f).length]? = some q → f q = false := by
            intro l f
            induction l with
            | nil => intro q hq; simp at hq
            | cons x l ih =>
              intro q hq
              rw [List.takeWhile_cons] at hq
              cases hx : f x
              · simp only [hx] at hq
                simp at hq; subst hq; exact hx
              · simp only [hx] at hq
                exact ih q (by simpa using hq)
          have := htw ps (ahead · (a, b, 0)) q hg
          rw [e] at this; cases this
      refine byL_none fun j r hr => ?_
      by_cases hj : j < lb ps (a, b, 0)
      · exact hne j r hj hr
      · by_cases ej : j = lb ps (a, b, 0)
        · rw [ej, hg] at hr; injection hr with hr; subst hr; exact hc
        · intro ⟨h1, h2⟩
          have hqr := hs _ _ q r (by omega) hg hr
          rw [ahead_true] at hqr
          have : ¬ (q.1 < a ∨ q.1 = a ∧ q.2.1 < b) := fun h => by rw [ahead_true.2 h] at hna; cases hna
          omega
theorem sorted_vface {F : Fc} (h : vface F = true) : sortedP F.ps := sortedP_of_good (vface_true.1 h).2.ps
end Go.Proofs.YtngondeaeipcfaaGreatDoor

namespace Go.Proofs.YtngondeaeipcfaaGreatDoor
open Go.RowKit

/-- How wide the letter at place i is. -/
def letW (F : Fc) (L : List UInt8) (i : Nat) : Int := F.W.getD (byteAt L i - 65).toNat 0
/-- The gap ahead of the letter at place i. -/
def gapL (F : Fc) (L : List UInt8) (i : Nat) : Int := if i = 0 then 0 else F.gp + byL F.ps (byteAt L (i - 1)) (byteAt L i)
def wideTo (F : Fc) (L : List UInt8) : Nat → Int
  | 0 => 0
  | k + 1 => wideTo F L k + letW F L k + gapL F L k
def wideL (F : Fc) (L : List UInt8) : Int := wideTo F L L.length
/-- All bytes are letters. -/
def allCap (L : List UInt8) : Prop := ∀ i, i < L.length → cap (byteAt L i) = true
theorem byL_in (ps : List Tri) (a b : Int) : byL ps a b = 0 ∨ ∃ (k : Nat) (p : Tri), ps[k]? = some p ∧ byL ps a b = p.2.2 := by
  unfold byL
  cases h : ps.find? (fun p => p.1 == a && p.2.1 == b) with
  | none => exact .inl rfl
  | some p =>
    obtain ⟨k, hk⟩ := List.getElem?_of_mem (List.mem_of_find?_eq_some h)
    exact .inr ⟨k, p, hk, rfl⟩
theorem byL_bd {F : Fc} (h : vface F = true) (a b : Int) : -10 ≤ byL F.ps a b ∧ byL F.ps a b ≤ 10 ∧ 0 ≤ F.gp + byL F.ps a b ∧ F.gp + byL F.ps a b ≤ 20 := by
  have hs := (vface_true.1 h).2
  have hg := shape_gap hs.gp
  rcases byL_in F.ps a b with e | ⟨k, p, hp, e⟩
  · rw [e]; omega
  · have hk := (List.getElem?_eq_some_iff.1 hp).1
    have hp1 := (hs.ps k p hk hp).1
    have h1 := inB_true.1 hp1.by_
    have h2 := hp1.sum
    rw [e]; omega
theorem capIdx {b : Int} (h : cap b = true) : (b - 65).toNat < 26 ∧ (((b - 65).toNat : Nat) : Int) = b - 65 := by
  have := cap_true.1 h; omega
theorem W_bd {F : Fc} (hF : F.ok) (h : vface F = true) {k : Nat} (hk : k < 26) : 1 ≤ F.W.getD k 0 ∧ F.W.getD k 0 ≤ 40 := by
  have hm : F.W.getD k 0 ∈ F.W := by
    have h26 := hF.len
    rw [List.getD_eq_getElem?_getD, List.getElem?_eq_getElem (by omega)]
    exact List.getElem_mem _
  exact inB_true.1 ((vface_true.1 h).2.W _ hm)
theorem letW_bd {F : Fc} (hF : F.ok) (h : vface F = true) {L : List UInt8} (hc : allCap L) {i : Nat} (hi : i < L.length) : 1 ≤ letW F L i ∧ letW F L i ≤ 40 :=
  W_bd hF h (capIdx (hc i hi)).1
theorem gapL_bd {F : Fc} (h : vface F = true) (L : List UInt8) (i : Nat) : 0 ≤ gapL F L i ∧ gapL F L i ≤ 20 := by
  unfold gapL
  split
  · omega
  · have := byL_bd h (byteAt L (i - 1)) (byteAt L i); omega
theorem wideTo_bd {F : Fc} (hF : F.ok) (h : vface F = true) {L : List UInt8} (hc : allCap L) : ∀ k, k ≤ L.length → (k : Int) ≤ wideTo F L k ∧ wideTo F L k ≤ 60 * k
  | 0, _ => by simp [wideTo]
  | k + 1, hk => by
    have ih := wideTo_bd hF h hc k (by omega)
    have h1 := letW_bd hF h hc (i := k) (by omega)
    have h2 := gapL_bd h L k
    simp only [wideTo]
    omega
end Go.Proofs.YtngondeaeipcfaaGreatDoor

namespace Go.Proofs.YtngondeaeipcfaaGreatDoor
open Go.RowKit

def hasBlank (L : List UInt8) : Bool := decide (0 ≤ Lib.indexByte L 32)
theorem byteAt_32 {L : List UInt8} {k : Nat} : L[k]? = some 32 ↔ k < L.length ∧ byteAt L k = 32 := by
  unfold byteAt
  by_cases h : k < L.length
  · rw [List.getD_eq_getElem?_getD, List.getElem?_eq_getElem h]
    simp only [Option.some.injEq, Option.getD_some, h, true_and]
    constructor
    · intro e; rw [e]; rfl
    · intro e
      apply UInt8.toNat_inj.1
      have : (L[k].toNat : Int) = 32 := e
      have h32 : (32 : UInt8).toNat = 32 := rfl
      omega
  · simp [h]
theorem hasBlank_true {L : List UInt8} : hasBlank L = true ↔ ∃ k, k < L.length ∧ byteAt L k = 32 := by
  unfold hasBlank
  have hge := Lib.indexByte_ge L 32
  constructor
  · intro h
    obtain ⟨n, hn⟩ : ∃ n : Nat, Lib.indexByte L 32 = n := ⟨(Lib.indexByte L 32).toNat, by have := of_decide_eq_true h; omega⟩
    exact ⟨n, byteAt_32.1 (Lib.indexByte_some hn).1⟩
  · rintro ⟨k, hk⟩
    apply decide_eq_true
    by_cases e : Lib.indexByte L 32 = -1
    · exact ((Lib.indexByte_none e k) (byteAt_32.2 hk)).elim
    · omega
noncomputable def vword (L : List UInt8) : Bool := @decide (0 < L.length ∧ L.length ≤ 60 ∧ allCap L) (Classical.propDecidable _)
theorem vword_true {L : List UInt8} : vword L = true ↔ 0 < L.length ∧ L.length ≤ 60 ∧ allCap L := by simp [vword]
theorem vword_false {L : List UInt8} : vword L = false ↔ ¬ (0 < L.length ∧ L.length ≤ 60 ∧ allCap L) := by simp [vword]
/-- The program's way to say it. -/
theorem vword_impl (L : List UInt8) : vword L = (decide (0 < L.length) && (!hasBlank L && vtext L)) := by
  rw [Bool.eq_iff_iff, vword_true]
  simp only [Bool.and_eq_true, decide_eq_true_eq, Bool.not_eq_true', vtext_true]
  constructor
  · rintro ⟨h1, h2, h3⟩
    refine ⟨h1, ?_, h2, fun i hi => .inr (h3 i hi)⟩
    cases e : hasBlank L
    · rfl
    · obtain ⟨k, hk, hb⟩ := hasBlank_true.1 e
      have := h3 k hk
      rw [cap_32 hb] at this; cases this
  · rintro ⟨h1, h2, h3, h4⟩
    refine ⟨h1, h3, fun i hi => ?_⟩
    rcases h4 i hi with ⟨hb, _⟩ | h
    · rw [hasBlank_true.2 ⟨i, hi, hb⟩] at h2; cases h2
    · exact h
/-- The model's way to say it. -/
noncomputable def capsB (L : List UInt8) : Bool := @decide (0 < L.length ∧ allCap L) (Classical.propDecidable _)
theorem capsB_true {L : List UInt8} : capsB L = true ↔ 0 < L.length ∧ allCap L := by simp [capsB]
theorem capsB_false {L : List UInt8} : capsB L = false ↔ ¬ (0 < L.length ∧ allCap L) := by simp [capsB]
theorem vword_spec (L : List UInt8) : vword L = (vtext L && capsB L) := by
  rw [Bool.eq_iff_iff, vword_true]
  simp only [Bool.and_eq_true, vtext_true, capsB_true]
  exact ⟨fun ⟨h1, h2, h3⟩ => ⟨⟨h2, fun i hi => .inr (h3 i hi)⟩, h1, h3⟩, fun ⟨⟨h2, _⟩, h1, h3⟩ => ⟨h1, h2, h3⟩⟩
end Go.Proofs.YtngondeaeipcfaaGreatDoor

namespace Go.Proofs.YtngondeaeipcfaaGreatDoor
open Go.RowKit

abbrev byts (x : ByteArray) : List UInt8 := x.data.toList
/-- The text of some words. -/
def J (xs : List (List UInt8)) : List UInt8 := Lib.join xs [32]
theorem J_nil : J [] = [] := rfl
theorem J_one (x : List UInt8) : J [x] = x := Lib.join_one x _
theorem J_cons (x y : List UInt8) (r : List (List UInt8)) : J (x :: y :: r) = x ++ 32 :: J (y :: r) := by
  unfold J
  rw [Lib.join_cons, Lib.join_cons]
  simp [Lib.joinTail]
theorem J_snoc : ∀ (xs : List (List UInt8)) (x : List UInt8), xs ≠ [] → J (xs ++ [x]) = J xs ++ 32 :: x
  | [], _, h => (h rfl).elim
  | [a], x, _ => by simp [J_cons, J_one]
  | a :: b :: r, x, _ => by
    have ih := J_snoc (b :: r) x (by simp)
    rw [List.cons_append, List.cons_append, J_cons, J_cons, ← List.cons_append, ih]
    simp
def sumL (xs : List (List UInt8)) : Nat := (xs.map (·.length)).sum
theorem J_len : ∀ (xs : List (List UInt8)), (J xs).length = sumL xs + (xs.length - 1)
  | [] => rfl
  | [a] => by simp [J_one, sumL]
  | a :: b :: r => by
    have ih := J_len (b :: r)
    rw [J_cons, List.length_append, List.length_cons, ih]
    simp [sumL]
    omega
theorem byteAt_app (A B : List UInt8) (i : Nat) : byteAt (A ++ B) i = if i < A.length then byteAt A i else byteAt B (i - A.length) := by
  unfold byteAt
  simp only [List.getD_eq_getElem?_getD, List.getElem?_append]
  split <;> rfl
theorem byteAt_cons (a : UInt8) (B : List UInt8) (i : Nat) : byteAt (a :: B) (i + 1) = byteAt B i := by
  unfold byteAt; simp
theorem good_word {L : List UInt8} (h : allCap L) : ∀ i, i < L.length → good L i := fun i hi => .inr (h i hi)
theorem good_join {A B : List UInt8} (hA : allCap A) (hA0 : 0 < A.length) (hB0 : 0 < B.length) (hB : ∀ i, i < B.length → good B i) : ∀ i, i < (A ++ 32 :: B).length → good (A ++ 32 :: B) i := by
  intro i hi
  have e : ∀ j, byteAt (A ++ 32 :: B) j = if j < A.length then byteAt A j else byteAt (32 :: B) (j - A.length) := fun j => byteAt_app _ _ _
  have h32 : byteAt (32 :: B) 0 = 32 := rfl
  have hl : (A ++ 32 :: B).length = A.length + B.length + 1 := by simp; omega
  by_cases h1 : i < A.length
  · exact .inr (by rw [e, if_pos h1]; exact hA i h1)
  · by_cases h2 : i = A.length
    · refine .inl ⟨by rw [e, if_neg h1, h2, Nat.sub_self, h32], by omega, by rw [hl]; omega, ?_⟩
      rw [e, if_pos (by omega)]
      intro h
      have := hA (i - 1) (by omega)
      rw [cap_32 h] at this; cases this
    · obtain ⟨j, hj⟩ : ∃ j, i - A.length = j + 1 := ⟨i - A.length - 1, by omega⟩
      have hjl : j < B.length := by omega
      have ei : byteAt (A ++ 32 :: B) i = byteAt B j := by rw [e, if_neg h1, hj, byteAt_cons]
      rcases hB j hjl with ⟨g1, g2, g3, g4⟩ | g
      · refine .inl ⟨by rw [ei]; exact g1, by omega, by rw [hl]; omega, ?_⟩
        have : i - 1 - A.length = (j - 1) + 1 := by omega
        rw [e, if_neg (by omega), this, byteAt_cons]
        exact g4
      · exact .inr (by rw [ei]; exact g)
/-- Each one is letters alone, and has one. -/
def wordsOk (xs : List (List UInt8)) : Prop := ∀ x ∈ xs, 0 < x.length ∧ allCap x
theorem good_J : ∀ (xs : List (List UInt8)), wordsOk xs → ∀ i, i < (J xs).length → good (J xs) i
  | [], _, i, hi => by simp [J_nil] at hi
  | [a], h, i, hi => by rw [J_one] at hi ⊢; exact good_word (h a (by simp)).2 i hi
  | a :: b :: r, h, i, hi => by
    have ih := good_J (b :: r) (fun x hx => h x (List.mem_cons_of_mem _ hx))
    rw [J_cons] at hi ⊢
    have hb := (h b (by simp)).1
    refine good_join (h a (by simp)).2 (h a (by simp)).1 ?_ ih i hi
    rw [J_len]; simp [sumL]; omega
theorem vtext_J {xs : List (List UInt8)} (h : wordsOk xs) : vtext (J xs) = true ↔ (J xs).length ≤ 60 := by
  rw [vtext_true]; exact ⟨fun h => h.1, fun hl => ⟨hl, good_J xs h⟩⟩
theorem sum_ge {xs : List (List UInt8)} (h : wordsOk xs) : xs.length ≤ sumL xs := by
  induction xs with
  | nil => simp
  | cons a r ih =>
    have h1 := (h a (by simp)).1
    have h2 := ih (fun x hx => h x (by simp [hx]))
    simp only [sumL, List.map_cons, List.sum_cons, List.length_cons] at *
    omega
/-- What JoinWords asks. -/
noncomputable def jwB (xs : List (List UInt8)) : Bool := @decide (wordsOk xs ∧ (J xs).length ≤ 60) (Classical.propDecidable _)
theorem jwB_true {xs : List (List UInt8)} : jwB xs = true ↔ wordsOk xs ∧ (J xs).length ≤ 60 := by simp [jwB]
theorem jwB_false {xs : List (List UInt8)} : jwB xs = false ↔ ¬ (wordsOk xs ∧ (J xs).length ≤ 60) := by simp [jwB]
noncomputable def jwV (xs : List (List UInt8)) : ByteArray := if jwB xs = true then ⟨(J xs).toArray⟩ else ⟨#[]⟩
noncomputable def jwC (xs : List (List UInt8)) : Int := if jwB xs = true then 0 else 1
theorem sumL_take (xs : List (List UInt8)) (k : Nat) (x : List UInt8) (h : xs[k]? = some x) : sumL (xs.take (k + 1)) = sumL (xs.take k) + x.length := by
  rw [List.take_add_one, h]; simp [sumL]
theorem sumL_le (xs : List (List UInt8)) (k : Nat) : sumL (xs.take k) ≤ sumL xs := by
  have h : sumL xs = sumL (xs.take k) + sumL (xs.drop k) := by
    have := congrArg sumL (List.take_append_drop k xs).symm
    rw [this]; simp only [sumL, List.map_append, List.sum_append]
  omega
end Go.Proofs.YtngondeaeipcfaaGreatDoor

namespace Go.Proofs.YtngondeaeipcfaaGreatDoor
open Go Go.RowKit

def glue (cur : List UInt8) : List (List UInt8) → List (List UInt8)
  | [] => [cur]
  | h :: t => (cur ++ h) :: t
theorem glue_nil {S : List (List UInt8)} (h : S ≠ []) : glue [] S = S := by
  cases S with
  | nil => exact (h rfl).elim
  | cons a t => rfl
theorem glue_glue (a b : List UInt8) (S : List (List UInt8)) : glue a (glue b S) = glue (a ++ b) S := by
  cases S <;> simp [glue]
theorem glue_ne (a : List UInt8) (S : List (List UInt8)) : glue a S ≠ [] := by cases S <;> simp [glue]
/-- The pieces between blanks. -/
def splitL : List UInt8 → List (List UInt8)
  | [] => [[]]
  | c :: cs => if c = 32 then [] :: splitL cs else glue [c] (splitL cs)
theorem splitL_ne : ∀ L, splitL L ≠ []
  | [] => by simp [splitL]
  | c :: cs => by unfold splitL; split <;> simp [glue_ne]
def wordsL (L : List UInt8) : List (List UInt8) := if L = [] then [] else splitL L
/-- What the program cuts. -/
def itN : Nat → List UInt8 → List (List UInt8)
  | 0, _ => []
  | n + 1, L => if L = [] then [] else (Lib.cut L [32]).1 :: itN n (Lib.cut L [32]).2.1
def itW (L : List UInt8) : List (List UInt8) := itN L.length L

theorem cut_nil : Lib.cut [] [32] = ([], [], false) := by
  unfold Lib.cut; rw [Lib.index_one]; simp [Lib.indexByte]
theorem cut_32 (cs : List UInt8) : Lib.cut (32 :: cs) [32] = ([], cs, true) := by
  unfold Lib.cut; rw [Lib.index_one]; simp [Lib.indexByte]
theorem cut_cons {c : UInt8} (cs : List UInt8) (h : c ≠ 32) : Lib.cut (c :: cs) [32] = (c :: (Lib.cut cs [32]).1, (Lib.cut cs [32]).2.1, (Lib.cut cs [32]).2.2) := by
  have hge := Lib.indexByte_ge cs 32
  unfold Lib.cut
  rw [Lib.index_one, Lib.index_one]
  have e : Lib.indexByte (c :: cs) 32 = if Lib.indexByte cs 32 = -1 then -1 else Lib.indexByte cs 32 + 1 := by
    simp [Lib.indexByte, h]
  rw [e]
  by_cases h1 : Lib.indexByte cs 32 = -1
  · rw [if_pos h1, h1]; simp
  · rw [if_neg h1, if_pos (by omega), if_pos (by omega)]
    obtain ⟨k, hk⟩ : ∃ k : Nat, Lib.indexByte cs 32 = k := ⟨(Lib.indexByte cs 32).toNat, by omega⟩
    have ek : ((k : Int) + 1).toNat = k + 1 := by omega
    rw [hk, ek]
    simp [Nat.add_right_comm]
theorem cut_rest_nil : ∀ {L : List UInt8}, (Lib.cut L [32]).2.2 = false → (Lib.cut L [32]).2.1 = [] ∧ (Lib.cut L [32]).1 = L
  | [], _ => by rw [cut_nil]; exact ⟨rfl, rfl⟩
  | c :: cs, h => by
    by_cases hc : c = 32
    · subst hc; rw [cut_32] at h; cases h
    · rw [cut_cons cs hc] at h ⊢
      have ih := cut_rest_nil (L := cs) h
      exact ⟨ih.1, by rw [ih.2]⟩
theorem cut_len : ∀ {L : List UInt8}, L ≠ [] → (Lib.cut L [32]).2.1.length < L.length
  | [], h => (h rfl).elim
  | c :: cs, _ => by
    by_cases hc : c = 32
    · subst hc; rw [cut_32]; simp
    · rw [cut_cons cs hc]
      by_cases hn : cs = []
      · subst hn; rw [cut_nil]; simp
      · have := cut_len hn
        simp only [List.length_cons]; omega
theorem cut_len1 (L : List UInt8) : (Lib.cut L [32]).1.length ≤ L.length := by
  unfold Lib.cut; split <;> simp; omega
theorem split_cut : ∀ L : List UInt8, splitL L = if (Lib.cut L [32]).2.2 = true then (Lib.cut L [32]).1 :: splitL (Lib.cut L [32]).2.1 else [(Lib.cut L [32]).1]
  | [] => by rw [cut_nil]; rfl
  | c :: cs => by
    by_cases hc : c = 32
    · subst hc; rw [cut_32]; simp [splitL]
    · rw [cut_cons cs hc]
      have ih := split_cut cs
      have e : splitL (c :: cs) = glue [c] (splitL cs) := by
        show (if c = 32 then _ else _) = _
        rw [if_neg hc]
      rw [e, ih]
      dsimp only
      split <;> simp [glue]
theorem cut_last : ∀ {L : List UInt8}, (Lib.cut L [32]).2.2 = true → L.getLast? ≠ some 32 → (Lib.cut L [32]).2.1 ≠ [] ∧ (Lib.cut L [32]).2.1.getLast? ≠ some 32
  | [], h, _ => by rw [cut_nil] at h; cases h
  | c :: cs, h, hl => by
    have hcs : cs ≠ [] → cs.getLast? ≠ some 32 := fun hn => by
      cases cs with
      | nil => exact (hn rfl).elim
      | cons a t => rwa [List.getLast?_cons_cons] at hl
    by_cases hc : c = 32
    · subst hc; rw [cut_32]
      have hn : cs ≠ [] := by intro e; subst e; exact hl rfl
      exact ⟨hn, hcs hn⟩
    · rw [cut_cons cs hc] at h ⊢
      have hn : cs ≠ [] := by intro e; subst e; rw [cut_nil] at h; cases h
      exact cut_last (L := cs) h (hcs hn)
theorem splitL_32 (cs : List UInt8) : splitL (32 :: cs) = [] :: splitL cs := by simp [splitL]
theorem splitL_other {c : UInt8} (cs : List UInt8) (hc : c ≠ 32) : splitL (c :: cs) = glue [c] (splitL cs) := by
  show (if c = 32 then _ else _) = _
  rw [if_neg hc]
theorem itN_split : ∀ (n : Nat) (L : List UInt8), L.length ≤ n → L ≠ [] → L.getLast? ≠ some 32 → itN n L = splitL L
  | 0, L, h, hn, _ => (hn (List.length_eq_zero_iff.1 (by omega))).elim
  | n + 1, L, h, hn, hl => by
    unfold itN
    rw [if_neg hn, split_cut L]
    have hlen := cut_len hn
    by_cases hf : (Lib.cut L [32]).2.2 = true
    · rw [if_pos hf]
      have := cut_last hf hl
      rw [itN_split n _ (by omega) this.1 this.2]
    · have hr := cut_rest_nil (L := L) (by simpa using hf)
      rw [if_neg hf, hr.1]
      cases n <;> simp [itN]
theorem itN_fuel : ∀ (n m : Nat) (L : List UInt8), L.length ≤ n → L.length ≤ m → itN n L = itN m L
  | 0, m, L, h, _ => by
    obtain rfl : L = [] := List.length_eq_zero_iff.1 (by omega)
    cases m <;> simp [itN]
  | n + 1, 0, L, _, h => by
    obtain rfl : L = [] := List.length_eq_zero_iff.1 (by omega)
    simp [itN]
  | n + 1, m + 1, L, h1, h2 => by
    unfold itN
    by_cases hn : L = []
    · rw [if_pos hn, if_pos hn]
    · have := cut_len hn
      rw [if_neg hn, if_neg hn, itN_fuel n m _ (by omega) (by omega)]
theorem itW_nil : itW [] = [] := rfl
theorem itW_step {L : List UInt8} (hn : L ≠ []) : itW L = (Lib.cut L [32]).1 :: itW (Lib.cut L [32]).2.1 := by
  have := cut_len hn
  unfold itW
  obtain ⟨k, hk⟩ : ∃ k, L.length = k + 1 := ⟨L.length - 1, by omega⟩
  rw [hk]
  show (if L = [] then [] else _) = _
  rw [if_neg hn, itN_fuel k _ _ (by omega) (Nat.le_refl _)]
theorem itW_len : ∀ (n : Nat) (L : List UInt8), L.length ≤ n → (itW L).length ≤ L.length
  | 0, L, h => by obtain rfl : L = [] := List.length_eq_zero_iff.1 (by omega); simp [itW_nil]
  | n + 1, L, h => by
    by_cases hn : L = []
    · subst hn; simp [itW_nil]
    · have hl := cut_len hn
      have := itW_len n (Lib.cut L [32]).2.1 (by omega)
      rw [itW_step hn]; simp only [List.length_cons]; omega
theorem itW_words {L : List UInt8} (h : vtext L = true) : itW L = wordsL L := by
  unfold wordsL
  by_cases hn : L = []
  · subst hn; simp [itW_nil]
  · rw [if_neg hn]
    refine itN_split _ _ (Nat.le_refl _) hn ?_
    intro hl
    have hlen : 0 < L.length := List.length_pos_iff.2 hn
    obtain ⟨_, hg⟩ := vtext_true.1 h
    have hg' := hg (L.length - 1) (by omega)
    rw [List.getLast?_eq_getElem?] at hl
    have hb : byteAt L (L.length - 1) = 32 := by unfold byteAt; rw [List.getD_eq_getElem?_getD, hl]; rfl
    unfold good at hg'
    rw [hb] at hg'
    have h32 : cap 32 = false := cap_32 rfl
    rcases hg' with hh | hh
    · omega
    · rw [h32] at hh; cases hh
end Go.Proofs.YtngondeaeipcfaaGreatDoor

namespace Go.Proofs.YtngondeaeipcfaaGreatDoor
open Go Go.RowKit

theorem splitL_mem : ∀ (L x : List UInt8), x ∈ splitL L → x.length ≤ L.length ∧ ∀ b ∈ x, b ∈ L ∧ b ≠ 32
  | [], x, h => by
    simp [splitL] at h; subst h; simp
  | c :: cs, x, h => by
    by_cases hc : c = 32
    · subst hc
      rw [splitL_32] at h
      rcases List.mem_cons.1 h with rfl | h
      · simp
      · obtain ⟨h1, h2⟩ := splitL_mem cs x h
        exact ⟨by simp only [List.length_cons]; omega, fun b hb => ⟨List.mem_cons_of_mem _ (h2 b hb).1, (h2 b hb).2⟩⟩
    · rw [splitL_other _ hc] at h
      have hne := splitL_ne cs
      cases hS : splitL cs with
      | nil => exact (hne hS).elim
      | cons a t =>
        rw [hS] at h
        rcases List.mem_cons.1 (show x ∈ ([c] ++ a) :: t from h) with rfl | h
        · obtain ⟨h1, h2⟩ := splitL_mem cs a (by rw [hS]; exact List.mem_cons_self)
          refine ⟨by simp; omega, fun b hb => ?_⟩
          rcases List.mem_cons.1 (show b ∈ c :: a from hb) with rfl | hb
          · exact ⟨List.mem_cons_self, hc⟩
          · exact ⟨List.mem_cons_of_mem _ (h2 b hb).1, (h2 b hb).2⟩
        · obtain ⟨h1, h2⟩ := splitL_mem cs x (by rw [hS]; exact List.mem_cons_of_mem _ h)
          exact ⟨by simp only [List.length_cons]; omega, fun b hb => ⟨List.mem_cons_of_mem _ (h2 b hb).1, (h2 b hb).2⟩⟩
theorem words_mem {L x : List UInt8} (h : vtext L = true) (hx : x ∈ wordsL L) : x.length ≤ 60 ∧ allCap x := by
  obtain ⟨hlen, hg⟩ := vtext_true.1 h
  unfold wordsL at hx
  split at hx
  · simp at hx
  · obtain ⟨h1, h2⟩ := splitL_mem L x hx
    refine ⟨by omega, fun i hi => ?_⟩
    have hb : byteAt x i = ((x[i]).toNat : Int) := by unfold byteAt; rw [List.getD_eq_getElem?_getD, List.getElem?_eq_getElem hi]; rfl
    obtain ⟨h3, h4⟩ := h2 x[i] (List.getElem_mem hi)
    obtain ⟨j, hj, he⟩ := List.getElem_of_mem h3
    have hb2 : byteAt L j = byteAt x i := by rw [hb, ← he]; unfold byteAt; rw [List.getD_eq_getElem?_getD, List.getElem?_eq_getElem hj]; rfl
    rcases hg j hj with ⟨h5, _⟩ | h5
    · exfalso
      rw [hb2, hb] at h5
      exact h4 (UInt8.toNat_inj.1 (by have : (x[i]).toNat = 32 := by omega
                                      rw [this]; rfl))
    · rw [← hb2]; exact h5
theorem words_len {L : List UInt8} (h : vtext L = true) : (wordsL L).length ≤ 61 := by
  have h1 := (vtext_true.1 h).1
  unfold wordsL
  split
  · simp
  · have : ∀ L : List UInt8, (splitL L).length ≤ L.length + 1 := fun L => by
      induction L with
      | nil => simp [splitL]
      | cons c cs ih =>
        by_cases hc : c = 32
        · subst hc; rw [splitL_32]; simp only [List.length_cons]; omega
        · rw [splitL_other _ hc]
          have hne := splitL_ne cs
          cases h : splitL cs with
          | nil => exact (hne h).elim
          | cons a t => rw [h] at ih; simp only [glue, List.length_cons] at *; omega
    have := this L; omega

/-- The sum of the words' widths, and a line's width. -/
def lineTo (F : Fc) (ws : List (List UInt8)) : Nat → Int
  | 0 => 0
  | k + 1 => lineTo F ws k + wideL F (ws.getD k []) + (if k = 0 then 0 else F.sp)
def lineL (F : Fc) (ws : List (List UInt8)) : Int := lineTo F ws ws.length
theorem wideL_bd {F : Fc} (hF : F.ok) (h : vface F = true) {L : List UInt8} (hc : allCap L) (hl : L.length ≤ 60) : 0 ≤ wideL F L ∧ wideL F L ≤ 3600 := by
  have := wideTo_bd hF h hc L.length (Nat.le_refl _)
  unfold wideL; omega
theorem sp_bd {F : Fc} (h : vface F = true) : 1 ≤ F.sp ∧ F.sp ≤ 40 := inB_true.1 (vface_true.1 h).2.sp
theorem getD_mem {ws : List (List UInt8)} {k : Nat} (hk : k < ws.length) : ws.getD k [] ∈ ws := by
  rw [List.getD_eq_getElem?_getD, List.getElem?_eq_getElem hk]; exact List.getElem_mem hk
theorem lineTo_bd {F : Fc} (hF : F.ok) (h : vface F = true) {ws : List (List UInt8)} (hw : ∀ x ∈ ws, x.length ≤ 60 ∧ allCap x) : ∀ k, k ≤ ws.length → 0 ≤ lineTo F ws k ∧ lineTo F ws k ≤ 3640 * k
  | 0, _ => by simp [lineTo]
  | k + 1, hk => by
    have ih := lineTo_bd hF h hw k (by omega)
    obtain ⟨h1, h2⟩ := hw _ (getD_mem (ws := ws) (k := k) (by omega))
    have h3 := wideL_bd hF h h2 h1
    have h4 := sp_bd h
    simp only [lineTo]
    split <;> omega
end Go.Proofs.YtngondeaeipcfaaGreatDoor

namespace Go.Proofs.YtngondeaeipcfaaGreatDoor
open Go Go.RowKit

/-- Where word k begins, if all words stand on one line. -/
def preL (F : Fc) (ws : List (List UInt8)) : Nat → Int
  | 0 => 0
  | k + 1 => preL F ws k + wideL F (ws.getD k []) + F.sp
/-- The words from a to b. -/
def seg (ws : List (List UInt8)) (a b : Nat) : List (List UInt8) := (ws.take b).drop a
theorem seg_len (ws : List (List UInt8)) {a b : Nat} (hb : b ≤ ws.length) : (seg ws a b).length = b - a := by
  unfold seg; rw [List.length_drop, List.length_take]; omega
theorem seg_nil (ws : List (List UInt8)) {a b : Nat} (h : b ≤ a) : seg ws a b = [] := by
  unfold seg; apply List.drop_eq_nil_of_le; rw [List.length_take]; omega
theorem seg_snoc (ws : List (List UInt8)) {a b : Nat} (h : a ≤ b) (hb : b < ws.length) : seg ws a (b + 1) = seg ws a b ++ [ws.getD b []] := by
  unfold seg
  have e : ws.getD b [] = ws[b] := by rw [List.getD_eq_getElem?_getD, List.getElem?_eq_getElem hb]; rfl
  rw [List.take_succ_eq_append_getElem hb, List.drop_append_of_le_length (by rw [List.length_take]; omega), e]
theorem seg_mem {ws : List (List UInt8)} {a b : Nat} {x : List UInt8} (h : x ∈ seg ws a b) : x ∈ ws := List.mem_of_mem_take (List.mem_of_mem_drop h)
theorem seg_all (ws : List (List UInt8)) : seg ws 0 ws.length = ws := by unfold seg; simp
theorem lineTo_app (F : Fc) (xs ys : List (List UInt8)) : ∀ k, k ≤ xs.length → lineTo F (xs ++ ys) k = lineTo F xs k
  | 0, _ => rfl
  | k + 1, h => by
    have ih := lineTo_app F xs ys k (by omega)
    have e : (xs ++ ys).getD k [] = xs.getD k [] := by simp only [List.getD_eq_getElem?_getD]; rw [List.getElem?_append_left (by omega)]
    simp only [lineTo, ih, e]
theorem lineL_snoc (F : Fc) (xs : List (List UInt8)) (x : List UInt8) : lineL F (xs ++ [x]) = lineL F xs + wideL F x + (if xs.length = 0 then 0 else F.sp) := by
  have e : (xs ++ [x]).getD xs.length [] = x := by simp [List.getD_eq_getElem?_getD]
  unfold lineL
  rw [List.length_append, List.length_singleton]
  simp only [lineTo]
  rw [lineTo_app F xs [x] _ (Nat.le_refl _), e]
theorem lineL_one (F : Fc) (x : List UInt8) : lineL F [x] = wideL F x := by simp [lineL, lineTo]
theorem lineL_nil (F : Fc) : lineL F [] = 0 := rfl
theorem line_seg (F : Fc) (ws : List (List UInt8)) (a : Nat) : ∀ d, a + d + 1 ≤ ws.length → lineL F (seg ws a (a + d + 1)) = preL F ws (a + d + 1) - preL F ws a - F.sp
  | 0, h => by
    rw [seg_snoc ws (Nat.le_refl a) (by omega), seg_nil ws (Nat.le_refl a), List.nil_append, lineL_one]
    simp only [Nat.add_zero, preL]; omega
  | d + 1, h => by
    have ih := line_seg F ws a d (by omega)
    have e : a + (d + 1) + 1 = (a + d + 1) + 1 := by omega
    rw [e, seg_snoc ws (by omega) (by omega), lineL_snoc, ih, seg_len ws (by omega), if_neg (by omega)]
    simp only [preL]; omega
/-- The line of the words from a to b, by where they begin. -/
theorem lineL_seg (F : Fc) (ws : List (List UInt8)) {a b : Nat} (h : a < b) (hb : b ≤ ws.length) : lineL F (seg ws a b) = preL F ws b - preL F ws a - F.sp := by
  have := line_seg F ws a (b - a - 1) (by omega)
  rwa [show a + (b - a - 1) + 1 = b by omega] at this
theorem lineL_seg_le (F : Fc) (ws : List (List UInt8)) {a b : Nat} (h : b ≤ a) : lineL F (seg ws a b) = 0 := by rw [seg_nil ws h]; rfl
theorem preL_bd {F : Fc} (hF : F.ok) (h : vface F = true) {ws : List (List UInt8)} (hw : ∀ x ∈ ws, x.length ≤ 60 ∧ allCap x) : ∀ k, k ≤ ws.length → 0 ≤ preL F ws k ∧ preL F ws k ≤ 3640 * k
  | 0, _ => by simp [preL]
  | k + 1, hk => by
    have ih := preL_bd hF h hw k (by omega)
    obtain ⟨h1, h2⟩ := hw _ (getD_mem (ws := ws) (k := k) (by omega))
    have h3 := wideL_bd hF h h2 h1
    have h4 := sp_bd h
    simp only [preL]
    omega
theorem lineL_bd {F : Fc} (hF : F.ok) (h : vface F = true) {ws : List (List UInt8)} (hw : ∀ x ∈ ws, x.length ≤ 60 ∧ allCap x) (hn : ws.length ≤ 61) : 0 ≤ lineL F ws ∧ lineL F ws ≤ 222040 := by
  have := lineTo_bd hF h hw ws.length (Nat.le_refl _)
  unfold lineL; omega
/-- What is left of a width beside the words from a to b. -/
def roomL (F : Fc) (ws : List (List UInt8)) (wide : Int) (a b : Nat) : Int := wide - lineL F (seg ws a b)
theorem roomL_bd {F : Fc} (hF : F.ok) (h : vface F = true) {ws : List (List UInt8)} (hw : ∀ x ∈ ws, x.length ≤ 60 ∧ allCap x) (hn : ws.length ≤ 61) {wide : Int} (h0 : 0 ≤ wide) (h1 : wide ≤ 4000) (a : Nat) {b : Nat} (hb : b ≤ ws.length) : -222040 ≤ roomL F ws wide a b ∧ roomL F ws wide a b ≤ 4000 := by
  have := lineL_bd hF h (ws := seg ws a b) (fun x hx => hw x (seg_mem hx)) (by rw [seg_len ws hb]; omega)
  unfold roomL; omega

/-! Breaks -/
/-- Breaks of n words, as told. -/
def toldP (n : Nat) (bs : List Int) : Prop := ∀ i, i < bs.length → 1 ≤ bs.getD i 0 ∧ bs.getD i 0 ≤ (n : Int) - 1 ∧ (0 < i → bs.getD (i - 1) 0 < bs.getD i 0)
noncomputable def told (n : Nat) (bs : List Int) : Bool := @decide (toldP n bs) (Classical.propDecidable _)
theorem told_true {n : Nat} {bs : List Int} : told n bs = true ↔ toldP n bs := by simp [told]
theorem told_false {n : Nat} {bs : List Int} : told n bs = false ↔ ¬ toldP n bs := by simp [told]
/-- Where line i begins, and where it ends. -/
def stL (bs : List Int) (i : Nat) : Nat := if i = 0 then 0 else (bs.getD (i - 1) 0).toNat
def enL (n : Nat) (bs : List Int) (i : Nat) : Nat := if i < bs.length then (bs.getD i 0).toNat else n
theorem told_ends {n : Nat} {bs : List Int} (h : toldP n bs) : ∀ i, i ≤ bs.length → stL bs i ≤ enL n bs i ∧ enL n bs i ≤ n ∧ (0 < n → stL bs i < enL n bs i) := by
  intro i hi
  unfold stL enL
  by_cases h0 : i = 0
  · subst h0
    by_cases hb : 0 < bs.length
    · have := h 0 hb; rw [if_pos rfl, if_pos hb]; omega
    · rw [if_pos rfl, if_neg hb]; omega
  · have h1 := h (i - 1) (by omega)
    rw [if_neg h0]
    by_cases hb : i < bs.length
    · have h2 := h i hb; rw [if_pos hb]; omega
    · rw [if_neg hb]; omega
theorem st_succ (n : Nat) (bs : List Int) {i : Nat} (h : i < bs.length) : stL bs (i + 1) = enL n bs i := by
  unfold stL enL; rw [if_neg (by omega), if_pos h]; rfl
/-- What is left in line i. -/
def roomAt (F : Fc) (ws : List (List UInt8)) (wide : Int) (bs : List Int) (i : Nat) : Int := roomL F ws wide (stL bs i) (enL ws.length bs i)
def roomsL (F : Fc) (ws : List (List UInt8)) (wide : Int) (bs : List Int) : List Int := (List.range (bs.length + 1)).map (roomAt F ws wide bs)
theorem roomsL_len (F : Fc) (ws : List (List UInt8)) (wide : Int) (bs : List Int) : (roomsL F ws wide bs).length = bs.length + 1 := by simp [roomsL]
theorem roomsL_get (F : Fc) (ws : List (List UInt8)) (wide : Int) (bs : List Int) {i : Nat} (h : i < bs.length + 1) : (roomsL F ws wide bs)[i]? = some (roomAt F ws wide bs i) := by
  simp [roomsL, List.getElem?_range h]
def rightP (F : Fc) (ws : List (List UInt8)) (wide : Int) (bs : List Int) : Prop := ∀ i, i ≤ bs.length → 0 ≤ roomAt F ws wide bs i
noncomputable def rightB (F : Fc) (ws : List (List UInt8)) (wide : Int) (bs : List Int) : Bool := @decide (toldP ws.length bs ∧ rightP F ws wide bs) (Classical.propDecidable _)
theorem rightB_true {F : Fc} {ws : List (List UInt8)} {wide : Int} {bs : List Int} : rightB F ws wide bs = true ↔ toldP ws.length bs ∧ rightP F ws wide bs := by simp [rightB]
theorem rightB_false {F : Fc} {ws : List (List UInt8)} {wide : Int} {bs : List Int} : rightB F ws wide bs = false ↔ ¬ (toldP ws.length bs ∧ rightP F ws wide bs) := by simp [rightB]
def sqSum : List Int → Int
  | [] => 0
  | x :: r => x * x + sqSum r
theorem sqSum_snoc : ∀ (xs : List Int) (x : Int), sqSum (xs ++ [x]) = sqSum xs + x * x
  | [], x => by simp [sqSum]
  | y :: r, x => by have := sqSum_snoc r x; simp only [List.cons_append, sqSum, this]; omega
/-- The unevenness: the last line counts nothing. -/
def unevL (F : Fc) (ws : List (List UInt8)) (wide : Int) (bs : List Int) : Int := sqSum ((roomsL F ws wide bs).take bs.length)

/-! Greedy breaks -/
def gTo (F : Fc) (ws : List (List UInt8)) (wide : Int) : Nat → Nat × List Int
  | 0 => (0, [])
  | k + 1 => if (gTo F ws wide k).1 < k ∧ wide < lineL F (seg ws (gTo F ws wide k).1 (k + 1)) then (k, (gTo F ws wide k).2 ++ [(k : Int)]) else gTo F ws wide k
theorem gTo_bd (F : Fc) (ws : List (List UInt8)) (wide : Int) : ∀ k, (gTo F ws wide k).1 ≤ k - 1 ∧ (gTo F ws wide k).2.length ≤ k
  | 0 => by simp [gTo]
  | k + 1 => by
    have ih := gTo_bd F ws wide k
    unfold gTo
    split
    · simp; omega
    · omega
def greedyL (F : Fc) (ws : List (List UInt8)) (wide : Int) : List Int := (gTo F ws wide ws.length).2
theorem gTo_one (F : Fc) (ws : List (List UInt8)) (wide : Int) : gTo F ws wide 1 = (0, []) := by
  simp [gTo]
/-- No word is wider than the width. -/
def fitP (F : Fc) (ws : List (List UInt8)) (wide : Int) : Prop := ∀ k, k < ws.length → wideL F (ws.getD k []) ≤ wide
noncomputable def fitB (F : Fc) (ws : List (List UInt8)) (wide : Int) : Bool := @decide (fitP F ws wide) (Classical.propDecidable _)
theorem fitB_true {F : Fc} {ws : List (List UInt8)} {wide : Int} : fitB F ws wide = true ↔ fitP F ws wide := by simp [fitB]
theorem fitB_false {F : Fc} {ws : List (List UInt8)} {wide : Int} : fitB F ws wide = false ↔ ¬ fitP F ws wide := by simp [fitB]
end Go.Proofs.YtngondeaeipcfaaGreatDoor
