/- The program's ValidSystem. -/
import Derived.Test.YtgklhdacnklhdaaSysW
namespace Go.Proofs.Ytgklhdacnklhdaa
open Go.RowKit

/-- What a value has to be less than. -/
def befL (sg : List Dub) : Nat → Int
  | 0 => 5001
  | k + 1 => (sg.getD k (0, 0)).2
theorem befL_next {sg : List Dub} {k : Nat} {p : Dub} (h : sg[k]? = some p) : befL sg (k + 1) = p.2 := by
  show (sg.getD k (0, 0)).2 = p.2
  rw [List.getD_eq_getElem?_getD, h]; rfl
noncomputable def vsgB (S : Sy) : Bool := @decide (vsg S.sg ∧ apart S.sg S.sg.length) (Classical.propDecidable _)
theorem vsgB_true {S : Sy} : vsgB S = true ↔ vsg S.sg ∧ apart S.sg S.sg.length := by simp [vsgB]
theorem vsgB_false {S : Sy} : vsgB S = false ↔ ¬ (vsg S.sg ∧ apart S.sg S.sg.length) := by simp [vsgB]

set_option maxRecDepth 100000 in
set_option maxHeartbeats 8000000 in
theorem validSigns_any (S : Sy) (hS : S.ok) (A D : Option Addr) (c d : Nat) (w : World) (hA : SyAt w w.heap.size A D S) :
    Calls Try.prog 101 #[sv S A D c d] w fun e w' => e = .returned (.bool (vsgB S)) ∧ Below w.heap.size w w' := by
  have HT := hide (fun h : vsg S.sg ∧ apart S.sg S.sg.length => vsgB_true.2 h)
  have HF := hide (fun h : ¬ (vsg S.sg ∧ apart S.sg S.sg.length) => vsgB_false.2 h)
  generalize vsgB S = V at *
  have hn := hS.n
  unfold maxLen at hn
  have b0 : Below w.heap.size w (w.alloc (.cells #[.slice A S.sg.length c, .slice D S.mn.length d] 69)) := (Below.refl _ _).alloc (Nat.le_refl _) _
  have r0 : (w.alloc (.cells #[.slice A S.sg.length c, .slice D S.mn.length d] 69)).rangeAt w.heap.size 0 [.slice A S.sg.length c, .slice D S.mn.length d] := rangeAt_new w [.slice A S.sg.length c, .slice D S.mn.length d] _
  have s0 : w.heap.size < (w.alloc (.cells #[.slice A S.sg.length c, .slice D S.mn.length d] 69)).heap.size := by simp
  have HVM := hide (fun (W : World) (hB : Below w.heap.size w W) => values_any S hS A D c d W ((hA.below hB).mono hB.size))
  have HS := hide hS
  clear hS
  cases hi : inB S.sg.length 1 8
  · have HI := hide hi
    go_enter Try.func101, Try.ntmps101
    go_wp2_with (go_at_call 121; refine (between_any _ _ _ _).mono ?_; rintro e w' ⟨rfl, rfl⟩; rw [HI.out])
    go_ret
    exact ⟨ret_bool (HF.out (fun h => by have := inB_false.1 HI.out; have := h.1.n1; have := h.1.n8; omega)).symm, b0⟩
  have HI := hide hi
  have hn8 := inB_true.1 hi
  clear hi
  obtain ⟨bs, os, rfl, hbs, hps⟩ := hA.1 (by intro e; rw [e] at hn8; simp at hn8)
  obtain ⟨p, hp⟩ : ∃ p, S.sg[S.sg.length - 1]? = some p := ⟨S.sg[S.sg.length - 1]'(by omega), List.getElem?_eq_getElem _⟩
  have hcell := rangeAt_below (hps _ _ hp) b0 hbs
  obtain ⟨y, z⟩ := p
  have c1 := hcell 1 _ rfl
  have x0 := rangeAt_cell r0 (k := 0) rfl
  have hi1 : (0 : Int) ≤ (S.sg.length : Int) - 1 := by omega
  have hw1 : IntKind.i64.wrap ((S.sg.length : Int) - 1) = (S.sg.length : Int) - 1 := IntWalk.i64_in _ ⟨by omega, by omega⟩
  have ht1 : ((S.sg.length : Int) - 1).toNat = S.sg.length - 1 := by omega
  have hlt1 : (S.sg.length : Int) - 1 < S.sg.length := by omega
  clear hcell
  by_cases hz : z = 1
  · have hz1 : ((z : Int) != 1) = false := by simpa using hz
    have HL := hide (show ∀ q, S.sg[S.sg.length - 1]? = some q → q.2 = 1 from fun q hq => by rw [hp] at hq; injection hq with hq; rw [← hq]; exact hz)
    clear hz hp
    go_enter Try.func101, Try.ntmps101
    go_wp2_with (go_at_call 121; refine (between_any _ _ _ _).mono ?_; rintro e w' ⟨rfl, rfl⟩; rw [HI.out])
    clear c1 hi1 hw1 ht1 hlt1 x0
    generalize (w.alloc (.cells #[.slice (some ⟨bs, os, none⟩) S.sg.length c, .slice D S.mn.length d] 69)) = W0 at *
    go_loopw [4, 26] (fun v i wr => ∃ k : Nat, k ≤ S.sg.length ∧ i = .int .i64 k ∧ v = .int .i64 (befL S.sg k) ∧ Below w.heap.size w wr ∧ Below W0.heap.size W0 wr ∧ Hid (sgTo S.sg k))
      (fun _ i _ => S.sg.length - (intOf i).toNat)
    case atStart => exact ⟨0, by omega, rfl, rfl, b0, Below.refl _ _, hide (sgTo.zero _)⟩
    case round =>
      obtain ⟨k, hk, rfl, rfl, hB, hB0, hG⟩ := hrel
      by_cases hlt : k < S.sg.length
      · obtain ⟨p, hp⟩ : ∃ p, S.sg[k]? = some p := ⟨S.sg[k]'hlt, List.getElem?_eq_getElem _⟩
        have hcell := rangeAt_below (hps k p hp) hB hbs
        obtain ⟨y, z⟩ := p
        obtain ⟨⟨h1, h2⟩, h3, h4⟩ := HS.out.sign hp
        have c0 : wr.cell? ⟨bs, os + k * 2, none⟩ = some (.int .u8 y) := hcell 0 _ rfl
        have c1 : wr.cell? ⟨bs, os + k * 2 + 1, none⟩ = some (.int .i16 z) := hcell 1 _ rfl
        have hi : (k : Int) < S.sg.length := by omega
        have h0 : (0 : Int) ≤ k := by omega
        have HNX := hide (show befL S.sg (k + 1) = z from befL_next hp)
        have HP := hide hp
        have HBF := hide (show (∀ q, 0 < k → S.sg[k - 1]? = some q → q.2 = befL S.sg k) ∧ (k = 0 → befL S.sg k = 5001) from ⟨fun q h hq => by
          obtain ⟨j, rfl⟩ : ∃ j, k = j + 1 := ⟨k - 1, by omega⟩
          simp only [Nat.add_sub_cancel] at hq
          exact (befL_next hq).symm, fun h => by rw [h]; rfl⟩)
        have hB' := hB.alloc hB.size (.cells #[.int .u8 y, .int .i16 z] 143)
        have hB0' := hB0.alloc hB0.size (.cells #[.int .u8 y, .int .i16 z] 143)
        clear hcell hp
        generalize befL S.sg k = bf at *
        cases hcap : cap y
        · have HC := hide hcap
          clear hcap
          go_wp2_with (go_at_call 128; refine (isCapital_any _ _).mono ?_; rintro e w' ⟨rfl, rfl⟩; rw [HC.out])
          go_ret
          exact ⟨ret_bool (HF.out (fun h => by have := h.1.to.caps k _ hlt HP.out; rw [HC.out] at this; cases this)).symm, hB'⟩
        have HC := hide hcap
        clear hcap
        by_cases hle : bf ≤ z
        · have hd : decide (bf ≤ z) = true := by simpa using hle
          have HB := hide (show ¬ (vsg S.sg ∧ apart S.sg S.sg.length) from fun h => by
            rcases Nat.eq_zero_or_pos k with e | e
            · have := HBF.out.2 e
              have := h.1.to.top (y, z) (by omega) (by rw [← e]; exact HP.out)
              simp only at this; omega
            · obtain ⟨q, hq⟩ : ∃ q, S.sg[k - 1]? = some q := ⟨S.sg[k - 1]'(by omega), List.getElem?_eq_getElem _⟩
              have := HBF.out.1 q e hq
              have := h.1.to.fall (k - 1) q (y, z) (by omega) hq (by rw [show k - 1 + 1 = k by omega]; exact HP.out)
              simp only at this; omega)
          clear hle
          go_wp2_with (go_at_call 128; refine (isCapital_any _ _).mono ?_; rintro e w' ⟨rfl, rfl⟩; rw [HC.out])
          go_ret
          exact ⟨ret_bool (HF.out HB.out).symm, hB'⟩
        · have hd : decide (bf ≤ z) = false := by simpa using hle
          have HG := hide (hG.out.succ HP.out HC.out (fun q h hq => by have := HBF.out.1 q h hq; simp only; omega) (fun h => by have := HBF.out.2 h; simp only; omega))
          clear hle
          go_wp2_with (go_at_call 128; refine (isCapital_any _ _).mono ?_; rintro e w' ⟨rfl, rfl⟩; rw [HC.out])
          exact ⟨⟨k + 1, by omega, by go_num, by rw [HNX.out], hB', hB0', HG⟩, by simp [intOf]; omega⟩
      · obtain rfl : k = S.sg.length := by omega
        have HVS := hide (show vsg S.sg from ⟨by omega, by omega, HL.out, hG.out⟩)
        have x0 := rangeAt_cell (rangeAt_below r0 hB0 s0) (k := 0) rfl
        have x1 := rangeAt_cell (rangeAt_below r0 hB0 s0) (k := 1) rfl
        clear hG hlt r0
        go_wp2_with fail
        refine (HVM.out _ hB).mono ?_
        rintro e w1 ⟨B, rfl, hlB, hVm, hb1⟩
        have hlen := hVm.len
        obtain ⟨z1, z2⟩ := size_vmap _ S.sg rfl
        have HZ := hide z2
        clear z2 x0 x1
        generalize Maps.size (vmap S.sg) = M at *
        by_cases he : M = S.sg.length
        · have hd : ((M : Int) == S.sg.length) = true := by simp; omega
          have hd2 : (M == S.sg.length) = true := by simpa using he
          have HAP := hide (HZ.out.1 he)
          clear he
          go_wp2
          go_ret
          exact ⟨ret_bool (HT.out ⟨HVS.out, HAP.out⟩).symm, hB.trans (hb1.mono hB.size)⟩
        · have hd : ((M : Int) == S.sg.length) = false := by simp; omega
          have hd2 : (M == S.sg.length) = false := by simpa using he
          have HAP := hide (fun h => he (HZ.out.2 h))
          clear he
          go_wp2
          go_ret
          exact ⟨ret_bool (HF.out (fun h => HAP.out h.2)).symm, hB.trans (hb1.mono hB.size)⟩
  · have hz1 : ((z : Int) != 1) = true := by simpa using hz
    have HZ := hide hz
    have HP := hide hp
    clear hz hp
    go_enter Try.func101, Try.ntmps101
    go_wp2_with (go_at_call 121; refine (between_any _ _ _ _).mono ?_; rintro e w' ⟨rfl, rfl⟩; rw [HI.out])
    go_ret
    exact ⟨ret_bool (HF.out (fun h => HZ.out (h.1.last _ HP.out))).symm, b0⟩

noncomputable def vmnB (S : Sy) : Bool := @decide (S.mn.length ≤ 8 ∧ mnTo S S.mn.length) (Classical.propDecidable _)
theorem vmnB_true {S : Sy} : vmnB S = true ↔ S.mn.length ≤ 8 ∧ mnTo S S.mn.length := by simp [vmnB]
theorem vmnB_false {S : Sy} : vmnB S = false ↔ ¬ (S.mn.length ≤ 8 ∧ mnTo S S.mn.length) := by simp [vmnB]

set_option maxHeartbeats 2000000 in
theorem bytesCompare_any (p q : Dub) (hp : (0 ≤ p.1 ∧ p.1 ≤ 255) ∧ (0 ≤ p.2 ∧ p.2 ≤ 255)) (hq : (0 ≤ q.1 ∧ q.1 ≤ 255) ∧ (0 ≤ q.2 ∧ q.2 ≤ 255)) (b o b' o' c c' : Nat) (w : World) (h : w.rangeAt b o (a2c p)) (h' : w.rangeAt b' o' (a2c q)) :
    Calls Try.prog 157 #[.slice (some ⟨b, o, none⟩) 2 c, .slice (some ⟨b', o', none⟩) 2 c'] w fun e w' => e = .returned (.int .i64 (cmpD p q)) ∧ w = w' := by
  have hc := compare_two p q hp hq b o b' o' c c' w h h'
  generalize cmpD p q = v at *
  go_enter Try.func157, Try.ntmps157
  go_wp2
  go_ret
  exact ⟨rfl, rfl⟩

set_option maxRecDepth 100000 in
set_option maxHeartbeats 8000000 in
theorem validMinus_any (S : Sy) (hS : S.ok) (hap : apart S.sg S.sg.length) (A D : Option Addr) (c d : Nat) (w : World) (hA : SyAt w w.heap.size A D S) :
    Calls Try.prog 102 #[sv S A D c d] w fun e w' => e = .returned (.bool (vmnB S)) ∧ Below w.heap.size w w' := by
  have HT := hide (fun h : S.mn.length ≤ 8 ∧ mnTo S S.mn.length => vmnB_true.2 h)
  have HF := hide (fun h : ¬ (S.mn.length ≤ 8 ∧ mnTo S S.mn.length) => vmnB_false.2 h)
  generalize vmnB S = V at *
  have hm := hS.m
  have hn := hS.n
  unfold maxLen at hm hn
  have b0 : Below w.heap.size w (w.alloc (.cells #[.slice A S.sg.length c, .slice D S.mn.length d] 69)) := (Below.refl _ _).alloc (Nat.le_refl _) _
  have r0 : (w.alloc (.cells #[.slice A S.sg.length c, .slice D S.mn.length d] 69)).rangeAt w.heap.size 0 [.slice A S.sg.length c, .slice D S.mn.length d] := rangeAt_new w [.slice A S.sg.length c, .slice D S.mn.length d] _
  have s0 : w.heap.size < (w.alloc (.cells #[.slice A S.sg.length c, .slice D S.mn.length d] 69)).heap.size := by simp
  have HVM := hide (fun (W : World) (hB : Below w.heap.size w W) => values_any S hS A D c d W ((hA.below hB).mono hB.size))
  have HS := hide hS
  have HAP := hide hap
  clear hS hap
  by_cases hm8 : 8 < S.mn.length
  · have hd : decide ((8 : Int) < S.mn.length) = true := by simp; omega
    have hd2 : decide (8 < S.mn.length) = true := by simp; omega
    go_enter Try.func102, Try.ntmps102
    go_wp2
    go_ret
    exact ⟨ret_bool (HF.out (fun h => by omega)).symm, b0⟩
  have hd : decide ((8 : Int) < S.mn.length) = false := by simp; omega
  have hd2 : decide (8 < S.mn.length) = false := by simp; omega
  go_enter Try.func102, Try.ntmps102
  go_wp2_with fail
  refine (HVM.out _ b0).mono ?_
  rintro e w1 ⟨B, rfl, hlB, hVm, hb1⟩
  have b1 := b0.trans (hb1.mono b0.size)
  have r1 := rangeAt_below r0 hb1 s0
  have s1 := Nat.lt_of_lt_of_le s0 hb1.size
  have hlB' : w.heap.size < B := by
    have := hlB
    simp at this; omega
  clear hd hd2 r0 s0 hb1 b0 hlB
  have x1 := rangeAt_cell r1 (k := 1) rfl
  go_wp2
  clear x1
  go_loopw [17] (fun i wr => ∃ k : Nat, k ≤ S.mn.length ∧ i = .int .i64 k ∧ Below w.heap.size w wr ∧ Below w1.heap.size w1 wr ∧ Hid (mnTo S k))
    (fun i _ => S.mn.length - (intOf i).toNat)
  case atStart => exact ⟨0, by omega, rfl, b1, Below.refl _ _, hide (mnTo.zero _)⟩
  case round =>
    obtain ⟨k, hk, rfl, hB, hB1, hG⟩ := hrel
    by_cases hlt : k < S.mn.length
    · obtain ⟨bm, om, rfl, hbm, hpm⟩ := hA.2 (by intro e; rw [e] at hlt; simp at hlt)
      obtain ⟨p, hp⟩ : ∃ p, S.mn[k]? = some p := ⟨S.mn[k]'hlt, List.getElem?_eq_getElem _⟩
      have hcell := rangeAt_below (hpm k p hp) hB hbm
      obtain ⟨y, z⟩ := p
      obtain ⟨⟨h1, h2⟩, h3, h4⟩ := HS.out.pair hp
      have c0 : wr.cell? ⟨bm, om + k * 2, none⟩ = some (.int .u8 y) := hcell 0 _ rfl
      have c1 : wr.cell? ⟨bm, om + k * 2 + 1, none⟩ = some (.int .u8 z) := hcell 1 _ rfl
      have hi : (k : Int) < S.mn.length := by omega
      have h0 : (0 : Int) ≤ k := by omega
      have HP := hide hp
      have hB' := hB.alloc hB.size (.cells #[.int .u8 y, .int .u8 z] 144)
      have hB1' := hB1.alloc hB1.size (.cells #[.int .u8 y, .int .u8 z] 144)
      have hV2 := hVm.go hB1'
      have m0 := rangeAt_new wr (a2c (y, z)) 144
      have sz : wr.heap.size < (wr.alloc (Obj.cells #[.int .u8 y, .int .u8 z] 144)).heap.size := by simp
      have gm : w.heap.size < wr.heap.size := Nat.lt_of_lt_of_le s1 hB1.size
      change (wr.alloc (Obj.cells #[.int .u8 y, .int .u8 z] 144)).rangeAt wr.heap.size 0 (a2c (y, z)) at m0
      have hl1 : ∀ m, (Instr.lookup 205 (.map (some B)) (.int .i32 y) false).run Try.prog ((wr.alloc (Obj.cells #[.int .u8 y, .int .u8 z] 144)).drewN m) = .ok (.int .i64 (valL S.sg y)) ((wr.alloc (Obj.cells #[.int .u8 y, .int .u8 z] 144)).drewN m) := fun m => VMap.look (w := (wr.alloc (Obj.cells #[.int .u8 y, .int .u8 z] 144)).drewN m) hV2 HAP.out ⟨by omega, by omega⟩
      have hl2 : ∀ m, (Instr.lookup 205 (.map (some B)) (.int .i32 z) false).run Try.prog ((wr.alloc (Obj.cells #[.int .u8 y, .int .u8 z] 144)).drewN m) = .ok (.int .i64 (valL S.sg z)) ((wr.alloc (Obj.cells #[.int .u8 y, .int .u8 z] 144)).drewN m) := fun m => VMap.look (w := (wr.alloc (Obj.cells #[.int .u8 y, .int .u8 z] 144)).drewN m) hV2 HAP.out ⟨by omega, by omega⟩
      have HVAL := hide (fun h : mnTo S S.mn.length => h.val k _ hlt HP.out)
      have HORD := hide (fun (h : mnTo S S.mn.length) (q : Dub) (h0 : 0 < k) (hq : S.mn[k - 1]? = some q) => h.ord (k - 1) q _ (by omega) hq (by rw [show k - 1 + 1 = k by omega]; exact HP.out))
      have HSTEP := hide (fun h1 h2 h3 => hG.out.succ HP.out h1 h2 h3)
      simp only at HVAL HSTEP
      obtain ⟨v1, v2⟩ := valL_bd HS.out y
      obtain ⟨v3, v4⟩ := valL_bd HS.out z
      generalize valL S.sg y = vy at *
      generalize valL S.sg z = vz at *
      clear hcell hp
      go_wp2
      go_quiet (fail)
      have hB2 := below_drewN hB' nq
      have hB12 := below_drewN hB1' nq
      have m2 : ((wr.alloc (Obj.cells #[.int .u8 y, .int .u8 z] 144)).drewN nq).rangeAt wr.heap.size 0 (a2c (y, z)) := m0
      clear hl1 hl2 hV2 m0 sz hB' hB1' c0 c1
      generalize ((wr.alloc (Obj.cells #[.int .u8 y, .int .u8 z] 144)).drewN nq) = W2 at *
      by_cases e0 : vy = 0
      · have HE := hide e0
        have hd : ((vy : Int) == 0) = true := by simpa using e0
        clear e0
        go_wp2
        go_quiet (fail)
        go_wp2
        go_ret
        exact ⟨ret_bool (HF.out (fun h => (HVAL.out h.2).1 HE.out)).symm, below_drewN hB2 _⟩
      have hd : ((vy : Int) == 0) = false := by simpa using e0
      by_cases e1 : vz ≤ vy
      · have hd2 : decide (vz ≤ vy) = true := by simpa using e1
        have HE := hide e1
        clear e0 e1
        go_wp2
        go_quiet (fail)
        go_wp2
        go_ret
        exact ⟨ret_bool (HF.out (fun h => by have := (HVAL.out h.2).2; have := HE.out; omega)).symm, below_drewN hB2 _⟩
      have hd2 : decide (vz ≤ vy) = false := by simpa using e1
      have HST := hide (HSTEP.out e0 (by omega))
      clear e0 e1 HSTEP HVAL
      by_cases hk0 : k = 0
      · have hd0 : decide (0 < k) = false := by simp; omega
        have HN := hide (HST.out (fun q h => by omega))
        clear hk0
        go_wp2
        go_quiet (fail)
        go_wp2
        exact ⟨⟨k + 1, by omega, by go_num, below_drewN hB2 _, below_drewN hB12 _, HN⟩, by simp [intOf]; omega⟩
      · have hd0 : decide (0 < k) = true := by simp; omega
        obtain ⟨q, hq⟩ : ∃ q, S.mn[k - 1]? = some q := ⟨S.mn[k - 1]'(by omega), List.getElem?_eq_getElem _⟩
        have hcell' := rangeAt_below (hpm (k - 1) q hq) hB2 hbm
        obtain ⟨y', z'⟩ := q
        have hqb := HS.out.pair hq
        have j1 : (1 : Int) ≤ k := by omega
        have j2 : (k : Int) - 1 < S.mn.length := by omega
        have j3 : ((k : Int) - 1).toNat = k - 1 := by omega
        have j4 : (0 : Int) ≤ (k : Int) - 1 := by omega
        have e2 := IntWalk.i64_in ((k : Int) - 1) ⟨by omega, by omega⟩
        have x1 := rangeAt_cell (rangeAt_below r1 hB12 s1) (k := 1) rfl
        have HC := hide (fun (m c c' : Nat) => bytesCompare_any (y', z') (y, z) hqb ⟨⟨h1, h2⟩, h3, h4⟩ bm (om + (k - 1) * 2) wr.heap.size 0 c c' (W2.drewN m) hcell' m2)
        have HO := hide (fun h => HORD.out h _ (by omega) hq)
        have HST' := hide (fun h : lexB (y', z') (y, z) = true => HST.out (fun q' _ hq' => by rw [hq] at hq'; injection hq' with hq'; subst hq'; exact h))
        have hlex := cmpD_lex (y', z') (y, z)
        clear hcell' m2 hk0 hq HORD HST hqb
        generalize cmpD (y', z') (y, z) = cv at *
        cases hl : lexB (y', z') (y, z)
        · rw [hl] at hlex
          simp only [Bool.not_false] at hlex
          have HL := hide hl
          clear hl
          go_wp2
          go_quiet ((go_at_call 157; exact qleft (HC.out _ _ _)))
          go_wp2
          go_ret
          exact ⟨ret_bool (HF.out (fun h => by have := HO.out h.2; rw [HL.out] at this; cases this)).symm, below_drewN hB2 _⟩
        · rw [hl] at hlex
          simp only [Bool.not_true] at hlex
          have HL := hide (HST'.out hl)
          clear hl
          go_wp2
          go_quiet ((go_at_call 157; exact qleft (HC.out _ _ _)))
          clear x1 hlex
          go_wp2
          exact ⟨⟨k + 1, by omega, by go_num, below_drewN hB2 _, below_drewN hB12 _, HL⟩, by simp [intOf]; omega⟩
    · obtain rfl : k = S.mn.length := by omega
      go_wp2
      go_ret
      exact ⟨ret_bool (HT.out ⟨by omega, hG.out⟩).symm, hB⟩

set_option maxRecDepth 100000 in
set_option maxHeartbeats 4000000 in
theorem implValidSystem_any (Y : Sy) (hY : Y.ok) (G J : Option Addr) (cg cj : Nat) (w : World) (hG : SyAt w w.heap.size G J Y) :
    Calls Try.prog 41 #[sv Y G J cg cj] w fun e w' => e = .returned (.bool (vsys Y)) ∧ Below w.heap.size w w' := by
  have b0 : Below w.heap.size w (w.alloc (.cells #[.slice G Y.sg.length cg, .slice J Y.mn.length cj] 69)) := (Below.refl _ _).alloc (Nat.le_refl _) _
  have r0 : (w.alloc (.cells #[.slice G Y.sg.length cg, .slice J Y.mn.length cj] 69)).rangeAt w.heap.size 0 [.slice G Y.sg.length cg, .slice J Y.mn.length cj] := rangeAt_new w [.slice G Y.sg.length cg, .slice J Y.mn.length cj] _
  have s0 : w.heap.size < (w.alloc (.cells #[.slice G Y.sg.length cg, .slice J Y.mn.length cj] 69)).heap.size := by simp
  have HT := hide (fun h : okS Y => vsys_true.2 h)
  have HF := hide (fun h : ¬ okS Y => vsys_false.2 h)
  generalize vsys Y = V at *
  have HA := hide (fun (W : World) (hB : Below w.heap.size w W) => validSigns_any Y hY G J cg cj W ((hG.below hB).mono hB.size))
  have HM := hide (fun (hap : apart Y.sg Y.sg.length) (W : World) (hB : Below w.heap.size w W) => validMinus_any Y hY hap G J cg cj W ((hG.below hB).mono hB.size))
  cases h1 : vsgB Y
  · have H1 := hide h1
    go_enter Try.func41, Try.ntmps41
    go_wp2_with fail
    refine (HA.out _ b0).mono ?_
    rintro e w1 ⟨rfl, hb1⟩
    clear r0
    go_wp2
    go_ret
    exact ⟨ret_bool (HF.out (fun h => vsgB_false.1 H1.out ⟨h.sg, h.ap⟩)).symm, b0.trans (hb1.mono b0.size)⟩
  · have H1 := hide (vsgB_true.1 h1)
    cases h2 : vmnB Y
    · have H2 := hide (vmnB_false.1 h2)
      go_enter Try.func41, Try.ntmps41
      go_wp2_with fail
      refine (HA.out _ b0).mono ?_
      rintro e w1 ⟨rfl, hb1⟩
      have x0 := rangeAt_cell (rangeAt_below r0 hb1 s0) (k := 0) rfl
      have x1 := rangeAt_cell (rangeAt_below r0 hb1 s0) (k := 1) rfl
      have b1 := b0.trans (hb1.mono b0.size)
      clear r0
      go_wp2_with fail
      refine (HM.out H1.out.2 _ b1).mono ?_
      rintro e w2 ⟨rfl, hb2⟩
      clear x0 x1
      go_wp2
      go_ret
      exact ⟨ret_bool (HF.out (fun h => H2.out ⟨h.m8, h.mn⟩)).symm, b1.trans (hb2.mono b1.size)⟩
    · have H2 := hide (vmnB_true.1 h2)
      go_enter Try.func41, Try.ntmps41
      go_wp2_with fail
      refine (HA.out _ b0).mono ?_
      rintro e w1 ⟨rfl, hb1⟩
      have x0 := rangeAt_cell (rangeAt_below r0 hb1 s0) (k := 0) rfl
      have x1 := rangeAt_cell (rangeAt_below r0 hb1 s0) (k := 1) rfl
      have b1 := b0.trans (hb1.mono b0.size)
      clear r0
      go_wp2_with fail
      refine (HM.out H1.out.2 _ b1).mono ?_
      rintro e w2 ⟨rfl, hb2⟩
      clear x0 x1
      go_wp2
      go_ret
      exact ⟨ret_bool (HT.out ⟨H1.out.1, H1.out.2, H2.out.1, H2.out.2⟩).symm, b1.trans (hb2.mono b1.size)⟩
end Go.Proofs.Ytgklhdacnklhdaa
