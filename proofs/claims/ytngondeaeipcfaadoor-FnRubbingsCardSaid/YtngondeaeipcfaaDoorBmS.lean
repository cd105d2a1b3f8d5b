/- The best move, of the model. -/
import Derived.Test.YtngondeaeipcfaaDoorBmP
import Derived.Test.YtngondeaeipcfaaDoorRbM
import Derived.Test.YtngondeaeipcfaaDoorLsD
namespace Go.Proofs.YtngondeaeipcfaaDoor
open Go Go.RowKit

def bmF (R S : List Nat) (x y : Int) : Int := (mtN R (mvR S x y) : Int)
theorem bmF_bd (R S : List Nat) (x y : Int) : 0 ≤ bmF R S x y ∧ bmF R S x y ≤ 128 := by
  unfold bmF mtN
  have := cntN_le (cmnL R (mvR S x y)) 8
  omega
set_option maxHeartbeats 1000000 in
theorem l00MaxM_any (x : Int) (w : World) : Calls Tryd.prog 60 #[.int .i64 x, .int .i64 (-x)] w fun e w' => e = .returned (.int .i64 (absM x)) ∧ w = w' := by
  by_cases h : -x < x
  · have hm : absM x = x := by unfold absM; omega
    have HM := hide hm
    clear hm
    go_enter Tryd.func60, Tryd.ntmps60
    go_wp2
    go_ret
    exact ⟨ret_int HM.out.symm, rfl⟩
  · have hm : absM x = -x := by unfold absM; omega
    have HM := hide hm
    clear hm
    go_enter Tryd.func60, Tryd.ntmps60
    go_wp2
    go_ret
    exact ⟨ret_int HM.out.symm, rfl⟩

set_option maxRecDepth 100000 in
set_option maxHeartbeats 16000000 in
theorem specBestMove_any (R : List Nat) (hR : rok R) (S : List Nat) (hS : rok S) (w : World) :
    Calls Tryd.prog 13 #[.agg (rwc R).toArray, .agg (rwc S).toArray] w fun e w' => e = .returned (.tuple #[.int .i64 (bmV (bmF R S)).1, .int .i64 (bmV (bmF R S)).2.1, .int .i64 (bmV (bmF R S)).2.2]) ∧ Below w.heap.size w w' := by
  have hb0 : Below w.heap.size w ((w.alloc (.cells (rwc R).toArray 26)).alloc (.cells (rwc S).toArray 26)) := ((Below.refl _ _).alloc (Nat.le_refl _) _).alloc (by simp) _
  have s0 : ((w.alloc (.cells (rwc R).toArray 26)).alloc (.cells (rwc S).toArray 26)).heap.size = w.heap.size + 1 + 1 := by simp
  have r0 : ((w.alloc (.cells (rwc R).toArray 26)).alloc (.cells (rwc S).toArray 26)).rangeAt w.heap.size 0 (rwc R) := World.rangeAt_alloc (rangeAt_new _ _ _) _
  have r1 : ((w.alloc (.cells (rwc R).toArray 26)).alloc (.cells (rwc S).toArray 26)).rangeAt (w.heap.size + 1) 0 (rwc S) := rangeAt_newg (by simp) rfl
  have HB0 := hide hb0
  have HR := hide hR
  have HS := hide hS
  have HBD := hide (bmF_bd R S)
  have HFD := hide (fun x y => show (mtN R (mvR S x y) : Int) = bmF R S x y from rfl)
  clear hb0 hR hS
  go_enter Tryd.func13, Tryd.ntmps13
  go_wp2
  generalize ((w.alloc (.cells (rwc R).toArray 26)).alloc (.cells (rwc S).toArray 26)) = W0 at *
  have HC := hide (fun x y (h : inM x y) W (hW : Below W0.heap.size W0 W) => show Calls Tryd.prog 61 #[.pointer (some ⟨w.heap.size, 0, none⟩), .pointer (some ⟨w.heap.size + 1, 0, none⟩), .int .i64 x, .int .i64 y] W (fun e w' => e = .returned (.int .i64 (bmF R S x y)) ∧ Below W.heap.size W w') from l07At_any R S HR.out HS.out w.heap.size (w.heap.size + 1) x y h.1 h.2 W (rangeAt_below r0 hW (by omega)) (rangeAt_below r1 hW (by omega)))
  clear r0 r1 HFD
  generalize hFE : bmF R S = f at *
  have HFE := hide hFE
  clear hFE
  have HMX := hide l00MaxM_any
  have HST := hide (fun p h => @bmI_pass f p (0, 0, 0) h)
  go_loopw [7, 8, 9, 10] (fun bx bY mo sz wr => ∃ (s : Nat) (p q r : Int), s ≤ 11 ∧ sz = .int .i64 s ∧ bx = .int .i64 p ∧ bY = .int .i64 q ∧ mo = .int .i64 r ∧ Hid (bmI f ((s : Int) * 121) (p, q, r)) ∧ Below W0.heap.size W0 wr) (fun _ _ _ sz _ => 11 - (intOf sz).toNat)
  case atStart => exact ⟨0, 0, 0, -1, by omega, rfl, rfl, rfl, rfl, hide (by simpa using bmI_start f 0 0), Below.refl _ _⟩
  case round =>
    obtain ⟨s, p, q, r, hs, rfl, rfl, rfl, rfl, hI, hB⟩ := hrel
    by_cases hlt : s < 11
    · have hd : decide ((s : Int) ≤ 10) = true := by simp; omega
      have hd' : (s : Int) ≤ 10 := by omega
      go_wp2
      go_loopw [7, 8, 9, 11] (fun bx bY mo iy wr => ∃ (j : Nat) (p q r : Int), j ≤ 11 ∧ iy = .int .i64 ((j : Int) - 5) ∧ bx = .int .i64 p ∧ bY = .int .i64 q ∧ mo = .int .i64 r ∧ Hid (bmI f ((s : Int) * 121 + (j : Int) * 11) (p, q, r)) ∧ Below W0.heap.size W0 wr) (fun _ _ _ iy _ => 11 - (intOf iy + 5).toNat)
      case atStart => exact ⟨0, p, q, r, by omega, rfl, rfl, rfl, rfl, hide (by simpa using hI.out), hB⟩
      case round =>
        clear hI hB
        obtain ⟨j, p, q, r, hj, rfl, rfl, rfl, rfl, hI, hB⟩ := hrel
        by_cases hlt2 : j < 11
        · have he : decide ((j : Int) - 5 ≤ 5) = true := by simp; omega
          have he' : (j : Int) - 5 ≤ 5 := by omega
          go_wp2
          go_loopw [7, 8, 9, 12] (fun bx bY mo ix wr => ∃ (i : Nat) (p q r : Int), i ≤ 11 ∧ ix = .int .i64 ((i : Int) - 5) ∧ bx = .int .i64 p ∧ bY = .int .i64 q ∧ mo = .int .i64 r ∧ Hid (bmI f ((s : Int) * 121 + (j : Int) * 11 + i) (p, q, r)) ∧ Below W0.heap.size W0 wr) (fun _ _ _ ix _ => 11 - (intOf ix + 5).toNat)
          case atStart => exact ⟨0, p, q, r, by omega, rfl, rfl, rfl, rfl, hide (by simpa using hI.out), hB⟩
          case round =>
            clear hI hB
            obtain ⟨i, p, q, r, hi, rfl, rfl, rfl, rfl, hI, hB⟩ := hrel
            by_cases hlt3 : i < 11
            · have hf : decide ((i : Int) - 5 ≤ 5) = true := by simp; omega
              have hf' : (i : Int) - 5 ≤ 5 := by omega
              have hin : inM ((i : Int) - 5) ((j : Int) - 5) := by unfold inM; omega
              have hxa := absM_bd hin.1
              have hya := absM_bd hin.2
              have HIN := hide hin
              have hnx := IntWalk.i64_in (-((i : Int) - 5)) ⟨by omega, by omega⟩
              have hny := IntWalk.i64_in (-((j : Int) - 5)) ⟨by omega, by omega⟩
              have hnz := IntWalk.i64_in (absM ((i : Int) - 5) + absM ((j : Int) - 5)) ⟨by omega, by omega⟩
              have HMXx := hide (HMX.out ((i : Int) - 5))
              have HMXy := hide (HMX.out ((j : Int) - 5))
              have HNX : Hid ((((i + 1 : Nat) : Int) - 5) = ((i : Int) - 5) + 1) := hide (by omega)
              have hwx := IntWalk.i64_in (((i : Int) - 5) + 1) ⟨by omega, by omega⟩
              by_cases hq : absM ((i : Int) - 5) + absM ((j : Int) - 5) = (s : Int)
              · have hne : (absM ((i : Int) - 5) + absM ((j : Int) - 5) != (s : Int)) = false := by simpa using hq
                have hrk : (s : Int) * 121 + (j : Int) * 11 + i = rkM ((i : Int) - 5) ((j : Int) - 5) := by unfold rkM; omega
                have hI2 := hide (hrk ▸ hI.out : bmI f (rkM ((i : Int) - 5) ((j : Int) - 5)) (p, q, r))
                have HRK : Hid ((s : Int) * 121 + (j : Int) * 11 + ((i + 1 : Nat) : Int) = rkM ((i : Int) - 5) ((j : Int) - 5) + 1) := hide (by omega)
                have HCC := hide (HC.out ((i : Int) - 5) ((j : Int) - 5) hin)
                have HTK := hide (fun hgt => bmI_take HBD.out hin hI2.out hgt)
                have HKP := hide (fun hgt => bmI_keep HBD.out hin hI2.out hgt)
                clear hin hxa hya hq hrk hI
                generalize absM ((i : Int) - 5) = ax at *
                generalize absM ((j : Int) - 5) = ay at *
                generalize f ((i : Int) - 5) ((j : Int) - 5) = v at *
                by_cases hgt : r < v
                · have hg : decide (r < v) = true := by simpa using hgt
                  have HN := hide (HTK.out hgt)
                  clear hgt
                  go_wp2_with fail
                  refine (HMXx.out _).mono ?_
                  rintro e w' ⟨rfl, rfl⟩
                  go_wp2_with fail
                  refine (HMXy.out _).mono ?_
                  rintro e w' ⟨rfl, rfl⟩
                  go_wp2_with fail
                  refine (HCC.out _ hB).mono ?_
                  rintro e w1 ⟨rfl, hb1⟩
                  go_wp2
                  exact ⟨⟨i + 1, ((i : Int) - 5), ((j : Int) - 5), v, by omega, by rw [HNX.out], rfl, rfl, rfl, hide (by rw [HRK.out]; exact HN.out), hB.trans (hb1.mono hB.size)⟩, by simp [intOf]; omega⟩
                · have hg : decide (r < v) = false := by simpa using hgt
                  have HN := hide (HKP.out hgt)
                  clear hgt
                  go_wp2_with fail
                  refine (HMXx.out _).mono ?_
                  rintro e w' ⟨rfl, rfl⟩
                  go_wp2_with fail
                  refine (HMXy.out _).mono ?_
                  rintro e w' ⟨rfl, rfl⟩
                  go_wp2_with fail
                  refine (HCC.out _ hB).mono ?_
                  rintro e w1 ⟨rfl, hb1⟩
                  go_wp2
                  exact ⟨⟨i + 1, p, q, r, by omega, by rw [HNX.out], rfl, rfl, rfl, hide (by rw [HRK.out]; exact HN.out), hB.trans (hb1.mono hB.size)⟩, by simp [intOf]; omega⟩
              · have hne : (absM ((i : Int) - 5) + absM ((j : Int) - 5) != (s : Int)) = true := by simpa using hq
                have HN := hide (bmI_pass hI.out (fun x' y' hm' e => by
                  have := rkM_at hm' (s := (s : Int)) (y' := ((j : Int) - 5)) (x' := ((i : Int) - 5)) (by omega) hin.2 hin.1 (by rw [e]; omega)
                  rw [this.2.1, this.2.2] at this
                  exact hq this.1))
                have HRK : Hid ((s : Int) * 121 + (j : Int) * 11 + ((i + 1 : Nat) : Int) = (s : Int) * 121 + (j : Int) * 11 + i + 1) := hide (by omega)
                clear hin hxa hya hq hI
                generalize absM ((i : Int) - 5) = ax at *
                generalize absM ((j : Int) - 5) = ay at *
                go_wp2_with fail
                refine (HMXx.out _).mono ?_
                rintro e w' ⟨rfl, rfl⟩
                go_wp2_with fail
                refine (HMXy.out _).mono ?_
                rintro e w' ⟨rfl, rfl⟩
                go_wp2
                exact ⟨⟨i + 1, p, q, r, by omega, by rw [HNX.out], rfl, rfl, rfl, hide (by rw [HRK.out]; exact HN.out), hB⟩, by simp [intOf]; omega⟩
            · obtain rfl : i = 11 := by omega
              have hf : decide ((((11 : Nat) : Int)) - 5 ≤ 5) = false := by decide
              have HN : Hid (bmI f ((s : Int) * 121 + ((j + 1 : Nat) : Int) * 11) (p, q, r)) := hide (by
                have e : (s : Int) * 121 + ((j + 1 : Nat) : Int) * 11 = (s : Int) * 121 + (j : Int) * 11 + ((11 : Nat) : Int) := by omega
                rw [e]; exact hI.out)
              have hwj := IntWalk.i64_in ((j : Int) - 5 + 1) ⟨by omega, by omega⟩
              clear hI
              go_wp2
              refine ⟨⟨j + 1, p, q, r, by omega, ?_, rfl, rfl, rfl, HN, hB⟩, by simp [intOf]; omega⟩
              congr 1; omega
        · obtain rfl : j = 11 := by omega
          have he : decide ((((11 : Nat) : Int)) - 5 ≤ 5) = false := by decide
          have HN : Hid (bmI f (((s + 1 : Nat) : Int) * 121) (p, q, r)) := hide (by
            have e : ((s + 1 : Nat) : Int) * 121 = (s : Int) * 121 + ((11 : Nat) : Int) * 11 := by omega
            rw [e]; exact hI.out)
          clear hI
          go_wp2
          refine ⟨⟨s + 1, p, q, r, by omega, ?_, rfl, rfl, rfl, HN, hB⟩, by simp [intOf]; omega⟩
          go_num
    · obtain rfl : s = 11 := by omega
      have hd : decide ((((11 : Nat) : Int)) ≤ 10) = false := by decide
      have HV := hide (bmI_end HBD.out (b := (p, q, r)) (by have := hI.out; simpa using this))
      have hBf := HB0.out.trans (hB.mono HB0.out.size)
      clear hI
      go_wp2
      go_ret3
      exact ⟨rt3_of (by rw [HFE.out]; exact HV.out), hBf⟩
end Go.Proofs.YtngondeaeipcfaaDoor
