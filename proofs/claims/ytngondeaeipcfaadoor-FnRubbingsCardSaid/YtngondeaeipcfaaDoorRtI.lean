/- RubbingText of the program. -/
import Derived.Test.YtngondeaeipcfaaDoorRdP
import Derived.Test.YtngondeaeipcfaaDoorRbG
import Derived.Test.YtngondeaeipcfaaDoorShelfB
namespace Go.Proofs.YtngondeaeipcfaaDoor
open Go Go.RowKit

theorem bd_go {T e : TypeId} {B b : Nat} {bs : List Value} {w w' : World} (h : Lib.IsBuilder T e B b bs w) (hb : Below w.heap.size w w') : Lib.IsBuilder T e B b bs w' := by
  have key : ∀ p, Lib.BuilderAt T e B b p bs w → Lib.BuilderAt T e B b p bs w' := by
    rintro p ⟨hB, v, h1, h2, h3⟩
    refine ⟨hB, v, ?_, own_go h2 hb, h3⟩
    rw [hb.block b (Array.getElem?_eq_some_iff.1 h1).1]; exact h1
  rcases h with h | h
  · exact .inl (key _ h)
  · exact .inr (key _ h)
theorem bytes_snoc (l : List UInt8) (c : UInt8) : Lib.byteCells l ++ [.int .u8 (c.toNat : Int)] = Lib.byteCells (l ++ [c]) := by simp [Lib.byteCells]

set_option maxRecDepth 100000 in
set_option maxHeartbeats 8000000 in
theorem implRubbingText_any (R : List Nat) (hR : rok R) (w : World) :
    Calls Tryd.prog 15 #[.agg (rwc R).toArray] w fun e w' => e = .returned (.string (rtB R)) ∧ Below w.heap.size w w' := by
  have HI := hide (rw_info hR.1)
  have hb0 : Below w.heap.size w ((w.alloc (.cells (rwc R).toArray 26)).alloc (.cells #[.pointer none, .slice none 0 0] 112)) := ((Below.refl _ _).alloc (Nat.le_refl _) _).alloc (by simp) _
  have s0 : ((w.alloc (.cells (rwc R).toArray 26)).alloc (.cells #[.pointer none, .slice none 0 0] 112)).heap.size = w.heap.size + 1 + 1 := by simp
  have r0 : ((w.alloc (.cells (rwc R).toArray 26)).alloc (.cells #[.pointer none, .slice none 0 0] 112)).rangeAt w.heap.size 0 (rwc R) := World.rangeAt_alloc (rangeAt_new _ _ _) _
  have hbd : Lib.IsBuilder 112 5 (w.heap.size + 1) (w.heap.size + 1) (Lib.byteCells (rtX R 0 0)) ((w.alloc (.cells (rwc R).toArray 26)).alloc (.cells #[.pointer none, .slice none 0 0] 112)) := by
    have := Lib.fresh_isBuilder 112 5 (w.alloc (.cells (rwc R).toArray 26))
    have e : Lib.byteCells (rtX R 0 0) = [] := rfl
    rw [e]
    simpa using this
  have HBD := hide hbd
  have HB0 := hide hb0
  have HC := hide (fun (x y : Nat) hx hy W => isDark_any R hR x y hx hy W)
  have HD := hide (fun y x h => @rtX_dark R y x h)
  have HL := hide (fun y x h => @rtX_light R y x h)
  have HE := hide (rtX_end R)
  have HZ := hide (rtX_zero R)
  have HLN := hide (rtX_len R)
  have HWB := hide (fun (l : List UInt8) (c : UInt8) (h0 : l.length ≤ 1000) W hB (h : Lib.IsBuilder 112 5 (w.heap.size + 1) (w.heap.size + 1) (Lib.byteCells l) W) => show Calls Tryd.prog 65 #[.pointer (some ⟨w.heap.size + 1, 0, none⟩), .int .u8 (c.toNat : Int)] W (fun e w' => e = .returned .nilIface ∧ Lib.IsBuilder 112 5 (w.heap.size + 1) (w.heap.size + 1) (Lib.byteCells (l ++ [c])) w' ∧ Below (w.heap.size + 1) W w') from by
    refine (Tryd.Builder_WriteByteL (w.heap.size + 1) (w.heap.size + 1) (Lib.byteCells l) (c.toNat : Int) W h (by simp [Lib.byteCells]; omega) hB).mono ?_
    rintro e w' ⟨h1, h2, h3⟩
    rw [bytes_snoc] at h2
    exact ⟨h1, .inr h2, h3⟩)
  have HST := hide (fun W hB (h : Lib.IsBuilder 112 5 (w.heap.size + 1) (w.heap.size + 1) (Lib.byteCells (rtX R 8 0)) W) => Tryd.Builder_String_any (w.heap.size + 1) (w.heap.size + 1) (rtX R 8 0) W h hB)
  have HB := hide (show rtB R = ⟨(rtX R 8 0).toArray⟩ by rw [rtX_zero]; rfl)
  clear hR hb0 hbd
  rw [HB.out]
  go_enter Tryd.func15, Tryd.ntmps15
  go_wp2
  generalize ((w.alloc (.cells (rwc R).toArray 26)).alloc (.cells #[.pointer none, .slice none 0 0] 112)) = W0 at *
  go_loopw [6] (fun i wr => ∃ y : Nat, y ≤ 8 ∧ i = .int .i64 y ∧ Below (w.heap.size + 1) W0 wr ∧ Hid (Lib.IsBuilder 112 5 (w.heap.size + 1) (w.heap.size + 1) (Lib.byteCells (rtX R y 0)) wr)) (fun i _ => 8 - (intOf i).toNat)
  case atStart => exact ⟨0, by omega, rfl, Below.refl _ _, HBD⟩
  case round =>
    obtain ⟨y, hy, rfl, hB, HX⟩ := hrel
    by_cases hlt : y < 8
    · have hiy : (y : Int) < 8 := by omega
      have h0y : (0 : Int) ≤ y := by omega
      go_wp2
      go_loopw [9] (fun i wr => ∃ x : Nat, x ≤ 16 ∧ i = .int .i64 x ∧ Below (w.heap.size + 1) W0 wr ∧ Hid (Lib.IsBuilder 112 5 (w.heap.size + 1) (w.heap.size + 1) (Lib.byteCells (rtX R y x)) wr)) (fun i _ => 16 - (intOf i).toNat)
      case atStart => exact ⟨0, by omega, rfl, hB, HX⟩
      case round =>
        clear hB HX
        obtain ⟨x, hx, rfl, hB, HX⟩ := hrel
        have hbs := hB.size
        have hlen := HLN.out y x
        by_cases hlt2 : x < 16
        · have hix : (x : Int) < 16 := by omega
          have h0x : (0 : Int) ≤ x := by omega
          have hr1 := rangeAt_below r0 hB (by omega)
          have HCC := hide (HC.out x y hlt2 hlt wr)
          cases hd : (R.getD y 0).testBit x
          · rw [hd] at HCC
            have HN := hide (HL.out y x hd)
            clear hd
            go_wp2_with (refine wpList_load_mid rfl 26 (.tmp 1) rfl _ 0 rfl (rwc R) _ hr1 Tryd.underlying26 rfl HI.out ?_)
            refine HCC.out.mono ?_
            rintro e w1 ⟨rfl, hb1⟩
            have hB1 := hB.trans (hb1.mono (by omega))
            have HW := hide (HWB.out (rtX R y x) 46 (by omega) w1 (by have := hB1.size; omega) (bd_go HX.out hb1))
            clear hr1
            go_wp2_with fail
            refine HW.out.mono ?_
            rintro e w2 ⟨rfl, hx2, hb2⟩
            have HX2 := hide hx2
            clear hx2
            rw [← HN.out] at HX2
            go_wp2
            exact ⟨⟨x + 1, by omega, by go_num, hB1.trans hb2, HX2⟩, by simp [intOf]; omega⟩
          · rw [hd] at HCC
            have HN := hide (HD.out y x hd)
            clear hd
            go_wp2_with (refine wpList_load_mid rfl 26 (.tmp 1) rfl _ 0 rfl (rwc R) _ hr1 Tryd.underlying26 rfl HI.out ?_)
            refine HCC.out.mono ?_
            rintro e w1 ⟨rfl, hb1⟩
            have hB1 := hB.trans (hb1.mono (by omega))
            have HW := hide (HWB.out (rtX R y x) 35 (by omega) w1 (by have := hB1.size; omega) (bd_go HX.out hb1))
            clear hr1
            go_wp2_with fail
            refine HW.out.mono ?_
            rintro e w2 ⟨rfl, hx2, hb2⟩
            have HX2 := hide hx2
            clear hx2
            rw [← HN.out] at HX2
            go_wp2
            exact ⟨⟨x + 1, by omega, by go_num, hB1.trans hb2, HX2⟩, by simp [intOf]; omega⟩
        · obtain rfl : x = 16 := by omega
          have HW := hide (HWB.out (rtX R y 16) 10 (by omega) wr (by omega) HX.out)
          rw [← HE.out, ← HZ.out] at HW
          go_wp2_with fail
          refine HW.out.mono ?_
          rintro e w2 ⟨rfl, hx2, hb2⟩
          have HX2 := hide hx2
          clear hx2
          go_wp2
          exact ⟨⟨y + 1, by omega, by go_num, hB.trans hb2, HX2⟩, by simp [intOf]; omega⟩
    · obtain rfl : y = 8 := by omega
      have HS := hide (HST.out wr (by have := hB.size; omega) HX.out)
      go_wp2_with fail
      refine HS.out.mono ?_
      rintro e w2 ⟨rfl, hb2⟩
      go_wp2
      go_ret
      exact ⟨rfl, HB0.out.trans ((hB.trans hb2).mono (by omega))⟩
end Go.Proofs.YtngondeaeipcfaaDoor
