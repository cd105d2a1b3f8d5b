/- FillLetter of the model. -/
import Derived.Test.YtajlbfbpkafjfaaF1W
namespace Go.Proofs.Ytajlbfbpkafjfaa
open Go.RowKit

def outL (p : UInt8 → Bool) (k : Nat) : ByteArray := ⟨((L26.take k).filter p).toArray⟩
theorem outL_zero (p : UInt8 → Bool) : outL p 0 = ⟨#[]⟩ := by simp [outL]
theorem outL_all (p : UInt8 → Bool) : outL p 26 = ⟨(L26.filter p).toArray⟩ := rfl
theorem outL_size (p : UInt8 → Bool) (k : Nat) : (outL p k).size ≤ 26 := by
  show ((L26.take k).filter p).toArray.size ≤ 26
  rw [List.size_toArray]
  refine Nat.le_trans (List.length_filter_le _ _) ?_
  rw [List.length_take]
  exact Nat.min_le_right _ _
theorem outL_yes {p : UInt8 → Bool} {k : Nat} (hk : k < 26) (h : p (UInt8.ofNat (65 + k)) = true) : outL p (k + 1) = outL p k ++ ⟨#[UInt8.ofNat (65 + k)]⟩ := by
  apply ByteArray.ext
  apply Array.toList_inj.1
  rw [append_data]
  show (L26.take (k + 1)).filter p = (L26.take k).filter p ++ [UInt8.ofNat (65 + k)]
  rw [List.take_add_one, L26_get k hk, List.filter_append, Option.toList_some, List.filter_cons, if_pos h, List.filter_nil]
theorem outL_no {p : UInt8 → Bool} {k : Nat} (hk : k < 26) (h : p (UInt8.ofNat (65 + k)) = false) : outL p (k + 1) = outL p k := by
  unfold outL
  rw [List.take_add_one, L26_get k hk, List.filter_append, Option.toList_some, List.filter_cons, if_neg (by rw [h]; exact Bool.false_ne_true), List.filter_nil, List.append_nil]
theorem one65 (k : Nat) (hk : k < 26) (w : World) : BytesAt (w.alloc (.cells #[.int .u8 (65 + (k : Int))] 5)) w.heap.size [UInt8.ofNat (65 + k)] := fun j hj => by
  have hj' : j = 0 := by simp at hj; omega
  subst hj'
  refine ⟨?_, frozen_of_row _ _ _ _ _ (heap_alloc_new w _)⟩
  rw [cell_of_row _ _ _ _ _ _ (heap_alloc_new w _)]
  show some (Value.int .u8 (65 + (k : Int))) = some (.int .u8 ((UInt8.ofNat (65 + k)).toNat : Int))
  rw [of65 hk]

set_option maxRecDepth 100000 in
set_option maxHeartbeats 8000000 in
theorem specFillLetter_any (F : Fc) (hF : F.ok) (A : Option Addr) (c : Nat) (l : ByteArray) (hl : l.size ≤ 1048576) (r : ByteArray) (hr : r.size ≤ 1048576) (x y : Int) (w : World) (hA : PairsAt w w.heap.size A F.ps) :
    Calls Try.prog 40 #[.agg (fc F (.slice A F.ps.length c)).toArray, .string l, .string r, .int .i64 x, .int .i64 y] w fun e w' => e = .returned (.tuple #[.string (flV F l r x y), .int .i64 (flC F l.data.toList r.data.toList [] x y)]) ∧ Below w.heap.size w w' := by
  have r0 := rangeAt_new w (fc F (.slice A F.ps.length c)) 38
  have hb0 : Below w.heap.size w (w.alloc (.cells (fc F (.slice A F.ps.length c)).toArray 38)) := (Below.refl _ _).alloc (Nat.le_refl _) _
  have hs0 : (w.alloc (.cells (fc F (.slice A F.ps.length c)).toArray 38)).heap.size = w.heap.size + 1 := by simp
  have hA0 := hA.below hb0
  clear hA
  generalize hWW : (w.alloc (.cells (fc F (.slice A F.ps.length c)).toArray 38)) = W0 at *
  have hB1 : Below w.heap.size w (W0.alloc (.cells #[] 9)) := hb0.alloc (by omega) _
  have hs1 : (W0.alloc (.cells #[] 9)).heap.size = w.heap.size + 1 + 1 := by simp [hs0]
  have r1 := World.rangeAt_alloc r0 (.cells #[] 9)
  have hbA : Below W0.heap.size W0 (W0.alloc (.cells #[] 9)) := (Below.refl _ _).alloc (Nat.le_refl _) _
  have hA1 := (hA0.below (hbA.mono (by omega))).mono (show w.heap.size ≤ (W0.alloc (.cells #[] 9)).heap.size by omega)
  have HAS := hide (l04Asked_any F hF w.heap.size A c l r (some ⟨w.heap.size + 1, 0, none⟩) [] 0 x y (W0.alloc (.cells #[] 9)) (by unfold maxLen; omega) (by unfold maxLen; omega) (by simp) (by simp) r1 hA1 (StrsAt.nil _ _ _))
  rw [List.length_nil] at HAS
  generalize hV : flV F l r x y = V
  have HV := hide hV
  clear hV
  by_cases hcode : flC F l.data.toList r.data.toList [] x y = 0
  · have HP := hide (flV_ok hcode)
    obtain ⟨z1, z2, z3, _, _, _⟩ := fl_zero hcode
    rw [hcode] at HAS ⊢
    have HFT := hide (fun L => @fit_spec F hF z1 L x z3 y)
    have HOFF := hide (fun m (hm : m.size ≤ 20) W (hW : Below (w.heap.size + 1) (W0.alloc (.cells #[] 9)) W) =>
      l04Off_any F hF w.heap.size A c (l ++ m ++ r) x W (by rw [append_size, append_size]; omega) z1 z3 (rangeAt_below r1 hW (Nat.lt_succ_self _)) (Nat.lt_of_lt_of_le (show w.heap.size < (W0.alloc (.cells #[] 9)).heap.size by omega) hW.size)
        (((hA0.below (hbA.mono (by omega))).below (hW.mono (by omega))).mono (Nat.le_trans (show w.heap.size ≤ (W0.alloc (.cells #[] 9)).heap.size by omega) hW.size)))
    clear hA1 hA0 r0 r1
    go_enter Try.func40, Try.ntmps40
    go_wp2_with fail
    generalize hW1 : (W0.alloc (.cells #[] 9)) = W1 at *
    refine HAS.out.mono ?_
    rintro e w2 ⟨rfl, hb2⟩
    have hB2 : Below (w.heap.size + 1) W1 w2 := hb2.mono (by omega)
    clear hb2
    go_wp2
    go_loopw [13, 14] (fun o i wr => ∃ k : Nat, k ≤ 26 ∧ i = .int .u8 (65 + (k : Int)) ∧ o = .string (outL (fl1 F l r x y) k) ∧ Below (w.heap.size + 1) W1 wr)
      (fun _ i _ => 91 - (intOf i).toNat)
    case atStart => exact ⟨0, by omega, rfl, by rw [outL_zero], hB2⟩
    case round =>
      obtain ⟨k, hk, rfl, rfl, hB⟩ := hrel
      have hbs := hB.size
      by_cases hlt : k < 26
      · have hi : decide (65 + (k : Int) ≤ 90) = true := by simp; omega
        have hBy := one65 k hlt wr
        have kb : (convert 113 9 (.slice (some ⟨wr.heap.size, 0, none⟩) 1 1)).run Try.prog (wr.alloc (.cells #[.int .u8 (65 + (k : Int))] 5)) = .ok (.string ⟨#[UInt8.ofNat (65 + k)]⟩) (wr.alloc (.cells #[.int .u8 (65 + (k : Int))] 5)) := bytes_back hBy
        have hBa : Below (w.heap.size + 1) W1 (wr.alloc (.cells #[.int .u8 (65 + (k : Int))] 5)) := hB.alloc (by omega) _
        have HOF := hide (HOFF.out ⟨#[UInt8.ofNat (65 + k)]⟩ (by show 1 ≤ 20; omega) _ hBa)
        have HFS := hide (HFT.out (l ++ ⟨#[UInt8.ofNat (65 + k)]⟩ ++ r).data.toList)
        have HPK : Hid (fl1 F l r x y (UInt8.ofNat (65 + k)) = filB F (l ++ ⟨#[UInt8.ofNat (65 + k)]⟩ ++ r).data.toList x y) := hide rfl
        have HY := hide (@outL_yes (fl1 F l r x y) k hlt)
        have HN := hide (@outL_no (fl1 F l r x y) k hlt)
        have hos := outL_size (fl1 F l r x y) k
        have hlm : (l ++ (⟨#[UInt8.ofNat (65 + k)]⟩ : ByteArray)).size ≤ maxLen := by rw [append_size]; show l.size + 1 ≤ maxLen; unfold maxLen; omega
        have hlmr : (l ++ (⟨#[UInt8.ofNat (65 + k)]⟩ : ByteArray) ++ r).size ≤ maxLen := by rw [append_size, append_size]; show l.size + 1 + r.size ≤ maxLen; unfold maxLen; omega
        have hom : (outL (fl1 F l r x y) k ++ (⟨#[UInt8.ofNat (65 + k)]⟩ : ByteArray)).size ≤ maxLen := by rw [append_size]; show (outL (fl1 F l r x y) k).size + 1 ≤ maxLen; unfold maxLen; omega
        unfold maxLen at hlm hlmr hom
        clear hBy
        generalize offS F (l ++ ⟨#[UInt8.ofNat (65 + k)]⟩ ++ r).data.toList x = O at *
        have hsz : (⟨#[UInt8.ofNat (65 + k)]⟩ : ByteArray).size ≤ 20 := by show 1 ≤ 20; omega
        generalize (⟨#[UInt8.ofNat (65 + k)]⟩ : ByteArray) = S at *
        cases hf : filB F (l ++ S ++ r).data.toList x y
        · have HE := hide (HN.out (HPK.out.trans hf))
          have hin : inB O 0 y = false := by rw [HFS.out, hf]
          go_wp2_with fail
          refine HOF.out.mono ?_
          rintro e w3 ⟨rfl, hb3⟩
          have hB3 := hBa.trans (hb3.mono (Nat.le_trans (by omega) hBa.size))
          clear kb
          go_wp2_with (go_at_call 74; refine (l00In_any _ _ _ _).mono ?_; rintro e w' ⟨rfl, rfl⟩; simp only [hin])
          exact ⟨⟨k + 1, by omega, by go_num, by rw [HE.out], hB3⟩, by simp [intOf]; omega⟩
        · have HE := hide (HY.out (HPK.out.trans hf))
          have hin : inB O 0 y = true := by rw [HFS.out, hf]
          go_wp2_with fail
          refine HOF.out.mono ?_
          rintro e w3 ⟨rfl, hb3⟩
          have hB3 := hBa.trans (hb3.mono (Nat.le_trans (by omega) hBa.size))
          clear kb
          go_wp2_with (go_at_call 74; refine (l00In_any _ _ _ _).mono ?_; rintro e w' ⟨rfl, rfl⟩; simp only [hin])
          exact ⟨⟨k + 1, by omega, by go_num, by rw [HE.out], hB3⟩, by simp [intOf]; omega⟩
      · obtain rfl : k = 26 := by omega
        have hfin : Hid (outL (fl1 F l r x y) 26 = V) := hide ((outL_all _).trans (HP.out.symm.trans HV.out))
        rw [hfin.out]
        go_wp2
        go_ret2
        exact ⟨rfl, hB1.trans (hB.mono (by omega))⟩
  · have HP := hide (flV_no hcode)
    have hd : (flC F l.data.toList r.data.toList [] x y != 0) = true := by simpa using hcode
    have HNE := hide hcode
    clear hA1 hA0 hcode r0 r1
    generalize flC F l.data.toList r.data.toList [] x y = C at *
    go_enter Try.func40, Try.ntmps40
    go_wp2_with fail
    refine HAS.out.mono ?_
    rintro e w2 ⟨rfl, hb2⟩
    go_wp2
    go_ret2
    exact ⟨ret_si (HP.out.symm.trans HV.out) rfl, hB1.trans (hb2.mono (by omega))⟩
end Go.Proofs.Ytajlbfbpkafjfaa
