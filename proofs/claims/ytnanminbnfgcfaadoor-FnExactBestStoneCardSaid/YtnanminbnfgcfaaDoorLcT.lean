/- The model's count of the letters that are to be cut. -/
import Derived.Test.YtnanminbnfgcfaaDoorLcS
import Derived.Test.YtnanminbnfgcfaaDoorFlP
import Derived.Deep.RegionLaw
namespace Go.Proofs.YtnanminbnfgcfaaDoor
open Go Go.RowKit

theorem lettB_size (L : List UInt8) : (⟨(lettL L).toArray⟩ : ByteArray).size = (lettL L).length := by simp [ByteArray.size]

set_option maxRecDepth 100000 in
set_option maxHeartbeats 8000000 in
theorem l04Cut_any (s m : ByteArray) (hs : s.size ≤ 60) (hm : m.size ≤ 60) (w : World) :
    Calls Tryd.prog 43 #[.string s, .string m] w fun e w' => e = .returned (.int .i64 (cutL s.data.toList m.data.toList)) ∧ Below w.heap.size w w' := by
  have HL1 := hide (fun W => l04Letters_any s (by omega) W)
  have HL2 := hide (fun W => l04Letters_any m (by omega) W)
  have HR : Hid (cutL s.data.toList m.data.toList = ((lettL m.data.toList).length : Int) - (lc (lettL s.data.toList) (lettL m.data.toList) (lettL s.data.toList).length (lettL m.data.toList).length : Nat)) := hide rfl
  have n1 := lettL_len s.data.toList
  have n2 := lettL_len m.data.toList
  have n3 : s.data.toList.length = s.size := by simp
  have n4 : m.data.toList.length = m.size := by simp
  rw [n3] at n1
  rw [n4] at n2
  generalize cutL s.data.toList m.data.toList = R at *
  obtain ⟨a, ha⟩ : ∃ a : ByteArray, a = ⟨(lettL s.data.toList).toArray⟩ := ⟨_, rfl⟩
  obtain ⟨b, hb⟩ : ∃ b : ByteArray, b = ⟨(lettL m.data.toList).toArray⟩ := ⟨_, rfl⟩
  have ha1 : a.data.toList = lettL s.data.toList := by rw [ha]
  have hb1 : b.data.toList = lettL m.data.toList := by rw [hb]
  have ha2 : a.size = (lettL s.data.toList).length := by rw [ha]; exact lettB_size _
  have hb2 : b.size = (lettL m.data.toList).length := by rw [hb]; exact lettB_size _
  rw [← ha] at HL1
  rw [← hb] at HL2
  rw [← ha2] at n1
  rw [← hb2] at n2
  rw [← ha2, ← hb2, ← ha1, ← hb1] at HR
  have HGA := hide (fun i (h : i < a.size) => byteAt_get a i h)
  have HGB := hide (fun i (h : i < b.size) => byteAt_get b i h)
  have HG : Hid (∀ i j (hi : i < a.size) (hj : j < b.size), (((a[i].toNat : Int) == (b[j].toNat : Int)) = true ↔ a.data.toList.getD i 0 = b.data.toList.getD j 0)) := hide (fun i j hi hj => by
    rw [HGA.out i hi, HGB.out j hj]
    unfold byteAt
    constructor
    · intro h; have := eq_of_beq h; exact UInt8.toNat_inj.1 (by omega)
    · intro h; rw [h]; simp)
  have HZ := hide (fun i => lc_zero a.data.toList b.data.toList i)
  have HF := hide (fun j => lc_first a.data.toList b.data.toList j)
  have HN := hide (fun i j => lc_next a.data.toList b.data.toList i j)
  have HLE := hide (fun i j => lc_le a.data.toList b.data.toList i j)
  generalize lc a.data.toList b.data.toList = lcf at *
  have hmk := fun W => made_row (b.size + 1) (by omega) W
  simp only [show ((b.size + 1 : Nat) : Int) = (b.size : Int) + 1 by omega] at hmk
  have HZR := hide (fun t (ht : t < b.size + 1) => show (icc (zr (b.size + 1)))[t]? = some (.int .i64 0) by simp [icc, zr, ht])
  have HZN := hide (show (icc (zr (b.size + 1))).toArray.size = b.size + 1 by simp [icc, zr])
  clear ha hb ha1 hb1 ha2 hb2 n3 n4 HGA HGB
  generalize (icc (zr (b.size + 1))) = ZR at *
  have hwn := IntWalk.i64_in ((b.size : Int) + 1) ⟨by omega, by omega⟩
  go_enter Tryd.func43, Tryd.ntmps43
  go_wp2_with fail
  refine (HL1.out w).mono ?_
  rintro e w1 ⟨rfl, hB1⟩
  go_wp2_with fail
  refine (HL2.out w1).mono ?_
  rintro e w2 ⟨rfl, hb2⟩
  have hB2 := hB1.trans (hb2.mono hB1.size)
  have hz2 := hB2.size
  clear hB1 hb2
  have hB3 := hB2.alloc hB2.size (.cells ZR.toArray 2)
  have hr3 := rangeAt_new w2 ZR 2
  go_wp2
  go_loopw [7, 8] (fun br I wr => ∃ i X : Nat, i ≤ a.size ∧ I = .int .i64 i ∧ br = .slice (some ⟨X, 0, none⟩) (b.size + 1) (b.size + 1) ∧ w.heap.size ≤ X ∧ X < wr.heap.size ∧ Hid (∀ t, t ≤ b.size → wr.cell? ⟨X, t, none⟩ = some (.int .i64 (lcf i t : Nat))) ∧ Below w.heap.size w wr)
    (fun _ I _ => a.size - (intOf I).toNat)
  case atStart => exact ⟨0, w2.heap.size, Nat.zero_le _, rfl, rfl, hz2, by simp, hide (fun t ht => by rw [HF.out]; exact rangeAt_cell hr3 (HZR.out t (by omega))), hB3⟩
  case round =>
    obtain ⟨i, X, hi, rfl, rfl, hX, hXs, hrow, hB⟩ := hrel
    obtain ⟨w5, hw5⟩ : ∃ w5, w5 = wr := ⟨_, rfl⟩
    subst hw5
    clear hr3 hB3
    by_cases hlt : i < a.size
    · have i1 : (i : Int) < a.size := by omega
      have i0 : (0 : Int) ≤ i := by omega
      have hrY := rangeAt_new w5 ZR 2
      have htY : (w5.alloc (.cells ZR.toArray 2)).there w5.heap.size 0 (b.size + 1) := there_newg rfl HZN.out
      have hbY : Below w5.heap.size w5 (w5.alloc (.cells ZR.toArray 2)) := (Below.refl _ _).alloc (Nat.le_refl _) _
      have hzY : w5.heap.size < (w5.alloc (.cells ZR.toArray 2)).heap.size := by simp
      go_wp2
      generalize (w5.alloc (.cells ZR.toArray 2)) = W0 at *
      go_loopw [10] (fun J wr => ∃ j : Nat, j ≤ b.size ∧ J = .int .i64 j ∧ w5.heap.size < wr.heap.size ∧ Hid (∀ t, t ≤ b.size → wr.cell? ⟨w5.heap.size, t, none⟩ = some (.int .i64 (if t ≤ j then (lcf (i + 1) t : Nat) else 0))) ∧ wr.there w5.heap.size 0 (b.size + 1) ∧ Below w5.heap.size w5 wr)
        (fun J _ => b.size - (intOf J).toNat)
      case atStart =>
        refine ⟨0, Nat.zero_le _, rfl, hzY, hide (fun t ht => ?_), htY, hbY⟩
        rw [rangeAt_cell hrY (HZR.out t (by omega))]
        split
        · obtain rfl : t = 0 := by omega
          rw [HZ.out]; rfl
        · rfl
      case round =>
        obtain ⟨j, hj, rfl, hzj, hnew, ht, hBj⟩ := hrel
        by_cases hltj : j < b.size
        · have j1 : (j : Int) < b.size := by omega
          have j0 : (0 : Int) ≤ j := by omega
          have j2 : (j : Int) + 1 < (b.size : Int) + 1 := by omega
          have j3 : (0 : Int) ≤ (j : Int) + 1 := by omega
          have j4 : (j : Int) < (b.size : Int) + 1 := by omega
          have j5 : ((j : Int) + 1).toNat = j + 1 := by omega
          have j6 := IntWalk.i64_in ((j : Int) + 1) ⟨by omega, by omega⟩
          have cX1 : wr.cell? ⟨X, j + 1, none⟩ = some (.int .i64 (lcf i (j + 1) : Nat)) := (hBj.cell (p := ⟨X, j + 1, none⟩) hXs).trans (hrow.out (j + 1) (by omega))
          have cX0 : wr.cell? ⟨X, j, none⟩ = some (.int .i64 (lcf i j : Nat)) := (hBj.cell (p := ⟨X, j, none⟩) hXs).trans (hrow.out j (by omega))
          have cY0 : wr.cell? ⟨w5.heap.size, j, none⟩ = some (.int .i64 (lcf (i + 1) j : Nat)) := by rw [hnew.out j (by omega), if_pos (Nat.le_refl _)]
          have cY1 : wr.cell? ⟨w5.heap.size, j + 1, none⟩ = some (.int .i64 0) := by rw [hnew.out (j + 1) (by omega), if_neg (by omega)]
          have fY1 := (ht (j + 1) (by omega)).2
          simp only [Nat.zero_add] at fY1
          have u1 := HLE.out i (j + 1)
          have u2 := HLE.out i j
          have u3 := HLE.out (i + 1) j
          have HNX := hide (HN.out i j)
          have HEQ := hide (HG.out i j hlt hltj)
          generalize lcf i (j + 1) = p1 at *
          generalize lcf i j = p0 at *
          generalize hq0 : lcf (i + 1) j = q0 at *
          clear hmk HL1 HL2 hrY htY hbY hzY
          go_wp2
          go_region_held3 (fun w' => w'.cell? ⟨X, j + 1, none⟩ = some (.int .i64 (p1 : Nat)) ∧ w'.cell? ⟨w5.heap.size, j, none⟩ = some (.int .i64 (q0 : Nat))) (first | exact ⟨cX1, cY0⟩ | exact ⟨(World.cell?_setCell_other _ _ _ _ (by intro h; injection h with h1 h2; omega)).trans cX1, (World.cell?_setCell_other _ _ _ _ (by intro h; injection h with h1 h2; omega)).trans cY0⟩) (first | (go_at_call 62; refine (l00Max_any _ _ _).mono ?_; rintro e w7 ⟨rfl, rfl⟩))
          obtain ⟨w8, hw8⟩ : ∃ w8, w8 = (wr.setCell ⟨w5.heap.size, j + 1, none⟩ (.int .i64 (max (p1 : Int) (q0 : Int)))).drew := ⟨_, rfl⟩
          rw [← hw8]
          have dX0 : w8.cell? ⟨X, j, none⟩ = some (.int .i64 (p0 : Nat)) := by rw [hw8]; exact (World.cell?_setCell_other _ _ _ _ (by intro h; injection h with h1 h2; omega)).trans cX0
          have dY0 : w8.cell? ⟨w5.heap.size, j, none⟩ = some (.int .i64 (q0 : Nat)) := by rw [hw8]; exact (World.cell?_setCell_other _ _ _ _ (by intro h; injection h with h1 h2; omega)).trans cY0
          have dY1 : w8.cell? ⟨w5.heap.size, j + 1, none⟩ = some (.int .i64 (max (p1 : Int) (q0 : Int))) := by rw [hw8]; exact World.cell?_setCell_same' _ _ _ (by rw [cY1]; rfl)
          have dN : ∀ t, t ≤ b.size → t ≠ j + 1 → w8.cell? ⟨w5.heap.size, t, none⟩ = wr.cell? ⟨w5.heap.size, t, none⟩ := fun t _ h' => by rw [hw8]; exact World.cell?_setCell_other _ _ _ _ (by intro h; injection h with h1 h2; omega)
          have tt8 : w8.there w5.heap.size 0 (b.size + 1) := by rw [hw8]; exact there_set ht _ _
          have B8 : Below w5.heap.size w5 w8 := by rw [hw8]; exact (hBj.setCell (p := ⟨w5.heap.size, j + 1, none⟩) (Nat.le_refl _) _).drew
          have z8 : w5.heap.size < w8.heap.size := by rw [hw8]; show _ < (wr.setCell _ _).heap.size; rw [size_setCell]; exact hzj
          have fd1 := (tt8 (j + 1) (by omega)).2
          simp only [Nat.zero_add] at fd1
          have HDN := hide dN
          clear hw8 cX0 cX1 cY0 cY1 ht hBj hzj fY1 dN
          cases hq : ((a[i].toNat : Int) == (b[j].toNat : Int))
          · have hne : ¬ (a.data.toList.getD i 0 = b.data.toList.getD j 0) := fun h => by rw [HEQ.out.2 h] at hq; cases hq
            have HNX2 := hide (HNX.out.trans (if_neg hne))
            clear hne HNX HEQ
            go_wp2
            go_region
            go_wp2
            refine ⟨⟨j + 1, by omega, by go_num, z8, hide (fun t ht => ?_), tt8, B8.drew⟩, by simp [intOf]; omega⟩
            by_cases e : t = j + 1
            · subst e
              rw [if_pos (Nat.le_refl _), HNX2.out]
              exact dY1.trans (by congr 2; omega)
            · refine (HDN.out t ht e).trans ((hnew.out t ht).trans ?_)
              by_cases e2 : t ≤ j
              · rw [if_pos e2, if_pos (by omega)]
              · rw [if_neg e2, if_neg (by omega)]
          · have heq := HEQ.out.1 hq
            have HNX2 := hide (HNX.out.trans (if_pos heq))
            have e9 := IntWalk.i64_in ((p0 : Int) + 1) ⟨by omega, by omega⟩
            clear heq HNX HEQ
            go_wp2
            go_region
            go_wp2
            go_region_law (first | (go_simp; go_at_call 62; refine (l00Max_any _ _ _).mono ?_; rintro e w7 ⟨rfl, rfl⟩))
            all_goals
              go_wp2
              refine ⟨⟨j + 1, by omega, by go_num, by show _ < (w8.setCell _ _).heap.size; rw [size_setCell]; exact z8, hide (fun t ht => ?_), there_set tt8 _ _, ((B8.setCell (p := ⟨w5.heap.size, j + 1, none⟩) (Nat.le_refl _) _).drew).drew⟩, by simp [intOf]; omega⟩
              by_cases e : t = j + 1
              · subst e
                rw [if_pos (Nat.le_refl _), HNX2.out]
                exact (World.cell?_setCell_same' _ _ _ (by rw [dY1]; rfl)).trans (by congr 2; omega)
              · refine (World.cell?_setCell_other _ _ _ _ (by intro h; injection h with h1 h2; omega)).trans ((HDN.out t ht e).trans ((hnew.out t ht).trans ?_))
                by_cases e2 : t ≤ j
                · rw [if_pos e2, if_pos (by omega)]
                · rw [if_neg e2, if_neg (by omega)]
        · obtain rfl : j = b.size := by omega
          have HRW : Hid (∀ t, t ≤ b.size → wr.cell? ⟨w5.heap.size, t, none⟩ = some (.int .i64 (lcf (i + 1) t : Nat))) := hide (fun t ht => by rw [hnew.out t ht, if_pos ht])
          have hz5 := hB.size
          clear hmk HL1 HL2 hrY htY hbY hzY
          go_wp2
          exact ⟨⟨i + 1, w5.heap.size, by omega, by go_num, rfl, hz5, hzj, HRW, hB.trans (hBj.mono hB.size)⟩, by simp [intOf]; omega⟩
    · obtain rfl : i = a.size := by omega
      have c0 := hrow.out b.size (Nat.le_refl _)
      have j1 : (b.size : Int) < (b.size : Int) + 1 := by omega
      have u1 := HLE.out a.size b.size
      have e9 := IntWalk.i64_in ((b.size : Int) - (lcf a.size b.size : Nat)) ⟨by omega, by omega⟩
      clear hmk HL1 HL2
      go_wp2
      go_ret
      exact ⟨ret_int HR.out.symm, hB⟩
end Go.Proofs.YtnanminbnfgcfaaDoor
