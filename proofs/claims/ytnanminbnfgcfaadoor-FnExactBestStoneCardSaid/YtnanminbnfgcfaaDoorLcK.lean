/- The program's count of the letters that are to be cut. -/
import Derived.Test.YtnanminbnfgcfaaDoorLcI
namespace Go.Proofs.YtnanminbnfgcfaaDoor
open Go Go.RowKit

theorem Tryd.infoBs : (Tryd.prog.info? 68).map (fun i => (i.zero, i.size, i.bytes)) = some (some (.slice none 0 0), 1, 24) := by kernel_rfl
def nr (n : Nat) : List Value := List.replicate n (.slice none 0 0)
theorem made_rows (n : Nat) (h : n ≤ 1000) (W : World) : Sem.run Tryd.prog (Instr.makeSlice 109 (.int .i64 (n : Int)) (.int .i64 (n : Int))) W = .ok (.slice (some ⟨W.heap.size, 0, none⟩) n n) (W.alloc (.cells (nr n).toArray 68)) := by
  obtain ⟨i0, hi0, hz0, hz1, hz2⟩ := info_parts Tryd.infoBs
  have h := run_make_rowN (P := Tryd.prog) 109 68 i0 _ Tryd.underlying109 hi0 hz0 .i64 .i64 n n (Nat.le_refl _) (by rw [hz2]; omega) (by omega) W
  rw [hz1] at h
  have e : madeCells (Value.slice none 0 0).cells (n * 1) = (nr n).toArray := by
    rw [Nat.mul_one]
    apply Array.ext
    · simp [madeCells, nr]
    · intro i h1 h2
      simp [madeCells, nr]
      show (#[Value.slice none 0 0] : Array Value)[i % 1]! = _
      rw [Nat.mod_one]
      rfl
  rw [e] at h
  exact h

set_option maxRecDepth 100000 in
set_option maxHeartbeats 8000000 in
theorem keptLetters_any (a b : ByteArray) (n1 : a.size ≤ 60) (n2 : b.size ≤ 60) (w : World) :
    Calls Tryd.prog 63 #[.string a, .string b] w fun e w' => ∃ v, e = .returned v ∧ SlAt w' w'.heap.size v (lc a.data.toList b.data.toList a.size b.size) ∧ Below w.heap.size w w' := by
  have HGA := hide (fun i (h : i < a.size) => byteAt_get a i h)
  have HGB := hide (fun i (h : i < b.size) => byteAt_get b i h)
  have HG : Hid (∀ i j (hi : i < a.size) (hj : j < b.size), (((a[i].toNat : Int) == (b[j].toNat : Int)) = true ↔ a.data.toList.getD i 0 = b.data.toList.getD j 0)) := hide (fun i j hi hj => by
    rw [HGA.out i hi, HGB.out j hj]
    unfold byteAt
    constructor
    · intro h; have := eq_of_beq h; exact UInt8.toNat_inj.1 (by omega)
    · intro h; rw [h]; simp)
  have HZ := hide (fun i => lc_zero a.data.toList b.data.toList i)
  have HF := hide (fun j => lc_first a.data.toList b.data.toList j)
  have HSA := hide (fun i j (h : a.data.toList.getD i 0 = b.data.toList.getD j 0) => lc_same h)
  have HOT := hide (fun i j (h : a.data.toList.getD i 0 ≠ b.data.toList.getD j 0) => lc_other h)
  have HLE := hide (fun i j => lc_le a.data.toList b.data.toList i j)
  generalize lc a.data.toList b.data.toList = lcf at *
  have hmk := fun W => made_rows (b.size + 1) (by omega) W
  simp only [show ((b.size + 1 : Nat) : Int) = (b.size : Int) + 1 by omega] at hmk
  have HZR := hide (fun t (ht : t < b.size + 1) => show (nr (b.size + 1))[t]? = some (.slice none 0 0) by simp [nr, ht])
  have HZN := hide (show (nr (b.size + 1)).toArray.size = b.size + 1 by simp [nr])
  clear HGA HGB
  generalize (nr (b.size + 1)) = ZR at *
  have hwn := IntWalk.i64_in ((b.size : Int) + 1) ⟨by omega, by omega⟩
  have hB3 := (Below.refl w.heap.size w).alloc (Nat.le_refl _) (.cells ZR.toArray 68)
  have hr3 := rangeAt_new w ZR 68
  go_enter Tryd.func63, Tryd.ntmps63
  go_wp2
  go_loopw [5, 15] (fun br I wr => ∃ i X : Nat, i ≤ a.size ∧ I = .int .i64 i ∧ br = .slice (some ⟨X, 0, none⟩) (b.size + 1) (b.size + 1) ∧ w.heap.size ≤ X ∧ X < wr.heap.size ∧ Hid (∀ t, t ≤ b.size → ∃ v, wr.cell? ⟨X, t, none⟩ = some v ∧ SlAt wr wr.heap.size v (lcf i t)) ∧ Below w.heap.size w wr)
    (fun _ I _ => a.size - (intOf I).toNat)
  case atStart => exact ⟨0, w.heap.size, Nat.zero_le _, rfl, rfl, Nat.le_refl _, by simp, hide (fun t ht => ⟨_, rangeAt_cell hr3 (HZR.out t (by omega)), .inl ⟨rfl, HF.out t⟩⟩), hB3⟩
  case round =>
    obtain ⟨i, X, hi, rfl, rfl, hX, hXs, hrow, hB⟩ := hrel
    obtain ⟨w5, hw5⟩ : ∃ w5, w5 = wr := ⟨_, rfl⟩
    subst hw5
    clear hr3 hB3
    by_cases hlt : i < a.size
    · have i1 : (i : Int) < a.size := by omega
      have i0 : (0 : Int) ≤ i := by omega
      have hrY := rangeAt_new w5 ZR 68
      have htY : (w5.alloc (.cells ZR.toArray 68)).there w5.heap.size 0 (b.size + 1) := there_newg rfl HZN.out
      have hbY : Below w5.heap.size w5 (w5.alloc (.cells ZR.toArray 68)) := (Below.refl _ _).alloc (Nat.le_refl _) _
      have hzY : w5.heap.size < (w5.alloc (.cells ZR.toArray 68)).heap.size := by simp
      go_wp2
      generalize (w5.alloc (.cells ZR.toArray 68)) = W0 at *
      go_loopw [25] (fun J wr => ∃ j : Nat, j ≤ b.size ∧ J = .int .i64 j ∧ w5.heap.size < wr.heap.size ∧ Hid (∀ t, t ≤ b.size → ∃ v, wr.cell? ⟨w5.heap.size, t, none⟩ = some v ∧ SlAt wr w5.heap.size v (if t ≤ j then lcf (i + 1) t else 0)) ∧ wr.there w5.heap.size 0 (b.size + 1) ∧ Below w5.heap.size w5 wr)
        (fun J _ => b.size - (intOf J).toNat)
      case atStart =>
        refine ⟨0, Nat.zero_le _, rfl, hzY, hide (fun t ht => ⟨_, rangeAt_cell hrY (HZR.out t (by omega)), .inl ⟨rfl, ?_⟩⟩), htY, hbY⟩
        split
        · obtain rfl : t = 0 := by omega
          exact HZ.out _
        · rfl
      case round =>
        obtain ⟨j, hj, rfl, hzj, hnew, ht, hBj⟩ := hrel
        by_cases hltj : j < b.size
        · have j1 : (j : Int) < b.size := by omega
          have j0 : (0 : Int) ≤ j := by omega
          have j2 : (j : Int) + 1 < (b.size : Int) + 1 := by omega
          have j3 : (0 : Int) ≤ (j : Int) + 1 := by omega
          have j4 : (j : Int) < (b.size : Int) + 1 := by omega
          have j5 : ((j : Int) + 1).toNat = j + 1 := by omega
          have j6 := IntWalk.i64_in ((j : Int) + 1) ⟨by omega, by omega⟩
          have fY1 := (ht (j + 1) (by omega)).2
          simp only [Nat.zero_add] at fY1
          obtain ⟨vy, cY1, _⟩ := hnew.out (j + 1) (by omega)
          have HEQ := hide (HG.out i j hlt hltj)
          clear hmk hrY htY hbY hzY
          cases hq : ((a[i].toNat : Int) == (b[j].toNat : Int))
          · have hne : ¬ (a.data.toList.getD i 0 = b.data.toList.getD j 0) := fun h => by rw [HEQ.out.2 h] at hq; cases hq
            have HNX := hide (HOT.out i j hne)
            obtain ⟨v1, d1, s1⟩ := hrow.out (j + 1) (by omega)
            obtain ⟨v2, cY0, s2⟩ := hnew.out j (by omega)
            rw [if_pos (Nat.le_refl _)] at s2
            have cX1 := (hBj.cell (p := ⟨X, j + 1, none⟩) hXs).trans d1
            have sX1 := (s1.apart (Nat.le_refl _)).below hBj
            have HLO := hide (fun W (h : Below wr.heap.size wr W) => longer_any v1 v2 _ _ w5.heap.size W (sX1.below h) (s2.below h) (Nat.le_trans (HLE.out _ _) (by omega)) (Nat.le_trans (HLE.out _ _) (by omega)))
            clear hne HEQ d1 s1 s2 sX1
            go_wp2
            go_region
            go_wp2
            go_region_held3 (fun w' => w'.cell? ⟨X, j + 1, none⟩ = some v1 ∧ w'.cell? ⟨w5.heap.size, j, none⟩ = some v2) (first | exact ⟨cX1, cY0⟩ | exact ⟨(World.cell?_setCell_other _ _ _ _ (by intro h; injection h with h1 h2; omega)).trans cX1, (World.cell?_setCell_other _ _ _ _ (by intro h; injection h with h1 h2; omega)).trans cY0⟩) (first | (go_at_call 80; refine (HLO.out _ ((Below.refl _ _).drew.drew)).mono ?_; rintro e w7 ⟨v', rfl, hs7, rfl⟩; obtain ⟨A', c', rfl, hc'⟩ := hs7.form))
            go_wp2
            refine ⟨⟨j + 1, by omega, by go_num, by show _ < (wr.setCell _ _).heap.size; rw [size_setCell]; exact hzj, hide (fun t ht' => ?_), there_set ht _ _, ((hBj.setCell (p := ⟨w5.heap.size, j + 1, none⟩) (Nat.le_refl _) _).drew).drew⟩, by simp [intOf]; omega⟩
            by_cases e : t = j + 1
            · subst e
              rw [if_pos (Nat.le_refl _), HNX.out]
              exact ⟨_, World.cell?_setCell_same' _ _ _ (by rw [cY1]; rfl), hs7.set _ _⟩
            · obtain ⟨v, h1, h2⟩ := hnew.out t ht'
              have e3 : (if t ≤ j + 1 then lcf (i + 1) t else 0) = (if t ≤ j then lcf (i + 1) t else 0) := by
                by_cases e2 : t ≤ j
                · rw [if_pos e2, if_pos (by omega)]
                · rw [if_neg e2, if_neg (by omega)]
              rw [e3]
              exact ⟨v, (World.cell?_setCell_other _ _ _ _ (by intro h; injection h with h1 h2; omega)).trans h1, h2.set _ _⟩
          · have heq := HEQ.out.1 hq
            have HNX := hide (HSA.out i j heq)
            obtain ⟨v1, d1, s1⟩ := hrow.out j (by omega)
            have cX1 := (hBj.cell (p := ⟨X, j, none⟩) hXs).trans d1
            have sX1 := (s1.apart (Nat.le_refl _)).below hBj
            have HWI := hide (fun W (h : Below wr.heap.size wr W) => with_any v1 _ w5.heap.size (a[i].toNat : Int) W (Nat.le_trans (HLE.out _ _) (by omega)) (sX1.below h) (Nat.lt_of_lt_of_le hzj h.size))
            have HFZ : Hid (∀ W, Below wr.heap.size wr W → W.frozen? ⟨w5.heap.size, j + 1, none⟩ = false) := hide (fun W h => by
              have q := (there_below ht h hzj (j + 1) (by omega)).2
              simpa using q)
            have HCY : Hid (∀ W, Below wr.heap.size wr W → W.cell? ⟨w5.heap.size, j + 1, none⟩ = some vy) := hide (fun W h => (h.cell (p := ⟨w5.heap.size, j + 1, none⟩) hzj).trans cY1)
            clear heq HEQ d1 s1 sX1
            go_wp2
            go_region
            go_wp2
            go_region_held3 (fun w' => w'.cell? ⟨X, j, none⟩ = some v1) (first | exact cX1 | exact (Below.cell (p := ⟨X, j, none⟩) (by assumption) (Nat.lt_of_lt_of_le hXs (Nat.le_of_lt hzj))).trans cX1 | exact (World.cell?_setCell_other _ _ _ _ (by intro h; injection h with h1 h2; omega)).trans ((Below.cell (p := ⟨X, j, none⟩) (by assumption) (Nat.lt_of_lt_of_le hXs (Nat.le_of_lt hzj))).trans cX1)) (first | (go_at_call 79; refine (HWI.out _ ((Below.refl _ _).drew.drew)).mono ?_; rintro e w7 ⟨v', rfl, hs7, hb7⟩; obtain ⟨A', c', rfl, hc'⟩ := hs7.form; replace hb7 : Below wr.heap.size wr w7 := ((Below.refl _ _).drew.drew).trans hb7; have fY7 := HFZ.out w7 hb7; have cY7 := HCY.out w7 hb7))
            go_wp2
            refine ⟨⟨j + 1, by omega, by go_num, by rw [size_setCell]; exact Nat.lt_of_lt_of_le hzj hb7.size, hide (fun t ht' => ?_), there_set (there_below ht hb7 hzj) _ _, (hBj.trans (hb7.mono hBj.size)).setCell (p := ⟨w5.heap.size, j + 1, none⟩) (Nat.le_refl _) _⟩, by simp [intOf]; omega⟩
            by_cases e : t = j + 1
            · subst e
              rw [if_pos (Nat.le_refl _), HNX.out]
              exact ⟨_, World.cell?_setCell_same' _ _ _ (by rw [cY7]; rfl), hs7.set _ _⟩
            · obtain ⟨v, h1, h2⟩ := hnew.out t ht'
              have e3 : (if t ≤ j + 1 then lcf (i + 1) t else 0) = (if t ≤ j then lcf (i + 1) t else 0) := by
                by_cases e2 : t ≤ j
                · rw [if_pos e2, if_pos (by omega)]
                · rw [if_neg e2, if_neg (by omega)]
              rw [e3]
              exact ⟨v, (World.cell?_setCell_other _ _ _ _ (by intro h; injection h with h1 h2; omega)).trans ((hb7.cell (p := ⟨w5.heap.size, t, none⟩) hzj).trans h1), (h2.below hb7).set _ _⟩
        · obtain rfl : j = b.size := by omega
          have HRW : Hid (∀ t, t ≤ b.size → ∃ v, wr.cell? ⟨w5.heap.size, t, none⟩ = some v ∧ SlAt wr wr.heap.size v (lcf (i + 1) t)) := hide (fun t ht' => by
            obtain ⟨v, h1, h2⟩ := hnew.out t ht'
            rw [if_pos ht'] at h2
            exact ⟨v, h1, h2.apart (Nat.le_refl _)⟩)
          have hz5 := hB.size
          clear hmk hrY htY hbY hzY
          go_wp2
          exact ⟨⟨i + 1, w5.heap.size, by omega, by go_num, rfl, hz5, hzj, HRW, hB.trans (hBj.mono hB.size)⟩, by simp [intOf]; omega⟩
    · obtain rfl : i = a.size := by omega
      obtain ⟨v0, c0, s0⟩ := hrow.out b.size (Nat.le_refl _)
      have j1 : (b.size : Int) < (b.size : Int) + 1 := by omega
      have S0 := hide s0
      clear hmk s0
      go_wp2
      go_ret
      exact ⟨v0, rfl, S0.out, hB⟩

set_option maxRecDepth 100000 in
set_option maxHeartbeats 4000000 in
theorem toCut_any (s m : ByteArray) (hs : s.size ≤ 60) (hm : m.size ≤ 60) (w : World) (hG : Glob w) :
    Calls Tryd.prog 44 #[.string s, .string m] w fun e w' => e = .returned (.int .i64 (cutL s.data.toList m.data.toList)) ∧ Below w.heap.size w w' := by
  have HL1 := hide (fun W hW => lettersOf_any s W (by omega) hW)
  have HL2 := hide (fun W hW => lettersOf_any m W (by omega) hW)
  have HG := hide hG
  have HR : Hid (cutL s.data.toList m.data.toList = ((lettL m.data.toList).length : Int) - (lc (lettL s.data.toList) (lettL m.data.toList) (lettL s.data.toList).length (lettL m.data.toList).length : Nat)) := hide rfl
  have n1 := lettL_len s.data.toList
  have n2 := lettL_len m.data.toList
  have n3 : s.data.toList.length = s.size := by simp
  have n4 : m.data.toList.length = m.size := by simp
  rw [n3] at n1
  rw [n4] at n2
  generalize cutL s.data.toList m.data.toList = R at *
  obtain ⟨a, ha⟩ : ∃ a : ByteArray, a = ⟨(lettL s.data.toList).toArray⟩ := ⟨_, rfl⟩
  obtain ⟨b, hb⟩ : ∃ b : ByteArray, b = ⟨(lettL m.data.toList).toArray⟩ := ⟨_, rfl⟩
  have ha1 : a.data.toList = lettL s.data.toList := by rw [ha]
  have hb1 : b.data.toList = lettL m.data.toList := by rw [hb]
  have ha2 : a.size = (lettL s.data.toList).length := by rw [ha]; exact lettB_size _
  have hb2 : b.size = (lettL m.data.toList).length := by rw [hb]; exact lettB_size _
  rw [← ha] at HL1
  rw [← hb] at HL2
  rw [← ha2] at n1
  rw [← hb2] at n2
  rw [← ha2, ← hb2, ← ha1, ← hb1] at HR
  have HK := hide (fun W => keptLetters_any a b (by omega) (by omega) W)
  have HLE := hide (lc_le a.data.toList b.data.toList a.size b.size)
  generalize lc a.data.toList b.data.toList a.size b.size = q at *
  have hq := HLE.out
  have e9 := IntWalk.i64_in ((b.size : Int) - (q : Nat)) ⟨by omega, by omega⟩
  clear ha hb ha1 hb1 ha2 hb2 n3 n4 hG HLE hq
  go_enter Tryd.func44, Tryd.ntmps44
  go_wp2_with fail
  refine (HL2.out w HG.out).mono ?_
  rintro e w1 ⟨rfl, hB1⟩
  go_wp2_with fail
  refine (HL1.out w1 (HG.out.below hB1)).mono ?_
  rintro e w2 ⟨rfl, hb2⟩
  have hB2 := hB1.trans (hb2.mono hB1.size)
  go_wp2_with fail
  refine (HK.out w2).mono ?_
  rintro e w3 ⟨v, rfl, hv, hb3⟩
  obtain ⟨A3, c3, rfl, hc3⟩ := hv.form
  have hB3 := hB2.trans (hb3.mono hB2.size)
  clear hv
  go_wp2
  go_ret
  exact ⟨ret_int HR.out.symm, hB3⟩
end Go.Proofs.YtnanminbnfgcfaaDoor
