/- OldSystem of the model and of the program. -/
import Derived.Test.YtgklhdacnklhdaaOldS
namespace Go.Proofs.Ytgklhdacnklhdaa
open Go.RowKit

def osR (q : Bool) : Sy := if q = true then ⟨oldSg, []⟩ else OldS
theorem OldS_ok : OldS.ok := ⟨by simp [OldS, oldSg, u8ok, i16ok], by simp [OldS, oldMn, u8ok], by decide, by decide⟩
theorem osR_ok (q : Bool) : (osR q).ok := by
  cases q
  · exact OldS_ok
  · exact ⟨OldS_ok.sg, fun _ h => (by cases h), OldS_ok.n, by show 0 ≤ maxLen; omega⟩
theorem osR_len (q : Bool) : (osR q).sg.length ≤ 1048576 ∧ (osR q).mn.length ≤ 1048576 := by cases q <;> exact ⟨by decide, by decide⟩

theorem rows_of_flat {α : Type} {z : Nat} {c : α → List Value} (hl : ∀ a, (c a).length = z) {w : World} {b : Nat} {xs : List α} (h : w.rangeAt b 0 (xs.flatMap c)) : ∀ k x, xs[k]? = some x → w.rangeAt b (0 + k * z) (c x) := fun k x hx j v hv => by
  have := h (k * z + j) v (flatG_get hl hx hv)
  simpa [Nat.add_assoc] using this

set_option maxRecDepth 100000 in
set_option maxHeartbeats 8000000 in
theorem specOldSystem_any (q : Bool) (w : World) : Calls Try.prog 45 #[.bool q] w (SysRet (osR q) w) := by
  have b0 : Below w.heap.size w (w.alloc (.cells #[.slice none 0 0, .slice none 0 0] 69)) := (Below.refl _ _).alloc (Nat.le_refl _) _
  have t0 : (w.alloc (.cells #[.slice none 0 0, .slice none 0 0] 69)).there w.heap.size 0 2 := there_newg rfl rfl
  have s0 : w.heap.size < (w.alloc (.cells #[.slice none 0 0, .slice none 0 0] 69)).heap.size := by simp
  have H := hide (l03Old_any (w.alloc (.cells #[.slice none 0 0, .slice none 0 0] 69)))
  cases q
  · go_enter Try.func45, Try.ntmps45
    go_wp2_with fail
    refine H.out.mono ?_
    rintro e w1 ⟨A, D, c, d, rfl, hP, hb1⟩
    have t1 := there_below t0 hb1 s0
    have z1 := hb1.size
    have b1 := b0.trans (hb1.mono b0.size)
    generalize (w.alloc (.cells #[.slice none 0 0, .slice none 0 0] 69)) = W0 at *
    have hb2 : Below w1.heap.size w1 (w1.alloc (.cells #[.slice A OldS.sg.length c, .slice D OldS.mn.length d] 69)) := (Below.refl _ _).alloc (Nat.le_refl _) _
    have t2 := there_below t1 hb2 (by omega)
    obtain ⟨u0, d0, f0⟩ := there_some t2 (j := 0) (by omega)
    obtain ⟨u1, d1, f1⟩ := there_some t2 (j := 1) (by omega)
    simp only [Nat.zero_add] at d0 d1 f0 f1
    have b2 := b1.trans (hb2.mono b1.size)
    have HP := hide (hP.go hb2)
    have HBS := hide (And.intro (hP.go hb2).sg.blk (hP.go hb2).mn.blk)
    have HIN := hide (fun W (g : (w1.alloc (.cells #[.slice A OldS.sg.length c, .slice D OldS.mn.length d] 69)).grownBy W (some w.heap.size)) => show SyIn W w.heap.size A D OldS from
      ⟨(grown_rowsIn g HP.out.sg (fun b hb e => by have := HBS.out.1 b hb; injection e with e; omega)).wider (by omega), (grown_rowsIn g HP.out.mn (fun b hb e => by have := HBS.out.2 b hb; injection e with e; omega)).wider (by omega), HP.out.ap⟩)
    clear hP t0 t1 t2
    go_wp2
    exact bodyPost_ret (results_mid rfl _ _ w.heap.size 0 [.slice A OldS.sg.length c, .slice D OldS.mn.length d] _ rfl (two_stored d0 d1 _ _) Try.underlying69 rfl (by kernel_rfl)) rfl
      ⟨A, D, c, d, rfl, HIN.out _ (grown_set (grown_set (grown_refl _ _) _ _) _ _), (b2.setCell (p := ⟨w.heap.size, 0, none⟩) (Nat.le_refl _) _).setCell (p := ⟨w.heap.size, 1, none⟩) (Nat.le_refl _) _⟩
  · go_enter Try.func45, Try.ntmps45
    go_wp2_with fail
    refine H.out.mono ?_
    rintro e w1 ⟨A, D, c, d, rfl, hP, hb1⟩
    have t1 := there_below t0 hb1 s0
    have z1 := hb1.size
    have b1 := b0.trans (hb1.mono b0.size)
    generalize (w.alloc (.cells #[.slice none 0 0, .slice none 0 0] 69)) = W0 at *
    have hb2 : Below w1.heap.size w1 ((w1.alloc (.cells #[.slice A OldS.sg.length c, .slice (some ⟨w1.heap.size + 1, 0, none⟩) 0 0] 69)).alloc (.cells #[] 144)) := ((Below.refl _ _).alloc (Nat.le_refl _) _).alloc (by simp) _
    have t2 := there_below t1 hb2 (by omega)
    obtain ⟨u0, d0, f0⟩ := there_some t2 (j := 0) (by omega)
    obtain ⟨u1, d1, f1⟩ := there_some t2 (j := 1) (by omega)
    simp only [Nat.zero_add] at d0 d1 f0 f1
    have b2 := b1.trans (hb2.mono b1.size)
    have HP := hide (hP.go hb2)
    have HBS := hide (And.intro (hP.go hb2).sg.blk (hP.go hb2).mn.blk)
    have HIN := hide (fun W (g : ((w1.alloc (.cells #[.slice A OldS.sg.length c, .slice (some ⟨w1.heap.size + 1, 0, none⟩) 0 0] 69)).alloc (.cells #[] 144)).grownBy W (some w.heap.size)) => show SyIn W w.heap.size A (some ⟨w1.heap.size + 1, 0, none⟩) ⟨oldSg, []⟩ from
      ⟨(grown_rowsIn g HP.out.sg (fun b hb e => by have := HBS.out.1 b hb; injection e with e; omega)).wider (by omega), RowsIn.empty _ _ _, fun k _ h => by cases h⟩)
    clear hP t0 t1 t2
    go_wp2
    exact bodyPost_ret (results_mid rfl _ _ w.heap.size 0 [.slice A OldS.sg.length c, .slice (some ⟨w1.heap.size + 1, 0, none⟩) 0 0] _ rfl (two_stored d0 d1 _ _) Try.underlying69 rfl (by kernel_rfl)) rfl
      ⟨A, some ⟨w1.heap.size + 1, 0, none⟩, c, 0, rfl, HIN.out _ (grown_set (grown_set (grown_refl _ _) _ _) _ _), (b2.setCell (p := ⟨w.heap.size, 0, none⟩) (Nat.le_refl _) _).setCell (p := ⟨w.heap.size, 1, none⟩) (Nat.le_refl _) _⟩

set_option maxRecDepth 100000 in
set_option maxHeartbeats 8000000 in
theorem implOldSystem_any (q : Bool) (w : World) : Calls Try.prog 46 #[.bool q] w (SysRet (osR q) w) := by
  cases q
  · have r0 : ((((w.alloc (.cells #[.slice (some ⟨w.heap.size + 1, 0, none⟩) 7 7, .slice (some ⟨w.heap.size + 1 + 1 + 1, 0, none⟩) 6 6] 69)).alloc (.cells #[.int .u8 77, .int .i16 1000, .int .u8 68, .int .i16 500, .int .u8 67, .int .i16 100, .int .u8 76, .int .i16 50, .int .u8 88, .int .i16 10, .int .u8 86, .int .i16 5, .int .u8 73, .int .i16 1] 143)).alloc (.cells #[.slice (some ⟨w.heap.size + 1, 0, none⟩) 7 7, .slice (some ⟨w.heap.size + 1 + 1 + 1, 0, none⟩) 6 6] 69)).alloc (.cells #[.int .u8 67, .int .u8 68, .int .u8 67, .int .u8 77, .int .u8 73, .int .u8 86, .int .u8 73, .int .u8 88, .int .u8 88, .int .u8 67, .int .u8 88, .int .u8 76] 144)).rangeAt w.heap.size 0 [.slice (some ⟨w.heap.size + 1, 0, none⟩) 7 7, .slice (some ⟨w.heap.size + 1 + 1 + 1, 0, none⟩) 6 6] := World.rangeAt_alloc (World.rangeAt_alloc (World.rangeAt_alloc (rangeAt_new w [.slice (some ⟨w.heap.size + 1, 0, none⟩) 7 7, .slice (some ⟨w.heap.size + 1 + 1 + 1, 0, none⟩) 6 6] _) _) _) _
    have r1 : ((((w.alloc (.cells #[.slice (some ⟨w.heap.size + 1, 0, none⟩) 7 7, .slice (some ⟨w.heap.size + 1 + 1 + 1, 0, none⟩) 6 6] 69)).alloc (.cells #[.int .u8 77, .int .i16 1000, .int .u8 68, .int .i16 500, .int .u8 67, .int .i16 100, .int .u8 76, .int .i16 50, .int .u8 88, .int .i16 10, .int .u8 86, .int .i16 5, .int .u8 73, .int .i16 1] 143)).alloc (.cells #[.slice (some ⟨w.heap.size + 1, 0, none⟩) 7 7, .slice (some ⟨w.heap.size + 1 + 1 + 1, 0, none⟩) 6 6] 69)).alloc (.cells #[.int .u8 67, .int .u8 68, .int .u8 67, .int .u8 77, .int .u8 73, .int .u8 86, .int .u8 73, .int .u8 88, .int .u8 88, .int .u8 67, .int .u8 88, .int .u8 76] 144)).rangeAt (w.heap.size + 1) 0 (oldSg.flatMap sgc) := World.rangeAt_alloc (World.rangeAt_alloc (rangeAt_newg (by simp) rfl) _) _
    have t1 : ((((w.alloc (.cells #[.slice (some ⟨w.heap.size + 1, 0, none⟩) 7 7, .slice (some ⟨w.heap.size + 1 + 1 + 1, 0, none⟩) 6 6] 69)).alloc (.cells #[.int .u8 77, .int .i16 1000, .int .u8 68, .int .i16 500, .int .u8 67, .int .i16 100, .int .u8 76, .int .i16 50, .int .u8 88, .int .i16 10, .int .u8 86, .int .i16 5, .int .u8 73, .int .i16 1] 143)).alloc (.cells #[.slice (some ⟨w.heap.size + 1, 0, none⟩) 7 7, .slice (some ⟨w.heap.size + 1 + 1 + 1, 0, none⟩) 6 6] 69)).alloc (.cells #[.int .u8 67, .int .u8 68, .int .u8 67, .int .u8 77, .int .u8 73, .int .u8 86, .int .u8 73, .int .u8 88, .int .u8 88, .int .u8 67, .int .u8 88, .int .u8 76] 144)).there (w.heap.size + 1) 0 (oldSg.length * 2) := World.there_alloc (World.there_alloc (there_newg (by simp) rfl) _) _
    have r3 : ((((w.alloc (.cells #[.slice (some ⟨w.heap.size + 1, 0, none⟩) 7 7, .slice (some ⟨w.heap.size + 1 + 1 + 1, 0, none⟩) 6 6] 69)).alloc (.cells #[.int .u8 77, .int .i16 1000, .int .u8 68, .int .i16 500, .int .u8 67, .int .i16 100, .int .u8 76, .int .i16 50, .int .u8 88, .int .i16 10, .int .u8 86, .int .i16 5, .int .u8 73, .int .i16 1] 143)).alloc (.cells #[.slice (some ⟨w.heap.size + 1, 0, none⟩) 7 7, .slice (some ⟨w.heap.size + 1 + 1 + 1, 0, none⟩) 6 6] 69)).alloc (.cells #[.int .u8 67, .int .u8 68, .int .u8 67, .int .u8 77, .int .u8 73, .int .u8 86, .int .u8 73, .int .u8 88, .int .u8 88, .int .u8 67, .int .u8 88, .int .u8 76] 144)).rangeAt (w.heap.size + 1 + 1 + 1) 0 (oldMn.flatMap a2c) := rangeAt_newg (by simp) rfl
    have t3 : ((((w.alloc (.cells #[.slice (some ⟨w.heap.size + 1, 0, none⟩) 7 7, .slice (some ⟨w.heap.size + 1 + 1 + 1, 0, none⟩) 6 6] 69)).alloc (.cells #[.int .u8 77, .int .i16 1000, .int .u8 68, .int .i16 500, .int .u8 67, .int .i16 100, .int .u8 76, .int .i16 50, .int .u8 88, .int .i16 10, .int .u8 86, .int .i16 5, .int .u8 73, .int .i16 1] 143)).alloc (.cells #[.slice (some ⟨w.heap.size + 1, 0, none⟩) 7 7, .slice (some ⟨w.heap.size + 1 + 1 + 1, 0, none⟩) 6 6] 69)).alloc (.cells #[.int .u8 67, .int .u8 68, .int .u8 67, .int .u8 77, .int .u8 73, .int .u8 86, .int .u8 73, .int .u8 88, .int .u8 88, .int .u8 67, .int .u8 88, .int .u8 76] 144)).there (w.heap.size + 1 + 1 + 1) 0 (oldMn.length * 2) := there_newg (by simp) rfl
    have b0 : Below w.heap.size w ((((w.alloc (.cells #[.slice (some ⟨w.heap.size + 1, 0, none⟩) 7 7, .slice (some ⟨w.heap.size + 1 + 1 + 1, 0, none⟩) 6 6] 69)).alloc (.cells #[.int .u8 77, .int .i16 1000, .int .u8 68, .int .i16 500, .int .u8 67, .int .i16 100, .int .u8 76, .int .i16 50, .int .u8 88, .int .i16 10, .int .u8 86, .int .i16 5, .int .u8 73, .int .i16 1] 143)).alloc (.cells #[.slice (some ⟨w.heap.size + 1, 0, none⟩) 7 7, .slice (some ⟨w.heap.size + 1 + 1 + 1, 0, none⟩) 6 6] 69)).alloc (.cells #[.int .u8 67, .int .u8 68, .int .u8 67, .int .u8 77, .int .u8 73, .int .u8 86, .int .u8 73, .int .u8 88, .int .u8 88, .int .u8 67, .int .u8 88, .int .u8 76] 144)) := ((((Below.refl _ _).alloc (Nat.le_refl _) _).alloc (by simp) _).alloc (by simp only [World.size_alloc]; omega) _).alloc (by simp only [World.size_alloc]; omega) _
    have s0 : ((((w.alloc (.cells #[.slice (some ⟨w.heap.size + 1, 0, none⟩) 7 7, .slice (some ⟨w.heap.size + 1 + 1 + 1, 0, none⟩) 6 6] 69)).alloc (.cells #[.int .u8 77, .int .i16 1000, .int .u8 68, .int .i16 500, .int .u8 67, .int .i16 100, .int .u8 76, .int .i16 50, .int .u8 88, .int .i16 10, .int .u8 86, .int .i16 5, .int .u8 73, .int .i16 1] 143)).alloc (.cells #[.slice (some ⟨w.heap.size + 1, 0, none⟩) 7 7, .slice (some ⟨w.heap.size + 1 + 1 + 1, 0, none⟩) 6 6] 69)).alloc (.cells #[.int .u8 67, .int .u8 68, .int .u8 67, .int .u8 77, .int .u8 73, .int .u8 86, .int .u8 73, .int .u8 88, .int .u8 88, .int .u8 67, .int .u8 88, .int .u8 76] 144)).heap.size = w.heap.size + 1 + 1 + 1 + 1 := by simp
    go_enter Try.func46, Try.ntmps46
    go_wp2
    exact bodyPost_ret (results_mid rfl _ _ w.heap.size 0 [.slice (some ⟨w.heap.size + 1, 0, none⟩) 7 7, .slice (some ⟨w.heap.size + 1 + 1 + 1, 0, none⟩) 6 6] _ rfl r0 Try.underlying69 rfl (by kernel_rfl)) rfl
      ⟨some ⟨w.heap.size + 1, 0, none⟩, some ⟨w.heap.size + 1 + 1 + 1, 0, none⟩, 7, 6, rfl,
        ⟨fun _ => ⟨w.heap.size + 1, 0, rfl, by omega, by omega, rows_of_flat sgcL r1, t1⟩, fun _ => ⟨w.heap.size + 1 + 1 + 1, 0, rfl, by omega, by omega, rows_of_flat a2c_len r3, t3⟩, fun k h1 h2 => by
          obtain rfl : w.heap.size + 1 = k := by simpa [osR, OldS, oldSg, blkR] using h1
          have : w.heap.size + 1 + 1 + 1 = w.heap.size + 1 := by simpa [osR, OldS, oldMn, blkR] using h2
          omega⟩, b0⟩
  · have r0 : (((w.alloc (.cells #[.slice (some ⟨w.heap.size + 1, 0, none⟩) 7 7, .slice none 0 0] 69)).alloc (.cells #[.int .u8 77, .int .i16 1000, .int .u8 68, .int .i16 500, .int .u8 67, .int .i16 100, .int .u8 76, .int .i16 50, .int .u8 88, .int .i16 10, .int .u8 86, .int .i16 5, .int .u8 73, .int .i16 1] 143)).alloc (.cells #[.slice (some ⟨w.heap.size + 1, 0, none⟩) 7 7, .slice none 0 0] 69)).rangeAt w.heap.size 0 [.slice (some ⟨w.heap.size + 1, 0, none⟩) 7 7, .slice none 0 0] := World.rangeAt_alloc (World.rangeAt_alloc (rangeAt_new w [.slice (some ⟨w.heap.size + 1, 0, none⟩) 7 7, .slice none 0 0] _) _) _
    have r1 : (((w.alloc (.cells #[.slice (some ⟨w.heap.size + 1, 0, none⟩) 7 7, .slice none 0 0] 69)).alloc (.cells #[.int .u8 77, .int .i16 1000, .int .u8 68, .int .i16 500, .int .u8 67, .int .i16 100, .int .u8 76, .int .i16 50, .int .u8 88, .int .i16 10, .int .u8 86, .int .i16 5, .int .u8 73, .int .i16 1] 143)).alloc (.cells #[.slice (some ⟨w.heap.size + 1, 0, none⟩) 7 7, .slice none 0 0] 69)).rangeAt (w.heap.size + 1) 0 (oldSg.flatMap sgc) := World.rangeAt_alloc (rangeAt_newg (by simp) rfl) _
    have t1 : (((w.alloc (.cells #[.slice (some ⟨w.heap.size + 1, 0, none⟩) 7 7, .slice none 0 0] 69)).alloc (.cells #[.int .u8 77, .int .i16 1000, .int .u8 68, .int .i16 500, .int .u8 67, .int .i16 100, .int .u8 76, .int .i16 50, .int .u8 88, .int .i16 10, .int .u8 86, .int .i16 5, .int .u8 73, .int .i16 1] 143)).alloc (.cells #[.slice (some ⟨w.heap.size + 1, 0, none⟩) 7 7, .slice none 0 0] 69)).there (w.heap.size + 1) 0 (oldSg.length * 2) := World.there_alloc (there_newg (by simp) rfl) _
    have b0 : Below w.heap.size w (((w.alloc (.cells #[.slice (some ⟨w.heap.size + 1, 0, none⟩) 7 7, .slice none 0 0] 69)).alloc (.cells #[.int .u8 77, .int .i16 1000, .int .u8 68, .int .i16 500, .int .u8 67, .int .i16 100, .int .u8 76, .int .i16 50, .int .u8 88, .int .i16 10, .int .u8 86, .int .i16 5, .int .u8 73, .int .i16 1] 143)).alloc (.cells #[.slice (some ⟨w.heap.size + 1, 0, none⟩) 7 7, .slice none 0 0] 69)) := (((Below.refl _ _).alloc (Nat.le_refl _) _).alloc (by simp) _).alloc (by simp only [World.size_alloc]; omega) _
    have s0 : (((w.alloc (.cells #[.slice (some ⟨w.heap.size + 1, 0, none⟩) 7 7, .slice none 0 0] 69)).alloc (.cells #[.int .u8 77, .int .i16 1000, .int .u8 68, .int .i16 500, .int .u8 67, .int .i16 100, .int .u8 76, .int .i16 50, .int .u8 88, .int .i16 10, .int .u8 86, .int .i16 5, .int .u8 73, .int .i16 1] 143)).alloc (.cells #[.slice (some ⟨w.heap.size + 1, 0, none⟩) 7 7, .slice none 0 0] 69)).heap.size = w.heap.size + 1 + 1 + 1 := by simp
    go_enter Try.func46, Try.ntmps46
    go_wp2
    exact bodyPost_ret (results_mid rfl _ _ w.heap.size 0 [.slice (some ⟨w.heap.size + 1, 0, none⟩) 7 7, .slice none 0 0] _ rfl r0 Try.underlying69 rfl (by kernel_rfl)) rfl
      ⟨some ⟨w.heap.size + 1, 0, none⟩, none, 7, 0, rfl,
        ⟨fun _ => ⟨w.heap.size + 1, 0, rfl, by omega, by omega, rows_of_flat sgcL r1, t1⟩, RowsIn.empty _ _ _, fun k h1 h2 => by cases h2⟩, b0⟩
end Go.Proofs.Ytgklhdacnklhdaa
