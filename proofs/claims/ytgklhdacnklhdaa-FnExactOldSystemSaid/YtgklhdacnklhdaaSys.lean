/- Systems in memory: their copies, how big they are, whether two are equal, marks. -/
import Derived.Test.YtgklhdacnklhdaaA2
namespace Go.Proofs.Ytgklhdacnklhdaa
open Go.RowKit

abbrev sv (S : Sy) (A D : Option Addr) (c d : Nat) : Value := .agg #[.slice A S.sg.length c, .slice D S.mn.length d]
def SyAt (w : World) (B : Nat) (A D : Option Addr) (S : Sy) : Prop := SgAt w B A S.sg ∧ A2At w B D S.mn
structure SyIn (w : World) (L : Nat) (A D : Option Addr) (S : Sy) : Prop where
  sg : SgIn w L A S.sg
  mn : A2In w L D S.mn
  ap : ∀ k, blkR A S.sg = some k → blkR D S.mn ≠ some k
theorem SyAt.below {w w' : World} {B : Nat} {A D : Option Addr} {S : Sy} (h : SyAt w B A D S) (hb : Below B w w') : SyAt w' B A D S := ⟨h.1.below hb, h.2.below hb⟩
theorem SyAt.mono {w : World} {B B' : Nat} {A D : Option Addr} {S : Sy} (h : SyAt w B A D S) (hB : B ≤ B') : SyAt w B' A D S := ⟨h.1.mono hB, h.2.mono hB⟩
theorem SyAt.go {w w' : World} {A D : Option Addr} {S : Sy} (h : SyAt w w.heap.size A D S) (hb : Below w.heap.size w w') : SyAt w' w'.heap.size A D S := (h.below hb).mono hb.size
theorem SyIn.at_ {w : World} {L : Nat} {A D : Option Addr} {S : Sy} (h : SyIn w L A D S) : SyAt w w.heap.size A D S := ⟨h.sg.at_, h.mn.at_⟩
theorem SyIn.go {w w' : World} {L : Nat} {A D : Option Addr} {S : Sy} (h : SyIn w L A D S) (hb : Below w.heap.size w w') : SyIn w' L A D S := ⟨h.sg.go hb, h.mn.go hb, h.ap⟩
theorem SyIn.wider {w : World} {L L' : Nat} {A D : Option Addr} {S : Sy} (h : SyIn w L A D S) (hL : L' ≤ L) : SyIn w L' A D S := ⟨h.sg.wider hL, h.mn.wider hL, h.ap⟩
theorem SyIn.empty (w : World) (L : Nat) (A D : Option Addr) : SyIn w L A D ⟨[], []⟩ := ⟨RowsIn.empty _ _ _, RowsIn.empty _ _ _, fun k h => by cases h⟩

/-- What the size of a system leaves. -/
def szS (l : Int) (S : Sy) : Int := if szL l S.sg.length < 0 then -1 else szL (szL l S.sg.length) S.mn.length
theorem szS_ok {S : Sy} {l : Int} (h1 : l ≤ 1048576) (h : ¬ szS l S < 0) : S.sg.length ≤ 1048576 ∧ S.mn.length ≤ 1048576 ∧ szS l S ≤ 1048576 := by
  unfold szS szL at *
  (repeat' split at h) <;> (repeat' split) <;> omega

theorem szS_bd {S : Sy} {l : Int} (h0 : -1 ≤ l) (h1 : l ≤ 1048576) : -1 ≤ szS l S ∧ szS l S ≤ 1048576 := by
  unfold szS szL
  (repeat' split) <;> omega

set_option maxHeartbeats 1000000 in
theorem szSystem_any (S : Sy) (hS : S.ok) (A D : Option Addr) (c d : Nat) (l : Int) (w : World) (h0 : -1 ≤ l) (h1 : l ≤ 1048576) :
    Calls Try.prog 38 #[sv S A D c d, .int .i64 l] w fun e w' => e = .returned (.int .i64 (szS l S)) ∧ Below w.heap.size w w' := by
  obtain ⟨ps, qs⟩ := S
  have hn := hS.n
  have hm := hS.m
  simp only at hn hm
  have hb : ∀ n, -1 ≤ szL l n ∧ szL l n ≤ 1048576 := fun n => by unfold szL; split <;> omega
  have hs := fun o => (Below.refl w.heap.size w).alloc (Nat.le_refl _) o
  have H1 := hide (fun W => szSignS_any A ps.length c l W h0 h1 hn)
  have H2 := hide (fun W => szByteA2S_any D qs.length d (szL l ps.length) W (hb _).1 (hb _).2 hm)
  have hz : szS l ⟨ps, qs⟩ = if szL l ps.length < 0 then -1 else szL (szL l ps.length) qs.length := rfl
  have HZ := hide hz
  clear hz hb hn hm
  by_cases hneg : szL l ps.length < 0
  · have hd : decide (szL l ps.length < 0) = true := by simpa using hneg
    go_enter Try.func38, Try.ntmps38
    go_wp2_with fail
    refine (H1.out _).mono ?_
    rintro e w' ⟨rfl, rfl⟩
    go_wp2
    go_ret
    exact ⟨ret_int (by rw [HZ.out, if_pos (by omega)]), hs _⟩
  · have hd : decide (szL l ps.length < 0) = false := by simpa using hneg
    go_enter Try.func38, Try.ntmps38
    go_wp2_with fail
    refine (H1.out _).mono ?_
    rintro e w' ⟨rfl, rfl⟩
    go_wp2_with fail
    refine (H2.out _).mono ?_
    rintro e w' ⟨rfl, rfl⟩
    have hz' : szL (szL l ps.length) qs.length < 0 → szL (szL l ps.length) qs.length = -1 := fun h => by unfold szL at h ⊢; split <;> (split at h <;> omega)
    have HZ' := hide hz'
    clear hz'
    rw [if_neg (by omega)] at HZ
    clear hneg
    by_cases h2 : szL (szL l ps.length) qs.length < 0
    · have hd : decide (szL (szL l ps.length) qs.length < 0) = true := by simpa using h2
      go_wp2
      go_ret
      exact ⟨ret_int (by rw [HZ.out, HZ'.out h2]), hs _⟩
    · have hd : decide (szL (szL l ps.length) qs.length < 0) = false := by simpa using h2
      go_wp2
      go_ret
      exact ⟨ret_int (by rw [HZ.out]), hs _⟩

set_option maxHeartbeats 2000000 in
theorem toSystem_any (S : Sy) (A D : Option Addr) (c d : Nat) (w : World) (hA : SyAt w w.heap.size A D S) (hn : S.sg.length ≤ 1048576) (hm : S.mn.length ≤ 1048576) :
    Calls Try.prog 40 #[sv S A D c d] w fun e w' => ∃ A' D', e = .returned (sv S A' D' S.sg.length S.mn.length) ∧ SyIn w' w.heap.size A' D' S ∧ Below w.heap.size w w' := by
  obtain ⟨ps, qs⟩ := S
  obtain ⟨hA, hD⟩ := hA
  simp only at hn hm hA hD ⊢
  go_enter Try.func40, Try.ntmps40
  go_wp2_with fail
  have b0 : Below w.heap.size w (((w.alloc (Obj.cells #[.slice A ps.length c, .slice D qs.length d] 64)).alloc (Obj.cells #[.slice none 0 0, .slice none 0 0] 69)).alloc (Obj.cells #[.slice none 0 0, .slice none 0 0] 69)) :=
    (((Below.refl _ _).alloc (Nat.le_refl _) _).alloc (by simp) _).alloc (by simp only [World.size_alloc]; omega) _
  have s0 : (((w.alloc (Obj.cells #[.slice A ps.length c, .slice D qs.length d] 64)).alloc (Obj.cells #[.slice none 0 0, .slice none 0 0] 69)).alloc (Obj.cells #[.slice none 0 0, .slice none 0 0] 69)).heap.size = w.heap.size + 1 + 1 + 1 := by simp
  have r0 : (((w.alloc (Obj.cells #[.slice A ps.length c, .slice D qs.length d] 64)).alloc (Obj.cells #[.slice none 0 0, .slice none 0 0] 69)).alloc (Obj.cells #[.slice none 0 0, .slice none 0 0] 69)).rangeAt w.heap.size 0 [.slice A ps.length c, .slice D qs.length d] :=
    World.rangeAt_alloc (World.rangeAt_alloc (rangeAt_new w [.slice A ps.length c, .slice D qs.length d] _) _) _
  have t1 : (((w.alloc (Obj.cells #[.slice A ps.length c, .slice D qs.length d] 64)).alloc (Obj.cells #[.slice none 0 0, .slice none 0 0] 69)).alloc (Obj.cells #[.slice none 0 0, .slice none 0 0] 69)).there (w.heap.size + 1) 0 2 :=
    World.there_alloc (there_newg (by simp) rfl) _
  have t2 : (((w.alloc (Obj.cells #[.slice A ps.length c, .slice D qs.length d] 64)).alloc (Obj.cells #[.slice none 0 0, .slice none 0 0] 69)).alloc (Obj.cells #[.slice none 0 0, .slice none 0 0] 69)).there (w.heap.size + 1 + 1) 0 2 :=
    there_newg (by simp) rfl
  generalize (((w.alloc (Obj.cells #[.slice A ps.length c, .slice D qs.length d] 64)).alloc (Obj.cells #[.slice none 0 0, .slice none 0 0] 69)).alloc (Obj.cells #[.slice none 0 0, .slice none 0 0] 69)) = W0 at *
  refine (toSignS_any A ps c W0 ((hA.below b0).mono b0.size) hn).mono ?_
  rintro e w1 ⟨A', rfl, hP, hb1⟩
  have z1 := hb1.size
  have b1 := b0.trans (hb1.mono b0.size)
  have c1 : w1.cell? ⟨w.heap.size, 1, none⟩ = some (.slice D qs.length d) := rangeAt_below r0 hb1 (by omega) 1 _ rfl
  have t11 := there_below t1 hb1 (by omega)
  have t12 := there_below t2 hb1 (by omega)
  obtain ⟨u0, d0, f0⟩ := there_some t12 (j := 0) (by omega)
  simp only [Nat.zero_add] at d0 f0
  clear r0 t1 t2 hb1
  go_wp2_with fail
  have b2 : Below w.heap.size w (w1.setCell ⟨w.heap.size + 1 + 1, 0, none⟩ (.slice A' ps.length ps.length)) := b1.setCell (p := ⟨w.heap.size + 1 + 1, 0, none⟩) (by show w.heap.size ≤ w.heap.size + 1 + 1; omega) _
  have z2 : (w1.setCell ⟨w.heap.size + 1 + 1, 0, none⟩ (.slice A' ps.length ps.length)).heap.size = w1.heap.size := size_setCell _ _ _
  have e2 : (w1.setCell ⟨w.heap.size + 1 + 1, 0, none⟩ (.slice A' ps.length ps.length)).cell? ⟨w.heap.size + 1 + 1, 0, none⟩ = some (.slice A' ps.length ps.length) := World.cell?_setCell_same' _ _ _ (by rw [d0]; rfl)
  have t21 := there_set t11 ⟨w.heap.size + 1 + 1, 0, none⟩ (.slice A' ps.length ps.length)
  have t22 := there_set t12 ⟨w.heap.size + 1 + 1, 0, none⟩ (.slice A' ps.length ps.length)
  have hP2 : SgIn (w1.setCell ⟨w.heap.size + 1 + 1, 0, none⟩ (.slice A' ps.length ps.length)) W0.heap.size A' ps := grown_rowsIn (grown_set (grown_refl w1 _) 0 (.slice A' ps.length ps.length)) hP (fun b hb e => by have := hP.blk b hb; injection e with e; omega)
  generalize w1.setCell ⟨w.heap.size + 1 + 1, 0, none⟩ (.slice A' ps.length ps.length) = W2 at *
  clear c1 d0 f0 t11 t12 hP
  refine (toByteA2S_any D qs d W2 ((hD.below b2).mono b2.size) hm).mono ?_
  rintro e w3 ⟨D', rfl, hQ, hb3⟩
  have z3 := hb3.size
  have b3 := b2.trans (hb3.mono b2.size)
  have e3 : w3.cell? ⟨w.heap.size + 1 + 1, 0, none⟩ = some (.slice A' ps.length ps.length) := (hb3.cell (p := ⟨w.heap.size + 1 + 1, 0, none⟩) (by show w.heap.size + 1 + 1 < _; omega)).trans e2
  have t31 := there_below t21 hb3 (by omega)
  have t32 := there_below t22 hb3 (by omega)
  have hP3 := hP2.go hb3
  obtain ⟨u1, d1, f1⟩ := there_some t32 (j := 1) (by omega)
  obtain ⟨v0, g0, h0⟩ := there_some t31 (j := 0) (by omega)
  obtain ⟨v1, g1, h1⟩ := there_some t31 (j := 1) (by omega)
  simp only [Nat.zero_add] at d1 f1 g0 h0 g1 h1
  have hin : ∀ W, w3.grownBy W (some (w.heap.size + 1 + 1)) → ∀ W', W.grownBy W' (some (w.heap.size + 1)) → SyIn W' w.heap.size A' D' ⟨ps, qs⟩ := fun W g W' g' =>
    ⟨(grown_rowsIn g' (grown_rowsIn g hP3 (fun b hb e => by have := hP3.blk b hb; injection e with e; omega)) (fun b hb e => by have := hP3.blk b hb; injection e with e; omega)).wider (by omega),
      (grown_rowsIn g' (grown_rowsIn g hQ (fun b hb e => by have := hQ.blk b hb; injection e with e; omega)) (fun b hb e => by have := hQ.blk b hb; injection e with e; omega)).wider (by omega),
      fun k h1 h2 => by have := (hP2.blk k h1).2; have := (hQ.blk k h2).1; omega⟩
  have HIN := hide hin
  clear hin e2 hb3 hQ hP2 hP3 t21 t22
  go_wp2
  have q0 : (w3.setCell ⟨w.heap.size + 1 + 1, 1, none⟩ (.slice D' qs.length qs.length)).cell? ⟨w.heap.size + 1, 0, none⟩ = some v0 := by rw [World.cell?_setCell_other _ _ _ _ (by intro h; injection h with h _; omega)]; exact g0
  have q1 : (w3.setCell ⟨w.heap.size + 1 + 1, 1, none⟩ (.slice D' qs.length qs.length)).cell? ⟨w.heap.size + 1, 1, none⟩ = some v1 := by rw [World.cell?_setCell_other _ _ _ _ (by intro h; injection h with h _; omega)]; exact g1
  exact bodyPost_ret (results_mid rfl _ _ (w.heap.size + 1) 0 [.slice A' ps.length ps.length, .slice D' qs.length qs.length] _ rfl (two_stored q0 q1 _ _) Try.underlying69 rfl (by kernel_rfl)) rfl
    ⟨A', D', rfl, HIN.out _ (grown_set (grown_refl _ _) _ _) _ (grown_set (grown_set (grown_refl _ _) _ _) _ _),
      ((b3.setCell (p := ⟨w.heap.size + 1 + 1, 1, none⟩) (by show w.heap.size ≤ w.heap.size + 1 + 1; omega) _).setCell (p := ⟨w.heap.size + 1, 0, none⟩) (by show w.heap.size ≤ w.heap.size + 1; omega) _).setCell (p := ⟨w.heap.size + 1, 1, none⟩) (by show w.heap.size ≤ w.heap.size + 1; omega) _⟩

set_option maxHeartbeats 2000000 in
theorem eqSystem_same (S : Sy) (hS : S.ok) (A D A' D' : Option Addr) (c d c' d' : Nat) (w : World) (hA : SyAt w w.heap.size A D S) (hA' : SyAt w w.heap.size A' D' S) :
    Calls Try.prog 42 #[sv S A D c d, sv S A' D' c' d'] w fun e w' => e = .returned (.bool true) ∧ Below w.heap.size w w' := by
  obtain ⟨ps, qs⟩ := S
  have hn := hS.n
  have hm := hS.m
  simp only at hn hm
  have b0 : Below w.heap.size w ((w.alloc (Obj.cells #[.slice A ps.length c, .slice D qs.length d] 69)).alloc (Obj.cells #[.slice A' ps.length c', .slice D' qs.length d'] 69)) :=
    ((Below.refl _ _).alloc (Nat.le_refl _) _).alloc (by simp) _
  have r0 : ((w.alloc (Obj.cells #[.slice A ps.length c, .slice D qs.length d] 69)).alloc (Obj.cells #[.slice A' ps.length c', .slice D' qs.length d'] 69)).rangeAt w.heap.size 0 [.slice A ps.length c, .slice D qs.length d] :=
    World.rangeAt_alloc (rangeAt_new w [.slice A ps.length c, .slice D qs.length d] _) _
  have r1 : ((w.alloc (Obj.cells #[.slice A ps.length c, .slice D qs.length d] 69)).alloc (Obj.cells #[.slice A' ps.length c', .slice D' qs.length d'] 69)).rangeAt (w.heap.size + 1) 0 [.slice A' ps.length c', .slice D' qs.length d'] :=
    rangeAt_newg (by simp) rfl
  have s0 : ((w.alloc (Obj.cells #[.slice A ps.length c, .slice D qs.length d] 69)).alloc (Obj.cells #[.slice A' ps.length c', .slice D' qs.length d'] 69)).heap.size = w.heap.size + 1 + 1 := by simp
  go_enter Try.func42, Try.ntmps42
  go_wp2_with fail
  generalize ((w.alloc (Obj.cells #[.slice A ps.length c, .slice D qs.length d] 69)).alloc (Obj.cells #[.slice A' ps.length c', .slice D' qs.length d'] 69)) = W0 at *
  have hB := (hA.below b0).mono b0.size
  have hB' := (hA'.below b0).mono b0.size
  refine (eqSignS_same A A' ps c c' W0 hn hB.1 hB'.1).mono ?_
  rintro e w1 ⟨rfl, hb1⟩
  have c1 : w1.cell? ⟨w.heap.size, 1, none⟩ = some (.slice D qs.length d) := rangeAt_below r0 hb1 (by omega) 1 _ rfl
  have c2 : w1.cell? ⟨w.heap.size + 1, 1, none⟩ = some (.slice D' qs.length d') := rangeAt_below r1 hb1 (by omega) 1 _ rfl
  clear r0 r1
  go_wp2_with fail
  refine (eqByteA2S_same D D' qs d d' w1 hm (hB.go hb1).2 (hB'.go hb1).2).mono ?_
  rintro e w2 ⟨rfl, hb2⟩
  go_wp2
  go_ret
  exact ⟨rfl, b0.trans ((hb1.trans (hb2.mono hb1.size)).mono b0.size)⟩

/-- A system that bears marks. -/
structure SyMark (w : World) (L : Nat) (A D : Option Addr) (n m : Nat) : Prop where
  sg : SgIn w L A (marksSg 1 n)
  mn : A2In w L D (marksA2 (1 + 2 * n) m)
theorem SyMark.go {w w' : World} {L : Nat} {A D : Option Addr} {n m : Nat} (h : SyMark w L A D n m) (hb : Below w.heap.size w w') : SyMark w' L A D n m := ⟨h.sg.go hb, h.mn.go hb⟩

set_option maxRecDepth 100000 in
set_option maxHeartbeats 4000000 in
theorem markSystem_any (S : Sy) (A D : Option Addr) (c d : Nat) (L : Nat) (w : World) (hn : S.sg.length ≤ 2097152) (hm : S.mn.length ≤ 2097152) (hP : SyIn w L A D S) :
    Calls Try.prog 47 #[sv S A D c d, .int .i64 1] w fun e w' => e = .returned (.int .i64 (1 + 2 * S.sg.length + 2 * S.mn.length)) ∧ (∃ W1, w.grownBy W1 (blkR A S.sg) ∧ W1.grownBy w' (blkR D S.mn)) ∧ SyMark w' L A D S.sg.length S.mn.length := by
  obtain ⟨ps, qs⟩ := S
  simp only at hn hm ⊢
  have hb0 : Below w.heap.size w (w.alloc (.cells #[.slice A ps.length c, .slice D qs.length d] 69)) := (Below.refl _ _).alloc (Nat.le_refl _) _
  have r0 : (w.alloc (.cells #[.slice A ps.length c, .slice D qs.length d] 69)).rangeAt w.heap.size 0 [.slice A ps.length c, .slice D qs.length d] := rangeAt_new w [.slice A ps.length c, .slice D qs.length d] _
  have s0 : w.heap.size < (w.alloc (.cells #[.slice A ps.length c, .slice D qs.length d] 69)).heap.size := by simp
  have hblk := hP.sg.blk
  have hblk2 := hP.mn.blk
  have hap := hP.ap
  simp only at hblk hblk2 hap
  have HB := hide (And.intro hblk (And.intro hblk2 hap))
  clear hblk hblk2 hap
  go_enter Try.func47, Try.ntmps47
  go_wp2_with fail
  generalize (w.alloc (.cells #[.slice A ps.length c, .slice D qs.length d] 69)) = W0 at *
  have hP0 := hP.go hb0
  refine (markSignS_any A ps c 1 L W0 (by omega) (by omega) hn hP0.sg).mono ?_
  rintro e w1 ⟨rfl, hg1, hM⟩
  have c1 : w1.cell? ⟨w.heap.size, 1, none⟩ = some (.slice D qs.length d) := grown_row hg1 r0 s0 (fun e => by have := HB.out.1 _ e.symm; omega) 1 _ rfl
  have hQ1 : A2In w1 L D qs := grown_rowsIn hg1 hP0.mn (fun b hb e => HB.out.2.2 b e.symm hb)
  clear r0 hP hP0
  go_wp2_with fail
  refine (markByteA2S_any D qs d (1 + 2 * ps.length) L w1 (by omega) (by omega) hm hQ1).mono ?_
  rintro e w2 ⟨rfl, hg2, hM2⟩
  have hM' : SgIn w2 L A (marksSg 1 ps.length) := grown_rowsIn hg2 hM (fun b hb e => by
    have hb' : blkR A ps = some b := by
      cases ps with
      | nil => simp [marksSg, blkR] at hb
      | cons p r =>
        have : marksSg 1 (p :: r).length ≠ [] := by intro e; have := congrArg List.length e; rw [marksSg_len] at this; simp at this
        cases hA : marksSg 1 (p :: r).length with
        | nil => exact (this hA).elim
        | cons a l => rw [hA] at hb; exact hb
    exact HB.out.2.2 b hb' e.symm)
  clear c1 hQ1
  go_wp2
  go_ret
  exact ⟨rfl, ⟨w1, grown_trans (grown_below hb0) hg1, hg2⟩, hM', hM2⟩

set_option maxRecDepth 100000 in
set_option maxHeartbeats 4000000 in
theorem heldSystem_any (S : Sy) (A D : Option Addr) (c d : Nat) (L : Nat) (w : World) (hn : S.sg.length ≤ 2097152) (hm : S.mn.length ≤ 2097152) (hP : SyMark w L A D S.sg.length S.mn.length) :
    Calls Try.prog 48 #[sv S A D c d, .int .i64 1] w fun e w' => e = .returned (.int .i64 (1 + 2 * S.sg.length + 2 * S.mn.length)) ∧ Below w.heap.size w w' := by
  obtain ⟨ps, qs⟩ := S
  simp only at hn hm hP ⊢
  have hb0 : Below w.heap.size w (w.alloc (.cells #[.slice A ps.length c, .slice D qs.length d] 69)) := (Below.refl _ _).alloc (Nat.le_refl _) _
  have r0 : (w.alloc (.cells #[.slice A ps.length c, .slice D qs.length d] 69)).rangeAt w.heap.size 0 [.slice A ps.length c, .slice D qs.length d] := rangeAt_new w [.slice A ps.length c, .slice D qs.length d] _
  have c0 := rangeAt_cell r0 (k := 0) rfl
  have c1 := rangeAt_cell r0 (k := 1) rfl
  have hP0 := hP.go hb0
  have H1 := hide (heldSignS_any A ps.length c 1 _ (by omega) (by omega) hn hP0.sg.at_)
  have H2 := hide (heldByteA2S_any D qs.length d (1 + 2 * ps.length) _ (by omega) (by omega) hm hP0.mn.at_)
  have hd : decide ((1 : Int) + 2 * ps.length < 0) = false := by simp; omega
  have hd2 : decide ((1 : Int) + 2 * ps.length + 2 * qs.length < 0) = false := by simp; omega
  clear r0 hP hP0
  go_enter Try.func48, Try.ntmps48
  go_wp2_with fail
  refine H1.out.mono ?_
  rintro e w1 ⟨rfl, rfl⟩
  go_wp2_with fail
  refine H2.out.mono ?_
  rintro e w2 ⟨rfl, rfl⟩
  go_wp2
  go_ret
  exact ⟨rfl, hb0⟩
/-- Two rows are kept in every world over W. -/
theorem keep2 {W w' : World} {b b' : Nat} {cs cs' : List Value} (hb : Below W.heap.size W w') (r : W.rangeAt b 0 cs) (hlt : b < W.heap.size) (r' : W.rangeAt b' 0 cs') (hlt' : b' < W.heap.size) :
    Below W.heap.size W w' ∧ w'.rangeAt b 0 cs ∧ w'.rangeAt b' 0 cs' := ⟨hb, rangeAt_below r hb hlt, rangeAt_below r' hb hlt'⟩
end Go.Proofs.Ytgklhdacnklhdaa
