/- LoosenFace of the model and of the program: the same face and number. -/
import Derived.Test.YtkgoceiingddoaaClone
import Derived.Test.YtkgoceiingddoaaLawCommon
import Derived.Laws.OwnMore
namespace Go.Proofs.Ytkgoceiingddoaa
open Go.RowKit

section
variable {P : Program} {w : World}
theorem run_append_none_any (base : Nat) (t ty e : TypeId) (i : TypeInfo) (size : Nat) (ht : P.underlying t = some (.slice e)) (hi : P.info? e = some i)
    (v : Value) (n c : Nat) (xs : List Value) (hown : w.ownsRow base e size v n xs) :
    (Builtin.append_ #[t, t] ty #[v, .slice none 0 c]).run P w = .ok v w := by
  rcases hown.2 with ⟨rfl, rfl⟩ | ⟨g, cap, cur, rfl, _, _, hnc, _⟩
  · simp [Builtin.append_, run_underlying ht, sizeOf, typeInfo, hi, Builtin.lenOf, Builtin.firstCells]
  · simp [Builtin.append_, run_underlying ht, sizeOf, typeInfo, hi, Builtin.lenOf, Builtin.firstCells, hnc, storeCells]
theorem wpList_append_none_any {ops : Array Oper} {rest : List Oper} {o : Oper} {a : Act} {Q : Exit → Act → World → Prop} (hgd : o.guard = none) (s x : Operand) (t : TypeId)
    (ho : o.op = .call { callee := .builtin .append, args := #[s, x], argTypes := #[t, t] })
    (base : Nat) (e : TypeId) (i : TypeInfo) (size : Nat) (ht : P.underlying t = some (.slice e)) (hi : P.info? e = some i)
    (v : Value) (n c : Nat) (xs : List Value) (hs : a.eval s = v) (hown : w.ownsRow base e size v n xs) (hx : a.eval x = .slice none 0 c)
    (h : wpList P ops Q rest (a.put o.dst v) w) : wpList P ops Q (o :: rest) a w := by
  refine wpList_plain hgd fun K hK => ?_
  have hrun := run_append_none_any (P := P) (w := w) base t o.type e i size ht hi v n c xs hown
  unfold Oper.wp
  simp [execOp, ho, resolve, invoke, builtin, hs, hx, hrun, Result.andThen]
  exact hK _ _ h
end
/-- A result that lies in memory, and a number behind it. -/
theorem results_mid2 {P : Program} {fn : Func} {p q : Tmp} {ty : TypeId} (h : fn.results = #[.cell p ty, .tmp q]) (tmps : Array Value) (w : World) (b o : Nat) (cs : List Value) (d : TypeDesc)
    (hp : tmps.getD p undef = .pointer (some ⟨b, o, none⟩)) (hc : w.rangeAt b o cs)
    (hu : P.underlying ty = some d) (hd : d.isRow = true) (hi : (P.info? ty).map (·.size) = some cs.length) :
    (results fn tmps).run P w = .ok (.tuple #[.agg cs.toArray, tmps.getD q undef]) w := by
  have hp' : tmps[p]?.getD undef = .pointer (some ⟨b, o, none⟩) := by simpa using hp
  simp [results, h, hp', asAddr, run_loadVar_mid w b o ty cs d hc hu hd hi]

/-- The face with another gap; the face with nothing. -/
def loose (F : Fc) (by_ : Int) : Fc := ⟨F.W, F.sp, F.gp + by_, F.ps⟩
def Fc0 : Fc := ⟨List.replicate 26 0, 0, 0, []⟩
theorem Fc0_ok : Fc0.ok :=
  ⟨by decide, (fun x hx => by
    have : x = 0 := (List.mem_replicate.1 hx).2
    subst this; exact ⟨by omega, by omega⟩), ⟨by decide, by decide⟩, ⟨by decide, by decide⟩, (fun p hp => by cases hp), by show 0 ≤ maxLen; omega⟩
/-- The zero face's cells. -/
def zc : List Value := fc Fc0 (.slice none 0 0)
noncomputable def lfB (F : Fc) (x : Int) : Bool := vface F && (inB x (-10) 10 && vface (loose F x))
noncomputable def lfF (F : Fc) (x : Int) : Fc := if lfB F x = true then loose F x else Fc0
noncomputable def lfC (F : Fc) (x : Int) : Int := if vface F = true then if lfB F x = true then 0 else 4 else 1
theorem lf_inv {F : Fc} (h : vface F = false) (x : Int) : lfF F x = Fc0 ∧ lfC F x = 1 := by unfold lfF lfC lfB; rw [h]; exact ⟨rfl, rfl⟩
theorem lf_state {F : Fc} (h : vface F = true) {x : Int} (h' : (inB x (-10) 10 && vface (loose F x)) = false) : lfF F x = Fc0 ∧ lfC F x = 4 := by unfold lfF lfC lfB; rw [h, h']; exact ⟨rfl, rfl⟩
theorem lf_ok {F : Fc} (h : vface F = true) {x : Int} (h' : (inB x (-10) 10 && vface (loose F x)) = true) : lfF F x = loose F x ∧ lfC F x = 0 := by unfold lfF lfC lfB; rw [h, h']; exact ⟨rfl, rfl⟩
theorem loose_ok {F : Fc} (hF : F.ok) (h : vface F = true) {x : Int} (h' : inB x (-10) 10 = true) : (loose F x).ok := by
  have hg := shape_gap (vface_true.1 h).2.gp
  have hx := inB_true.1 h'
  exact ⟨hF.len, hF.W, hF.sp, ⟨by show -128 ≤ F.gp + x; omega, by show F.gp + x ≤ 127; omega⟩, hF.ps, hF.n⟩
theorem lfF_ok {F : Fc} (hF : F.ok) (x : Int) : (lfF F x).ok := by
  unfold lfF
  split
  · rename_i h
    unfold lfB at h
    simp only [Bool.and_eq_true] at h
    exact loose_ok hF h.1 h.2.1
  · exact Fc0_ok
theorem lfF_len (F : Fc) (x : Int) {n : Nat} (h : F.ps.length ≤ n) : (lfF F x).ps.length ≤ n := by
  unfold lfF
  split
  · exact h
  · exact Nat.zero_le _
/-- What a call hands back: a face with pairs of its own, and a number. -/
def FaceBack (R : Fc) (C : Int) (w : World) (e : Ending) (w' : World) : Prop :=
  ∃ A' c', e = .returned (.tuple #[.agg (fc R (.slice A' R.ps.length c')).toArray, .int .i64 C]) ∧ PairsIn w' w.heap.size A' R.ps ∧ Below w.heap.size w w'
/-- One field is stored: the face reads with the new gap. -/
theorem fc_gap {w : World} {b : Nat} {F : Fc} (hW : F.W.length = 26) {sl : Value} (h : w.rangeAt b 0 (fc F sl)) (ht : w.there b 0 29) (x : Int) : (w.setCell ⟨b, 27, none⟩ (.int .i8 (F.gp + x))).rangeAt b 0 (fc (loose F x) sl) := by
  refine fc_put (F := loose F x) hW ?_ ?_ ?_ ?_
  · exact rangeAt_off (rangeAt_left h) (by right; right; rw [wc_length]; show 0 + F.W.length ≤ 27; omega) _
  · rw [World.cell?_setCell_other _ _ _ _ (by intro h; injection h with _ h; omega)]; exact rangeAt_cell h (fc_sp hW _)
  · exact World.cell?_setCell_same' _ _ _ (by rw [rangeAt_cell h (fc_gp hW _)]; rfl)
  · rw [World.cell?_setCell_other _ _ _ _ (by intro h; injection h with _ h; omega)]; exact rangeAt_cell h (fc_sl hW _)
theorem fc_slot {w : World} {b : Nat} {F : Fc} (hW : F.W.length = 26) {sl : Value} (h : w.rangeAt b 0 (fc F sl)) (sl' : Value) : (w.setCell ⟨b, 28, none⟩ sl').rangeAt b 0 (fc F sl') := by
  refine fc_put hW ?_ ?_ ?_ ?_
  · exact rangeAt_off (rangeAt_left h) (by right; right; rw [wc_length]; omega) _
  · rw [World.cell?_setCell_other _ _ _ _ (by intro h; injection h with _ h; omega)]; exact rangeAt_cell h (fc_sp hW _)
  · rw [World.cell?_setCell_other _ _ _ _ (by intro h; injection h with _ h; omega)]; exact rangeAt_cell h (fc_gp hW _)
  · exact World.cell?_setCell_same' _ _ _ (by rw [rangeAt_cell h (fc_sl hW _)]; rfl)

theorem back_zero {R : Fc} {C : Int} {w w1 : World} {b : Nat} {v : Value} (hR : R = Fc0) (hv : v = .int .i64 C) (hb : Below w.heap.size w w1) (hle : w.heap.size ≤ b) : FaceBack R C w (.returned (.tuple #[.agg zc.toArray, v])) (w1.setCells b 0 zc.toArray.toList) := by
  subst hR; subst hv
  exact ⟨none, 0, rfl, PairsIn.nil _ _ _, below_setCells _ _ _ _ hb hle⟩
theorem zc_row {w1 : World} {b : Nat} (h : w1.there b 0 zc.toArray.size) : (w1.setCells b 0 zc.toArray.toList).rangeAt b 0 zc := World.rangeAt_setCells_same _ _ _ _ h

set_option maxRecDepth 100000 in
set_option maxHeartbeats 8000000 in
theorem implLoosenFace_any (F : Fc) (hF : F.ok) (A : Option Addr) (c : Nat) (x : Int) (hx : (Lit.int .i64 x).wf = true) (w : World) (hn : F.ps.length ≤ 1048576) (hA : PairsAt w w.heap.size A F.ps) :
    Calls Try.prog 64 #[.agg (fc F (.slice A F.ps.length c)).toArray, .int .i64 x] w (FaceBack (lfF F x) (lfC F x) w) := by
  have hW := hide hF.len
  have r0 := World.rangeAt_alloc (rangeAt_new w (fc F (.slice A F.ps.length c)) 33) (.cells #[.int .i8 0, .int .i8 0, .int .i8 0, .int .i8 0, .int .i8 0, .int .i8 0, .int .i8 0, .int .i8 0, .int .i8 0, .int .i8 0, .int .i8 0, .int .i8 0, .int .i8 0, .int .i8 0, .int .i8 0, .int .i8 0, .int .i8 0, .int .i8 0, .int .i8 0, .int .i8 0, .int .i8 0, .int .i8 0, .int .i8 0, .int .i8 0, .int .i8 0, .int .i8 0, .int .i8 0, .int .i8 0, .slice none 0 0] 33)
  have t0 := World.there_alloc (there_newg (w := w) (cs := (fc F (.slice A F.ps.length c)).toArray) (t := 33) (g := w.heap.size) (n := 29) rfl (by simp only [List.size_toArray]; rw [fc_length hW.out])) (.cells #[.int .i8 0, .int .i8 0, .int .i8 0, .int .i8 0, .int .i8 0, .int .i8 0, .int .i8 0, .int .i8 0, .int .i8 0, .int .i8 0, .int .i8 0, .int .i8 0, .int .i8 0, .int .i8 0, .int .i8 0, .int .i8 0, .int .i8 0, .int .i8 0, .int .i8 0, .int .i8 0, .int .i8 0, .int .i8 0, .int .i8 0, .int .i8 0, .int .i8 0, .int .i8 0, .int .i8 0, .int .i8 0, .slice none 0 0] 33)
  have z0 := there_newg (w := w.alloc (.cells (fc F (.slice A F.ps.length c)).toArray 33)) (cs := #[.int .i8 0, .int .i8 0, .int .i8 0, .int .i8 0, .int .i8 0, .int .i8 0, .int .i8 0, .int .i8 0, .int .i8 0, .int .i8 0, .int .i8 0, .int .i8 0, .int .i8 0, .int .i8 0, .int .i8 0, .int .i8 0, .int .i8 0, .int .i8 0, .int .i8 0, .int .i8 0, .int .i8 0, .int .i8 0, .int .i8 0, .int .i8 0, .int .i8 0, .int .i8 0, .int .i8 0, .int .i8 0, .slice none 0 0]) (t := 33) (g := w.heap.size + 1) (n := 29) (by simp) rfl
  have b0 : Below w.heap.size w ((w.alloc (.cells (fc F (.slice A F.ps.length c)).toArray 33)).alloc (.cells #[.int .i8 0, .int .i8 0, .int .i8 0, .int .i8 0, .int .i8 0, .int .i8 0, .int .i8 0, .int .i8 0, .int .i8 0, .int .i8 0, .int .i8 0, .int .i8 0, .int .i8 0, .int .i8 0, .int .i8 0, .int .i8 0, .int .i8 0, .int .i8 0, .int .i8 0, .int .i8 0, .int .i8 0, .int .i8 0, .int .i8 0, .int .i8 0, .int .i8 0, .int .i8 0, .int .i8 0, .int .i8 0, .slice none 0 0] 33)) := ((Below.refl _ _).alloc (Nat.le_refl _) _).alloc (by simp) _
  have s0 : w.heap.size + 1 < ((w.alloc (.cells (fc F (.slice A F.ps.length c)).toArray 33)).alloc (.cells #[.int .i8 0, .int .i8 0, .int .i8 0, .int .i8 0, .int .i8 0, .int .i8 0, .int .i8 0, .int .i8 0, .int .i8 0, .int .i8 0, .int .i8 0, .int .i8 0, .int .i8 0, .int .i8 0, .int .i8 0, .int .i8 0, .int .i8 0, .int .i8 0, .int .i8 0, .int .i8 0, .int .i8 0, .int .i8 0, .int .i8 0, .int .i8 0, .int .i8 0, .int .i8 0, .int .i8 0, .int .i8 0, .slice none 0 0] 33)).heap.size := by simp
  have HII := hide (show ∀ F : Fc, F.W.length = 26 → ∀ sl, (Try.prog.info? 33).map (·.size) = some (fc F sl).length from fun F h sl => by rw [fc_length h]; kernel_rfl)
  have HI29 := hide (show (Try.prog.info? 33).map (·.size) = some zc.toArray.size from by kernel_rfl)
  have BA := hA.below b0
  have hA0 := hA
  have HC := hide (implValidFace_any F hF A c _ (BA.mono b0.size))
  generalize hR : lfF F x = R
  generalize hC : lfC F x = C
  have HR := hide hR
  have HCo := hide hC
  clear hA hR hC
  cases hv : vface F
  · have HP := hide (lf_inv hv x)
    go_enter Try.func64, Try.ntmps64
    go_wp2_with (refine wpList_load_mid rfl 33 (.tmp 2) rfl _ 0 rfl _ _ r0 Try.underlying33 rfl (HII.out F hW.out _) ?_)
    generalize ((w.alloc (.cells (fc F (.slice A F.ps.length c)).toArray 33)).alloc (.cells #[.int .i8 0, .int .i8 0, .int .i8 0, .int .i8 0, .int .i8 0, .int .i8 0, .int .i8 0, .int .i8 0, .int .i8 0, .int .i8 0, .int .i8 0, .int .i8 0, .int .i8 0, .int .i8 0, .int .i8 0, .int .i8 0, .int .i8 0, .int .i8 0, .int .i8 0, .int .i8 0, .int .i8 0, .int .i8 0, .int .i8 0, .int .i8 0, .int .i8 0, .int .i8 0, .int .i8 0, .int .i8 0, .slice none 0 0] 33)) = W0 at *
    refine HC.out.mono ?_
    rintro e w1 ⟨rfl, hb1⟩
    simp only [hv]
    have z1 : w1.there (w.heap.size + 1) 0 zc.toArray.size := there_below z0 hb1 s0
    go_wp2_with (refine wpList_store_mid rfl 33 (.tmp 4) (.tmp 9) rfl (w.heap.size + 1) 0 zc.toArray rfl rfl z1 HI29.out (by kernel_rfl) ?_)
    refine bodyPost_ret (results_mid2 rfl _ _ (w.heap.size + 1) 0 zc _ rfl (zc_row z1) Try.underlying33 rfl HI29.out) rfl (back_zero (HR.out.symm.trans HP.out.1) (by show Value.int .i64 _ = _; rw [← HCo.out, HP.out.2]) (b0.trans (hb1.mono b0.size)) (by omega))
  · cases hx1 : inB x (-10) 10
    · have HP := hide (lf_state hv (x := x) (by rw [hx1]; rfl))
      go_enter Try.func64, Try.ntmps64
      go_wp2_with (refine wpList_load_mid rfl 33 (.tmp 2) rfl _ 0 rfl _ _ r0 Try.underlying33 rfl (HII.out F hW.out _) ?_)
      generalize ((w.alloc (.cells (fc F (.slice A F.ps.length c)).toArray 33)).alloc (.cells #[.int .i8 0, .int .i8 0, .int .i8 0, .int .i8 0, .int .i8 0, .int .i8 0, .int .i8 0, .int .i8 0, .int .i8 0, .int .i8 0, .int .i8 0, .int .i8 0, .int .i8 0, .int .i8 0, .int .i8 0, .int .i8 0, .int .i8 0, .int .i8 0, .int .i8 0, .int .i8 0, .int .i8 0, .int .i8 0, .int .i8 0, .int .i8 0, .int .i8 0, .int .i8 0, .int .i8 0, .int .i8 0, .slice none 0 0] 33)) = W0 at *
      refine HC.out.mono ?_
      rintro e w1 ⟨rfl, hb1⟩
      simp only [hv]
      have z1 : w1.there (w.heap.size + 1) 0 zc.toArray.size := there_below z0 hb1 s0
      go_wp2_with (first | (go_at_call 66; refine (between_any _ _ _ _).mono ?_; rintro e w' ⟨rfl, rfl⟩; simp only [hx1]) | (refine wpList_store_mid rfl 33 (.tmp 4) (.tmp 13) rfl (w.heap.size + 1) 0 zc.toArray rfl rfl z1 HI29.out (by kernel_rfl) ?_))
      refine bodyPost_ret (results_mid2 rfl _ _ (w.heap.size + 1) 0 zc _ rfl (zc_row z1) Try.underlying33 rfl HI29.out) rfl (back_zero (HR.out.symm.trans HP.out.1) (by show Value.int .i64 _ = _; rw [← HCo.out, HP.out.2]) (b0.trans (hb1.mono b0.size)) (by omega))
    · obtain ⟨x1, x2⟩ := inB_true.1 hx1
      obtain ⟨gp1, gp2⟩ := shape_gap (vface_true.1 hv).2.gp
      have x27 := rangeAt_cell r0 (fc_gp hW.out _)
      have f27 := (t0 27 (by omega)).2
      simp only [Nat.zero_add] at f27
      have e1 := IntWalk.i8_in x ⟨by omega, by omega⟩
      have e2 := IntWalk.i8_in (F.gp + x) ⟨by omega, by omega⟩
      have hLok := loose_ok hF hv hx1
      go_enter Try.func64, Try.ntmps64
      go_wp2_with (refine wpList_load_mid rfl 33 (.tmp 2) rfl _ 0 rfl _ _ r0 Try.underlying33 rfl (HII.out F hW.out _) ?_)
      generalize ((w.alloc (.cells (fc F (.slice A F.ps.length c)).toArray 33)).alloc (.cells #[.int .i8 0, .int .i8 0, .int .i8 0, .int .i8 0, .int .i8 0, .int .i8 0, .int .i8 0, .int .i8 0, .int .i8 0, .int .i8 0, .int .i8 0, .int .i8 0, .int .i8 0, .int .i8 0, .int .i8 0, .int .i8 0, .int .i8 0, .int .i8 0, .int .i8 0, .int .i8 0, .int .i8 0, .int .i8 0, .int .i8 0, .int .i8 0, .int .i8 0, .int .i8 0, .int .i8 0, .int .i8 0, .slice none 0 0] 33)) = W0 at *
      refine HC.out.mono ?_
      rintro e w1 ⟨rfl, hb1⟩
      simp only [hv]
      have hB1 := b0.trans (hb1.mono b0.size)
      have s1 := Nat.lt_of_lt_of_le s0 hb1.size
      have z1 : w1.there (w.heap.size + 1) 0 zc.toArray.size := there_below z0 hb1 s0
      have r1 := rangeAt_below r0 hb1 (by omega)
      have t1 := there_below t0 hb1 (by omega)
      have c27 := (hb1.cell (p := ⟨w.heap.size, 27, none⟩) (by show w.heap.size < _; omega)).trans x27
      have g27 := (hb1.frozen (p := ⟨w.heap.size, 27, none⟩) (by show w.heap.size < _; omega)).trans f27
      clear x27 f27
      obtain ⟨W2, hW2⟩ : ∃ W2, W2 = w1.setCell ⟨w.heap.size, 27, none⟩ (.int .i8 (F.gp + x)) := ⟨_, rfl⟩
      have r2 : W2.rangeAt w.heap.size 0 (fc (loose F x) (.slice A F.ps.length c)) := by rw [hW2]; exact fc_gap hW.out r1 t1 x
      have z2 : W2.there (w.heap.size + 1) 0 zc.toArray.size := by rw [hW2]; exact there_set z1 _ _
      have t2 : W2.there w.heap.size 0 29 := by rw [hW2]; exact there_set t1 _ _
      have hB2 : Below w.heap.size w W2 := by rw [hW2]; exact hB1.setCell (p := ⟨w.heap.size, 27, none⟩) (Nat.le_refl _) _
      have s2 : w.heap.size + 1 < W2.heap.size := by rw [hW2, size_setCell]; exact s1
      have HW2 := hide hW2
      clear hW2
      go_wp2_with (first | (go_at_call 66; refine (between_any _ _ _ _).mono ?_; rintro e w' ⟨rfl, rfl⟩; simp only [hx1]) | (rw [← HW2.out]; refine wpList_load_mid rfl 33 (.tmp 2) rfl _ 0 rfl _ _ r2 Try.underlying33 rfl (HII.out (loose F x) hW.out _) ?_))
      have hPL : PairsAt W2 W2.heap.size A (loose F x).ps := (hA0.below hB2).mono (by omega)
      refine (implValidFace_any (loose F x) hLok A c _ hPL).mono ?_
      rintro e w3 ⟨rfl, hb3⟩
      have hB3 := hB2.trans (hb3.mono hB2.size)
      have s3 := Nat.lt_of_lt_of_le s2 hb3.size
      have z3 : w3.there (w.heap.size + 1) 0 zc.toArray.size := there_below z2 hb3 s2
      have r3 := rangeAt_below r2 hb3 (by omega)
      have t3 := there_below t2 hb3 (by omega)
      cases hv2 : vface (loose F x)
      · have HP := hide (lf_state hv (x := x) (by rw [hx1, hv2]; rfl))
        go_wp2_with (refine wpList_store_mid rfl 33 (.tmp 4) (.tmp 23) rfl (w.heap.size + 1) 0 zc.toArray rfl rfl z3 HI29.out (by kernel_rfl) ?_)
        refine bodyPost_ret (results_mid2 rfl _ _ (w.heap.size + 1) 0 zc _ rfl (zc_row z3) Try.underlying33 rfl HI29.out) rfl (back_zero (HR.out.symm.trans HP.out.1) (by show Value.int .i64 _ = _; rw [← HCo.out, HP.out.2]) hB3 (by omega))
      · have HP := hide (lf_ok hv (x := x) (by rw [hx1, hv2]; rfl))
        have x28 := rangeAt_cell r3 (fc_sl (F := loose F x) hW.out _)
        go_wp2_with fail
        refine (cloneP_any A (loose F x).ps c _ hn (hPL.go hb3 (Nat.le_refl _))).mono ?_
        rintro e w4 ⟨A4, c4, rfl, hc4, hP4, hb4⟩
        have hB4 := hB3.trans (hb4.mono hB3.size)
        have r4 := rangeAt_below r3 hb4 (by omega)
        have t4 := there_below t3 hb4 (by omega)
        have z4 : w4.there (w.heap.size + 1) 0 29 := there_below z3 hb4 s3
        obtain ⟨v28, d28, f28⟩ := there_some t4 (j := 28) (by omega)
        simp only [Nat.zero_add] at d28 f28
        obtain ⟨W5, hW5⟩ : ∃ W5, W5 = w4.setCell ⟨w.heap.size, 28, none⟩ (.slice A4 (loose F x).ps.length c4) := ⟨_, rfl⟩
        have r5 : W5.rangeAt w.heap.size 0 (fc (loose F x) (.slice A4 (loose F x).ps.length c4)) := by rw [hW5]; exact fc_slot (F := loose F x) hW.out r4 _
        have z5 : W5.there (w.heap.size + 1) 0 (fc (loose F x) (.slice A4 (loose F x).ps.length c4)).toArray.size := by rw [hW5]; simp only [List.size_toArray]; rw [fc_length (F := loose F x) hW.out]; exact there_set z4 _ _
        have hB5 : Below w.heap.size w W5 := by rw [hW5]; exact hB4.setCell (p := ⟨w.heap.size, 28, none⟩) (Nat.le_refl _) _
        have hP5 : PairsIn W5 w.heap.size A4 (loose F x).ps := by
          rw [hW5]
          intro hne
          obtain ⟨b, o, e, h1, h2, h3, h4⟩ := hP4 hne
          exact ⟨b, o, e, by omega, by rw [size_setCell]; exact h2, fun k p hp => rangeAt_off (h3 k p hp) (.inl (by omega)) _, there_set h4 _ _⟩
        have HW5 := hide hW5
        clear hW5
        go_wp2_with (first
          | (rw [← HW5.out]; refine wpList_load_mid rfl 33 (.tmp 2) rfl _ 0 rfl _ _ r5 Try.underlying33 rfl (HII.out (loose F x) hW.out _) ?_)
          | (refine wpList_store_mid rfl 33 (.tmp 4) (.tmp 28) rfl (w.heap.size + 1) 0 _ rfl rfl z5 (HII.out (loose F x) hW.out _) (fc_one _ _ _ _) ?_))
        refine bodyPost_ret (results_mid2 rfl _ _ (w.heap.size + 1) 0 (fc (loose F x) (.slice A4 (loose F x).ps.length c4)) _ rfl (World.rangeAt_setCells_same _ _ _ _ z5) Try.underlying33 rfl (HII.out (loose F x) hW.out _)) rfl ?_
        have e1 : R = loose F x := HR.out.symm.trans HP.out.1
        have e2 : C = 0 := HCo.out.symm.trans HP.out.2
        subst e1; subst e2
        refine ⟨A4, c4, rfl, ?_, below_setCells _ _ _ _ hB5 (by omega)⟩
        intro hne
        obtain ⟨b, o, e, h1, h2, h3, h4⟩ := hP4 hne
        obtain ⟨b', o', e', h1', h2', h3', h4'⟩ := hP5 hne
        have eb : b' = b := by rw [e] at e'; injection e' with e'; injection e' with e'; exact e'.symm
        subst eb
        exact ⟨b', o', e', h1', by rw [size_setCells]; exact h2', fun k p hp => World.rangeAt_setCells_apart (h3' k p hp) _ _ _ (.inl (by omega)), World.there_setCells h4' _ _ _⟩
end Go.Proofs.Ytkgoceiingddoaa
