/- LoosenFace of the model and of the program: the same face and number. -/
import Derived.Test.YtkbemhjeflmppaaG6
import Derived.Test.YtkbemhjeflmppaaG5
import Derived.Laws.OwnMore
namespace Go.Proofs.Ytkbemhjeflmppaa
open Go.RowKit

section
variable {P : Program} {w : World}
theorem run_append_none_any (base : Nat) (t ty e : TypeId) (i : TypeInfo) (size : Nat) (ht : P.underlying t = some (.slice e)) (hi : P.info? e = some i)
    (v : Value) (n c : Nat) (xs : List Value) (hown : w.ownsRow base e size v n xs) :
    (Builtin.append_ #[t, t] ty #[v, .slice none 0 c]).run P w = .ok v w := by
  rcases hown.2 with ⟨rfl, rfl⟩ | ⟨g, cap, cur, rfl, _, _, hnc, _⟩
  · simp [Builtin.append_, run_underlying ht, sizeOf, typeInfo, hi, Builtin.lenOf, Builtin.firstCells]
  · simp [Builtin.append_, run_underlying ht, sizeOf, typeInfo, hi, Builtin.lenOf, Builtin.firstCells, hnc, storeCells]
theorem wpList_append_none_any {ops : Array Oper} {rest : List Oper} {o : Oper} {a : Act} {Q : Exit → Act → World → Prop} (hgd : o.guard = none) (s x : Operand) (t : TypeId)
    (ho : o.op = .call { callee := .builtin .append, args := #[s, x], argTypes := #[t, t] })
    (base : Nat) (e : TypeId) (i : TypeInfo) (size : Nat) (ht : P.underlying t = some (.slice e)) (hi : P.info? e = some i)
    (v : Value) (n c : Nat) (xs : List Value) (hs : a.eval s = v) (hown : w.ownsRow base e size v n xs) (hx : a.eval x = .slice none 0 c)
    (h : wpList P ops Q rest (a.put o.dst v) w) : wpList P ops Q (o :: rest) a w := by
  refine wpList_plain hgd fun K hK => ?_
  have hrun := run_append_none_any (P := P) (w := w) base t o.type e i size ht hi v n c xs hown
  unfold Oper.wp
  simp [execOp, ho, resolve, invoke, builtin, hs, hx, hrun, Result.andThen]
  exact hK _ _ h
end
/-- A result that lies in memory, and a number behind it. -/
theorem results_mid2 {P : Program} {fn : Func} {p q : Tmp} {ty : TypeId} (h : fn.results = #[.cell p ty, .tmp q]) (tmps : Array Value) (w : World) (b o : Nat) (cs : List Value) (d : TypeDesc)
    (hp : tmps.getD p undef = .pointer (some ⟨b, o, none⟩)) (hc : w.rangeAt b o cs)
    (hu : P.underlying ty = some d) (hd : d.isRow = true) (hi : (P.info? ty).map (·.size) = some cs.length) :
    (results fn tmps).run P w = .ok (.tuple #[.agg cs.toArray, tmps.getD q undef]) w := by
  have hp' : tmps[p]?.getD undef = .pointer (some ⟨b, o, none⟩) := by simpa using hp
  simp [results, h, hp', asAddr, run_loadVar_mid w b o ty cs d hc hu hd hi]

/-- The face with another gap; the face with nothing. -/
def loose (F : Fc) (by_ : Int) : Fc := ⟨F.W, F.sp, F.gp + by_, F.ps⟩
def Fc0 : Fc := ⟨List.replicate 26 0, 0, 0, []⟩
theorem Fc0_ok : Fc0.ok :=
  ⟨by decide, (fun x hx => by
    have : x = 0 := (List.mem_replicate.1 hx).2
    subst this; exact ⟨by omega, by omega⟩), ⟨by decide, by decide⟩, ⟨by decide, by decide⟩, (fun p hp => by cases hp), by show 0 ≤ maxLen; omega⟩
/-- The zero face's cells. -/
def zc : List Value := fc Fc0 (.slice none 0 0)
noncomputable def lfB (F : Fc) (x : Int) : Bool := vface F && (inB x (-10) 10 && vface (loose F x))
noncomputable def lfF (F : Fc) (x : Int) : Fc := if lfB F x = true then loose F x else Fc0
noncomputable def lfC (F : Fc) (x : Int) : Int := if vface F = true then if lfB F x = true then 0 else 4 else 1
theorem lf_inv {F : Fc} (h : vface F = false) (x : Int) : lfF F x = Fc0 ∧ lfC F x = 1 := by unfold lfF lfC lfB; rw [h]; exact ⟨rfl, rfl⟩
theorem lf_state {F : Fc} (h : vface F = true) {x : Int} (h' : (inB x (-10) 10 && vface (loose F x)) = false) : lfF F x = Fc0 ∧ lfC F x = 4 := by unfold lfF lfC lfB; rw [h, h']; exact ⟨rfl, rfl⟩
theorem lf_ok {F : Fc} (h : vface F = true) {x : Int} (h' : (inB x (-10) 10 && vface (loose F x)) = true) : lfF F x = loose F x ∧ lfC F x = 0 := by unfold lfF lfC lfB; rw [h, h']; exact ⟨rfl, rfl⟩
theorem loose_ok {F : Fc} (hF : F.ok) (h : vface F = true) {x : Int} (h' : inB x (-10) 10 = true) : (loose F x).ok := by
  have hg := shape_gap (vface_true.1 h).2.gp
  have hx := inB_true.1 h'
  exact ⟨hF.len, hF.W, hF.sp, ⟨by show -128 ≤ F.gp + x; omega, by show F.gp + x ≤ 127; omega⟩, hF.ps, hF.n⟩
theorem lfF_ok {F : Fc} (hF : F.ok) (x : Int) : (lfF F x).ok := by
  unfold lfF
  split
  · rename_i h
    unfold lfB at h
    simp only [Bool.and_eq_true] at h
    exact loose_ok hF h.1 h.2.1
  · exact Fc0_ok
theorem lfF_len (F : Fc) (x : Int) {n : Nat} (h : F.ps.length ≤ n) : (lfF F x).ps.length ≤ n := by
  unfold lfF
  split
  · exact h
  · exact Nat.zero_le _
/-- What a call hands back: a face with pairs of its own, and a number. -/
def FaceBack (R : Fc) (C : Int) (w : World) (e : Ending) (w' : World) : Prop :=
  ∃ A' c', e = .returned (.tuple #[.agg (fc R (.slice A' R.ps.length c')).toArray, .int .i64 C]) ∧ PairsIn w' w.heap.size A' R.ps ∧ Below w.heap.size w w'
/-- One field is stored: the face reads with the new gap. -/
theorem fc_gap {w : World} {b : Nat} {F : Fc} (hW : F.W.length = 26) {sl : Value} (h : w.rangeAt b 0 (fc F sl)) (ht : w.there b 0 29) (x : Int) : (w.setCell ⟨b, 27, none⟩ (.int .i8 (F.gp + x))).rangeAt b 0 (fc (loose F x) sl) := by
  refine fc_put (F := loose F x) hW ?_ ?_ ?_ ?_
  · exact rangeAt_off (rangeAt_left h) (by right; right; rw [wc_length]; show 0 + F.W.length ≤ 27; omega) _
  · rw [World.cell?_setCell_other _ _ _ _ (by intro h; injection h with _ h; omega)]; exact rangeAt_cell h (fc_sp hW _)
  · exact World.cell?_setCell_same' _ _ _ (by rw [rangeAt_cell h (fc_gp hW _)]; rfl)
  · rw [World.cell?_setCell_other _ _ _ _ (by intro h; injection h with _ h; omega)]; exact rangeAt_cell h (fc_sl hW _)
theorem fc_slot {w : World} {b : Nat} {F : Fc} (hW : F.W.length = 26) {sl : Value} (h : w.rangeAt b 0 (fc F sl)) (sl' : Value) : (w.setCell ⟨b, 28, none⟩ sl').rangeAt b 0 (fc F sl') := by
  refine fc_put hW ?_ ?_ ?_ ?_
  · exact rangeAt_off (rangeAt_left h) (by right; right; rw [wc_length]; omega) _
  · rw [World.cell?_setCell_other _ _ _ _ (by intro h; injection h with _ h; omega)]; exact rangeAt_cell h (fc_sp hW _)
  · rw [World.cell?_setCell_other _ _ _ _ (by intro h; injection h with _ h; omega)]; exact rangeAt_cell h (fc_gp hW _)
  · exact World.cell?_setCell_same' _ _ _ (by rw [rangeAt_cell h (fc_sl hW _)]; rfl)

theorem back_zero {R : Fc} {C : Int} {w w1 : World} {b : Nat} {v : Value} (hR : R = Fc0) (hv : v = .int .i64 C) (hb : Below w.heap.size w w1) (hle : w.heap.size ≤ b) : FaceBack R C w (.returned (.tuple #[.agg zc.toArray, v])) (w1.setCells b 0 zc.toArray.toList) := by
  subst hR; subst hv
  exact ⟨none, 0, rfl, PairsIn.nil _ _ _, below_setCells _ _ _ _ hb hle⟩
theorem zc_row {w1 : World} {b : Nat} (h : w1.there b 0 zc.toArray.size) : (w1.setCells b 0 zc.toArray.toList).rangeAt b 0 zc := World.rangeAt_setCells_same _ _ _ _ h

end Go.Proofs.Ytkbemhjeflmppaa
