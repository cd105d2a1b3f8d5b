/- Rubbings moved, with their code, of both. · Rubbings matched at a move, of both. -/
import Derived.Test.YtngondeaeipcfaaDoorRbM
import Derived.Test.YtngondeaeipcfaaDoorCodeOf
import Derived.Test.YtngondeaeipcfaaDoorTk

namespace Go.Proofs.YtngondeaeipcfaaDoor
open Go Go.RowKit

theorem results_midR {P : Program} {fn : Func} {p q : Tmp} {ty : TypeId} (h : fn.results = #[.cell p ty, .tmp q]) (tmps : Array Value) (w : World) (b o : Nat) (cs : List Value) (d : TypeDesc)
    (hp : tmps.getD p undef = .pointer (some ⟨b, o, none⟩)) (hc : w.rangeAt b o cs)
    (hu : P.underlying ty = some d) (hd : d.isRow = true) (hi : (P.info? ty).map (·.size) = some cs.length) :
    (results fn tmps).run P w = .ok (.tuple #[.agg cs.toArray, tmps.getD q undef]) w := by
  have hp' : tmps[p]?.getD undef = .pointer (some ⟨b, o, none⟩) := by simpa using hp
  simp [results, h, hp', asAddr, run_loadVar_mid w b o ty cs d hc hu hd hi]

def zR : List Nat := List.replicate 8 0
theorem zR_ok : rok zR := ⟨rfl, fun x h => by have := List.eq_of_mem_replicate h; subst this; decide⟩
def mayM (x y : Int) : Bool := inB x (-5) 5 && inB y (-5) 5
def mbR (R : List Nat) (x y : Int) : List Nat := if mayM x y = true then mvR R x y else zR
def mbC (x y : Int) : Int := if mayM x y = true then 0 else 2
theorem mb_yes {x y : Int} (h : mayM x y = true) (R : List Nat) : mbR R x y = mvR R x y ∧ mbC x y = 0 := ⟨if_pos h, if_pos h⟩
theorem mb_no {x y : Int} (h : mayM x y = false) (R : List Nat) : mbR R x y = zR ∧ mbC x y = 2 := ⟨if_neg (by rw [h]; decide), if_neg (by rw [h]; decide)⟩
theorem mvR_ok (R : List Nat) (x y : Int) : rok (mvR R x y) := rubF_ok _
theorem mbR_ok (R : List Nat) (x y : Int) : rok (mbR R x y) := by
  unfold mbR; split
  · exact mvR_ok R x y
  · exact zR_ok
theorem zR_at (j : Nat) : zR.getD j 0 = 0 := by
  unfold zR
  rw [List.getD_eq_getElem?_getD, List.getElem?_replicate]
  split <;> rfl
theorem mtN_zero (R : List Nat) : mtN R zR = 0 := by
  have e : cmnL R zR = zR := by
    unfold cmnL
    simp only [zR_at, Nat.and_zero]
    rfl
  unfold mtN
  rw [e]
  decide
/-- A rubbing and a code come back. -/
def RubBack (R : List Nat) (c : Int) (w : World) : Ending → World → Prop := fun e w' => e = .returned (.tuple #[.agg (rwc R).toArray, .int .i64 c]) ∧ Below w.heap.size w w'

set_option maxHeartbeats 1000000 in
theorem l07May_any (x y : Int) (w : World) :
    Calls Tryd.prog 74 #[.int .i64 x, .int .i64 y] w fun e w' => e = .returned (.bool (mayM x y)) ∧ w = w' := by
  have HM := hide (show mayM x y = (inB x (-5) 5 && inB y (-5) 5) from rfl)
  cases h1 : inB x (-5) 5
  · go_enter Tryd.func74, Tryd.ntmps74
    go_wp2_with (go_at_call 131; refine (l00In_any _ _ _ _).mono ?_; rintro e w' ⟨rfl, rfl⟩; simp only [h1])
    go_ret
    exact ⟨ret_bool (by rw [HM.out, h1]; rfl), rfl⟩
  · cases h2 : inB y (-5) 5
    · go_enter Tryd.func74, Tryd.ntmps74
      go_wp2_with (go_at_call 131; refine (l00In_any _ _ _ _).mono ?_; rintro e w' ⟨rfl, rfl⟩; simp only [h1, h2])
      go_ret
      exact ⟨ret_bool (by rw [HM.out, h1, h2]; rfl), rfl⟩
    · go_enter Tryd.func74, Tryd.ntmps74
      go_wp2_with (go_at_call 131; refine (l00In_any _ _ _ _).mono ?_; rintro e w' ⟨rfl, rfl⟩; simp only [h1, h2])
      go_ret
      exact ⟨ret_bool (by rw [HM.out, h1, h2]; rfl), rfl⟩

set_option maxRecDepth 100000 in
set_option maxHeartbeats 4000000 in
theorem specMoveRubbing_any (R : List Nat) (hR : rok R) (x y : Int) (w : World) :
    Calls Tryd.prog 26 #[.agg (rwc R).toArray, .int .i64 x, .int .i64 y] w (RubBack (mbR R x y) (mbC x y) w) := by
  have hr := World.rangeAt_alloc (rangeAt_new w (rwc R) 26) (.cells #[.int .u16 0, .int .u16 0, .int .u16 0, .int .u16 0, .int .u16 0, .int .u16 0, .int .u16 0, .int .u16 0] 26)
  have ht : ((w.alloc (.cells (rwc R).toArray 26)).alloc (.cells #[.int .u16 0, .int .u16 0, .int .u16 0, .int .u16 0, .int .u16 0, .int .u16 0, .int .u16 0, .int .u16 0] 26)).there (w.heap.size + 1) 0 8 := there_newg (by simp) rfl
  have hb : Below w.heap.size w ((w.alloc (.cells (rwc R).toArray 26)).alloc (.cells #[.int .u16 0, .int .u16 0, .int .u16 0, .int .u16 0, .int .u16 0, .int .u16 0, .int .u16 0, .int .u16 0] 26)) := ((Below.refl _ _).alloc (Nat.le_refl _) _).alloc (by simp) _
  have s1 : w.heap.size + 1 < ((w.alloc (.cells (rwc R).toArray 26)).alloc (.cells #[.int .u16 0, .int .u16 0, .int .u16 0, .int .u16 0, .int .u16 0, .int .u16 0, .int .u16 0, .int .u16 0] 26)).heap.size := by simp
  have HM := hide (fun hx hy W h => l07Move_any R hR w.heap.size x y hx hy W h)
  cases h : mayM x y
  · rw [(mb_no h R).1, (mb_no h R).2]
    clear HM hr
    go_enter Tryd.func26, Tryd.ntmps26
    go_wp2_with fail
    generalize ((w.alloc (.cells (rwc R).toArray 26)).alloc (.cells #[.int .u16 0, .int .u16 0, .int .u16 0, .int .u16 0, .int .u16 0, .int .u16 0, .int .u16 0, .int .u16 0] 26)) = W0 at *
    refine (l07May_any _ _ _).mono ?_
    rintro e w1 ⟨rfl, rfl⟩
    simp only [h]
    go_wp2_with (refine wpList_store_mid rfl 26 (.tmp 6) (.tmp 12) rfl (w.heap.size + 1) 0 (rwc zR).toArray rfl rfl ht (rub_info zR_ok.1) (rwc_one _) ?_)
    refine bodyPost_ret (results_midR rfl _ _ (w.heap.size + 1) 0 (rwc zR) _ rfl (World.rangeAt_setCells_same _ _ _ _ ht) Tryd.underlying26 rfl (rub_info' zR_ok.1)) rfl ⟨rfl, ?_⟩
    exact below_setCells _ _ _ _ hb (by omega)
  · rw [(mb_yes h R).1, (mb_yes h R).2]
    have h' := h
    unfold mayM at h'
    simp only [Bool.and_eq_true, inB_true] at h'
    have HC := hide (HM.out h'.1 h'.2)
    have HL := hide (mvR_ok R x y).1
    clear HM h'
    go_enter Tryd.func26, Tryd.ntmps26
    go_wp2_with fail
    generalize ((w.alloc (.cells (rwc R).toArray 26)).alloc (.cells #[.int .u16 0, .int .u16 0, .int .u16 0, .int .u16 0, .int .u16 0, .int .u16 0, .int .u16 0, .int .u16 0] 26)) = W0 at *
    refine (l07May_any _ _ _).mono ?_
    rintro e w1 ⟨rfl, rfl⟩
    simp only [h]
    generalize mvR R x y = T at *
    go_wp2_with fail
    refine (HC.out _ hr).mono ?_
    rintro e w2 ⟨rfl, hb2⟩
    have ht2 : w2.there (w.heap.size + 1) 0 (rwc T).toArray.size := by simp only [List.size_toArray]; rw [rwc_length, HL.out]; exact there_below ht hb2 s1
    have hB := hb.trans (hb2.mono hb.size)
    clear hr ht hb2 hb
    go_wp2_with (refine wpList_store_mid rfl 26 (.tmp 6) (.tmp 15) rfl (w.heap.size + 1) 0 (rwc T).toArray rfl rfl ht2 (rub_info HL.out) (rwc_one _) ?_)
    refine bodyPost_ret (results_midR rfl _ _ (w.heap.size + 1) 0 (rwc T) _ rfl (World.rangeAt_setCells_same _ _ _ _ ht2) Tryd.underlying26 rfl (rub_info' HL.out)) rfl ⟨rfl, ?_⟩
    exact below_setCells _ _ _ _ hB (by omega)

/-! the program's -/
set_option maxHeartbeats 1000000 in
theorem mover_any (x y : Int) (w : World) :
    Calls Tryd.prog 57 #[.agg #[.int .i64 x, .int .i64 y]] w fun e w' => e = .returned (.func (.func 123) #[] #[.pointer (some ⟨w.heap.size, 0, none⟩)]) ∧ w' = w.alloc (.cells #[.int .i64 x, .int .i64 y] 95) := by
  go_enter Tryd.func57, Tryd.ntmps57
  go_wp2
  go_ret
  exact ⟨rfl, rfl⟩
theorem ersAt_new2 {w : World} {t : TypeId} (a b : Er) : ErsAt (w.alloc (.cells #[erV a, erV b] t)) (w.alloc (.cells #[erV a, erV b] t)).heap.size (some ⟨w.heap.size, 0, none⟩) [a, b] := fun _ => by
  refine ⟨w.heap.size, 0, rfl, by simp, fun k x hx => ?_⟩
  have hr := rangeAt_new' w #[erV a, erV b] t
  match k with
  | 0 => obtain rfl : a = x := by simpa using hx
         exact hr 0 _ rfl
  | 1 => obtain rfl : b = x := by simpa using hx
         exact hr 1 _ rfl
  | k + 2 => simp at hx
set_option maxHeartbeats 1000000 in
theorem rangeError_in (x lo hi : Int) (h : inB x lo hi = true) (w : World) :
    Calls Tryd.prog 76 #[.int .i64 x, .int .i64 lo, .int .i64 hi] w fun e w' => e = .returned .nilIface ∧ w = w' := by
  have := rangeError_any x lo hi w
  rw [show rgE x lo hi = .none from if_pos h] at this
  exact this
set_option maxHeartbeats 1000000 in
theorem rangeError_out (x lo hi : Int) (h : inB x lo hi = false) (w : World) :
    Calls Tryd.prog 76 #[.int .i64 x, .int .i64 lo, .int .i64 hi] w fun e w' => e = .returned (.iface 192 (.int .i64 x)) ∧ w = w' := by
  have := rangeError_any x lo hi w
  rw [show rgE x lo hi = .R x from if_neg (by rw [h]; decide)] at this
  exact this

set_option maxRecDepth 100000 in
set_option maxHeartbeats 8000000 in
theorem implMoveRubbing_any (R : List Nat) (hR : rok R) (x y : Int) (w : World) (hg : ErrT w) :
    Calls Tryd.prog 25 #[.agg (rwc R).toArray, .int .i64 x, .int .i64 y] w (RubBack (mbR R x y) (mbC x y) w) := by
  have HI := hide (rw_info hR.1)
  have hr := World.rangeAt_alloc (rangeAt_new w (rwc R) 26) (.cells #[.int .u16 0, .int .u16 0, .int .u16 0, .int .u16 0, .int .u16 0, .int .u16 0, .int .u16 0, .int .u16 0] 26)
  have ht : ((w.alloc (.cells (rwc R).toArray 26)).alloc (.cells #[.int .u16 0, .int .u16 0, .int .u16 0, .int .u16 0, .int .u16 0, .int .u16 0, .int .u16 0, .int .u16 0] 26)).there (w.heap.size + 1) 0 8 := there_newg (by simp) rfl
  have hb : Below w.heap.size w ((w.alloc (.cells (rwc R).toArray 26)).alloc (.cells #[.int .u16 0, .int .u16 0, .int .u16 0, .int .u16 0, .int .u16 0, .int .u16 0, .int .u16 0, .int .u16 0] 26)) := ((Below.refl _ _).alloc (Nat.le_refl _) _).alloc (by simp) _
  have s1 : w.heap.size + 1 < ((w.alloc (.cells (rwc R).toArray 26)).alloc (.cells #[.int .u16 0, .int .u16 0, .int .u16 0, .int .u16 0, .int .u16 0, .int .u16 0, .int .u16 0, .int .u16 0] 26)).heap.size := by simp
  have hg0 := hg.below hb
  have HM := hide (fun hx hy P W h => mover1_any R hR P x y hx hy W h)
  clear hg hR
  cases h1 : inB x (-5) 5
  · cases h2 : inB y (-5) 5
    · have h : mayM x y = false := by unfold mayM; rw [h1, h2]; rfl
      rw [(mb_no h R).1, (mb_no h R).2]
      have HCD := hide (show erC [Er.R x, Er.R y] = 2 from rfl)
      go_enter Tryd.func25, Tryd.ntmps25
      go_wp2_with fail
      generalize ((w.alloc (.cells (rwc R).toArray 26)).alloc (.cells #[.int .u16 0, .int .u16 0, .int .u16 0, .int .u16 0, .int .u16 0, .int .u16 0, .int .u16 0, .int .u16 0] 26)) = W0 at *
      refine (rangeError_out x (-5) 5 h1 _).mono ?_
      rintro e w' ⟨rfl, rfl⟩
      go_wp2_with fail
      refine (rangeError_out y (-5) 5 h2 _).mono ?_
      rintro e w' ⟨rfl, rfl⟩
      go_wp2_with fail
      have hb2 : Below W0.heap.size W0 (W0.alloc (.cells #[.iface 192 (.int .i64 x), .iface 192 (.int .i64 y)] 115)) := (Below.refl _ _).alloc (Nat.le_refl _) _
      have HC := hide (codeOf_any (some ⟨W0.heap.size, 0, none⟩) [Er.R x, Er.R y] 2 (W0.alloc (.cells #[.iface 192 (.int .i64 x), .iface 192 (.int .i64 y)] 115)) (by simp) (ersAt_new2 (Er.R x) (Er.R y)) (hg0.below hb2))
      rw [HCD.out] at HC
      refine HC.out.mono ?_
      rintro e w1 ⟨rfl, hb1⟩
      have hB1 := hb2.trans (hb1.mono hb2.size)
      have hr1 := rangeAt_below hr hB1 (by omega)
      have ht1 := there_below ht hB1 s1
      have hBB := hb.trans (hB1.mono hb.size)
      have z1 := hb.size
      have z2 := hB1.size
      clear hb2 HC hg0 hr ht hB1 hb1 HCD
      go_wp2_with (refine wpList_store_mid rfl 26 (.tmp 6) (.tmp 17) rfl (w.heap.size + 1) 0 (rwc zR).toArray rfl rfl ht1 (rub_info zR_ok.1) (rwc_one _) ?_)
      refine bodyPost_ret (results_midR rfl _ _ (w.heap.size + 1) 0 (rwc zR) _ rfl (World.rangeAt_setCells_same _ _ _ _ ht1) Tryd.underlying26 rfl (rub_info' zR_ok.1)) rfl ⟨rfl, ?_⟩
      exact below_setCells _ _ _ _ hBB (by omega)
    · have h : mayM x y = false := by unfold mayM; rw [h1, h2]; rfl
      rw [(mb_no h R).1, (mb_no h R).2]
      have HCD := hide (show erC [Er.R x, Er.none] = 2 from rfl)
      go_enter Tryd.func25, Tryd.ntmps25
      go_wp2_with fail
      generalize ((w.alloc (.cells (rwc R).toArray 26)).alloc (.cells #[.int .u16 0, .int .u16 0, .int .u16 0, .int .u16 0, .int .u16 0, .int .u16 0, .int .u16 0, .int .u16 0] 26)) = W0 at *
      refine (rangeError_out x (-5) 5 h1 _).mono ?_
      rintro e w' ⟨rfl, rfl⟩
      go_wp2_with fail
      refine (rangeError_in y (-5) 5 h2 _).mono ?_
      rintro e w' ⟨rfl, rfl⟩
      go_wp2_with fail
      have hb2 : Below W0.heap.size W0 (W0.alloc (.cells #[.iface 192 (.int .i64 x), .nilIface] 115)) := (Below.refl _ _).alloc (Nat.le_refl _) _
      have HC := hide (codeOf_any (some ⟨W0.heap.size, 0, none⟩) [Er.R x, Er.none] 2 (W0.alloc (.cells #[.iface 192 (.int .i64 x), .nilIface] 115)) (by simp) (ersAt_new2 (Er.R x) (Er.none)) (hg0.below hb2))
      rw [HCD.out] at HC
      refine HC.out.mono ?_
      rintro e w1 ⟨rfl, hb1⟩
      have hB1 := hb2.trans (hb1.mono hb2.size)
      have hr1 := rangeAt_below hr hB1 (by omega)
      have ht1 := there_below ht hB1 s1
      have hBB := hb.trans (hB1.mono hb.size)
      have z1 := hb.size
      have z2 := hB1.size
      clear hb2 HC hg0 hr ht hB1 hb1 HCD
      go_wp2_with (refine wpList_store_mid rfl 26 (.tmp 6) (.tmp 17) rfl (w.heap.size + 1) 0 (rwc zR).toArray rfl rfl ht1 (rub_info zR_ok.1) (rwc_one _) ?_)
      refine bodyPost_ret (results_midR rfl _ _ (w.heap.size + 1) 0 (rwc zR) _ rfl (World.rangeAt_setCells_same _ _ _ _ ht1) Tryd.underlying26 rfl (rub_info' zR_ok.1)) rfl ⟨rfl, ?_⟩
      exact below_setCells _ _ _ _ hBB (by omega)
  · cases h2 : inB y (-5) 5
    · have h : mayM x y = false := by unfold mayM; rw [h1, h2]; rfl
      rw [(mb_no h R).1, (mb_no h R).2]
      have HCD := hide (show erC [Er.none, Er.R y] = 2 from rfl)
      go_enter Tryd.func25, Tryd.ntmps25
      go_wp2_with fail
      generalize ((w.alloc (.cells (rwc R).toArray 26)).alloc (.cells #[.int .u16 0, .int .u16 0, .int .u16 0, .int .u16 0, .int .u16 0, .int .u16 0, .int .u16 0, .int .u16 0] 26)) = W0 at *
      refine (rangeError_in x (-5) 5 h1 _).mono ?_
      rintro e w' ⟨rfl, rfl⟩
      go_wp2_with fail
      refine (rangeError_out y (-5) 5 h2 _).mono ?_
      rintro e w' ⟨rfl, rfl⟩
      go_wp2_with fail
      have hb2 : Below W0.heap.size W0 (W0.alloc (.cells #[.nilIface, .iface 192 (.int .i64 y)] 115)) := (Below.refl _ _).alloc (Nat.le_refl _) _
      have HC := hide (codeOf_any (some ⟨W0.heap.size, 0, none⟩) [Er.none, Er.R y] 2 (W0.alloc (.cells #[.nilIface, .iface 192 (.int .i64 y)] 115)) (by simp) (ersAt_new2 (Er.none) (Er.R y)) (hg0.below hb2))
      rw [HCD.out] at HC
      refine HC.out.mono ?_
      rintro e w1 ⟨rfl, hb1⟩
      have hB1 := hb2.trans (hb1.mono hb2.size)
      have hr1 := rangeAt_below hr hB1 (by omega)
      have ht1 := there_below ht hB1 s1
      have hBB := hb.trans (hB1.mono hb.size)
      have z1 := hb.size
      have z2 := hB1.size
      clear hb2 HC hg0 hr ht hB1 hb1 HCD
      go_wp2_with (refine wpList_store_mid rfl 26 (.tmp 6) (.tmp 17) rfl (w.heap.size + 1) 0 (rwc zR).toArray rfl rfl ht1 (rub_info zR_ok.1) (rwc_one _) ?_)
      refine bodyPost_ret (results_midR rfl _ _ (w.heap.size + 1) 0 (rwc zR) _ rfl (World.rangeAt_setCells_same _ _ _ _ ht1) Tryd.underlying26 rfl (rub_info' zR_ok.1)) rfl ⟨rfl, ?_⟩
      exact below_setCells _ _ _ _ hBB (by omega)
    · have h : mayM x y = true := by unfold mayM; rw [h1, h2]; rfl
      rw [(mb_yes h R).1, (mb_yes h R).2]
      have HMM := hide (HM.out (inB_true.1 h1) (inB_true.1 h2))
      have HL := hide (mvR_ok R x y).1
      generalize mvR R x y = T at *
      have HCD := hide (show erC [Er.none, Er.none] = 0 from rfl)
      go_enter Tryd.func25, Tryd.ntmps25
      go_wp2_with fail
      generalize ((w.alloc (.cells (rwc R).toArray 26)).alloc (.cells #[.int .u16 0, .int .u16 0, .int .u16 0, .int .u16 0, .int .u16 0, .int .u16 0, .int .u16 0, .int .u16 0] 26)) = W0 at *
      refine (rangeError_in x (-5) 5 h1 _).mono ?_
      rintro e w' ⟨rfl, rfl⟩
      go_wp2_with fail
      refine (rangeError_in y (-5) 5 h2 _).mono ?_
      rintro e w' ⟨rfl, rfl⟩
      go_wp2_with fail
      have hb2 : Below W0.heap.size W0 (W0.alloc (.cells #[.nilIface, .nilIface] 115)) := (Below.refl _ _).alloc (Nat.le_refl _) _
      have HC := hide (codeOf_any (some ⟨W0.heap.size, 0, none⟩) [Er.none, Er.none] 2 (W0.alloc (.cells #[.nilIface, .nilIface] 115)) (by simp) (ersAt_new2 (Er.none) (Er.none)) (hg0.below hb2))
      rw [HCD.out] at HC
      refine HC.out.mono ?_
      rintro e w1 ⟨rfl, hb1⟩
      have hB1 := hb2.trans (hb1.mono hb2.size)
      have hr1 := rangeAt_below hr hB1 (by omega)
      have ht1 := there_below ht hB1 s1
      have hBB := hb.trans (hB1.mono hb.size)
      have z1 := hb.size
      have z2 := hB1.size
      clear hb2 HC hg0 hr ht hB1 hb1 HCD
      have HRR := hide (fun w' (h : Below (w.heap.size + 1) w1 w') => rangeAt_below hr1 h (by omega))
      go_wp2
      refine wp_region_script [(0, true), (1, true), (2, true), (4, true), (3, false), (5, false), (6, false), (7, false)]
        (fun w' => Below (w.heap.size + 1) w1 w') (by kernel_rfl) (by kernel_rfl) (of_decide_eq_true (by kernel_rfl)) (by kernel_rfl) (fun _ _ d _ _ h => by cases d <;> exact h) ((Below.refl _ _).drew) ?_
      refine sc_take (.int .i64 x) rfl (.inl ⟨rfl, fun w' h => rfl⟩) ?_
      simp only [List.getElem_toArray, List.getElem_cons_succ, List.getElem_cons_zero, Act.put, List.setIfInBounds_toArray, List.set_cons_zero, List.set_cons_succ]
      refine sc_take (.int .i64 y) rfl (.inl ⟨rfl, fun w' h => rfl⟩) ?_
      simp only [List.getElem_toArray, List.getElem_cons_succ, List.getElem_cons_zero, Act.put, List.setIfInBounds_toArray, List.set_cons_zero, List.set_cons_succ]
      refine sc_take (.agg #[.int .i64 x, .int .i64 y]) rfl (.inl ⟨rfl, fun w _ => by kernel_rfl⟩) ?_
      simp only [List.getElem_toArray, List.getElem_cons_succ, List.getElem_cons_zero, Act.put, List.setIfInBounds_toArray, List.set_cons_zero, List.set_cons_succ]
      refine sc_take (.agg (rwc R).toArray) rfl (yieldsIf_load_mid (by rfl) _ (.tmp 3) rfl _ 0 rfl _ _ (fun w h => HRR.out w h) Tryd.underlying26 rfl HI.out) ?_
      simp only [List.getElem_toArray, List.getElem_cons_succ, List.getElem_cons_zero, Act.put, List.setIfInBounds_toArray, List.set_cons_zero, List.set_cons_succ]
      refine sc_step rfl ?_
      go_wp2_with fail
      refine (mover_any _ _ _).mono ?_
      rintro e w2 ⟨rfl, hw2⟩
      have hx2 : Below (w.heap.size + 1) w1 w2 := by rw [hw2]; exact ((Below.refl _ _).drew).alloc (by simp; omega) _
      have hx3 : Below w1.heap.size w1 w2 := by rw [hw2]; exact ((Below.refl _ _).drew).alloc (Nat.le_refl _) _
      have hp2 : w2.rangeAt w1.heap.size 0 [.int .i64 x, .int .i64 y] := by rw [hw2]; exact rangeAt_new' w1.drew #[.int .i64 x, .int .i64 y] 95
      have HCM := hide (HMM.out w1.heap.size w2 hp2)
      have ht2 := there_below ht1 hx3 (by omega)
      have hz3 := hx3.size
      clear hw2 hp2
      go_wp2_with fail
      refine ⟨hx2, sc_step rfl ?_⟩
      go_wp2_with fail
      refine HCM.out.mono ?_
      rintro e w3 ⟨rfl, hb3⟩
      have hx4 := hx2.trans (hb3.mono (by omega))
      have ht3 : w3.there (w.heap.size + 1) 0 (rwc T).toArray.size := by simp only [List.size_toArray]; rw [rwc_length, HL.out]; exact there_below ht2 hb3 (by omega)
      have hB5 := hBB.trans (hx4.mono (by omega))
      go_wp2_with fail
      refine ⟨hx4, sc_step rfl ?_⟩
      refine wpList_store_mid rfl 26 (.tmp 6) (.tmp 24) rfl (w.heap.size + 1) 0 (rwc T).toArray rfl rfl ht3 (rub_info HL.out) (rwc_one _) ?_
      go_wp2_with fail
      have hx5 : Below (w.heap.size + 1) w1 (w3.setCells (w.heap.size + 1) 0 (rwc T).toArray.toList) := below_setCells _ _ _ _ hx4 (Nat.le_refl _)
      refine ⟨hx5, sc_step rfl ?_⟩
      go_wp2_with fail
      refine sc_nil ?_
      go_wp2_with fail
      refine bodyPost_ret (results_midR rfl _ _ (w.heap.size + 1) 0 (rwc T) _ rfl (World.rangeAt_setCells_same _ _ _ _ ht3) Tryd.underlying26 rfl (rub_info' HL.out)) rfl ⟨rfl, ?_⟩
      exact below_setCells _ _ _ _ hB5 (by omega)
end Go.Proofs.YtngondeaeipcfaaDoor

namespace Go.Proofs.YtngondeaeipcfaaDoor
open Go Go.RowKit

def maV (R S : List Nat) (x y : Int) : Int := ((mtN R (mbR S x y) : Nat) : Int)
theorem ma_yes {x y : Int} (h : mayM x y = true) (R S : List Nat) : maV R S x y = ((mtN R (mvR S x y) : Nat) : Int) := by unfold maV; rw [(mb_yes h S).1]
theorem ma_no {x y : Int} (h : mayM x y = false) (R S : List Nat) : maV R S x y = 0 := by unfold maV; rw [(mb_no h S).1, mtN_zero]; rfl

set_option maxRecDepth 100000 in
set_option maxHeartbeats 4000000 in
theorem specMatchAt_any (R : List Nat) (hR : rok R) (R2 : List Nat) (hR2 : rok R2) (x y : Int) (w : World) :
    Calls Tryd.prog 23 #[.agg (rwc R).toArray, .agg (rwc R2).toArray, .int .i64 x, .int .i64 y] w fun e w' => e = .returned (.tuple #[.int .i64 (maV R R2 x y), .int .i64 (mbC x y)]) ∧ Below w.heap.size w w' := by
  have hb0 : Below w.heap.size w ((w.alloc (.cells (rwc R).toArray 26)).alloc (.cells (rwc R2).toArray 26)) := ((Below.refl _ _).alloc (Nat.le_refl _) _).alloc (by simp) _
  have r0 : ((w.alloc (.cells (rwc R).toArray 26)).alloc (.cells (rwc R2).toArray 26)).rangeAt w.heap.size 0 (rwc R) := World.rangeAt_alloc (rangeAt_new _ _ _) _
  have r1 : ((w.alloc (.cells (rwc R).toArray 26)).alloc (.cells (rwc R2).toArray 26)).rangeAt (w.heap.size + 1) 0 (rwc R2) := rangeAt_newg (by simp) rfl
  have HB := hide hb0
  cases h : mayM x y
  · rw [ma_no h, (mb_no h R).2]
    clear r0 r1 hR hR2 hb0
    go_enter Tryd.func23, Tryd.ntmps23
    go_wp2_with (go_at_call 74; refine (l07May_any _ _ _).mono ?_; rintro e w' ⟨rfl, rfl⟩; simp only [h])
    go_ret2
    exact ⟨rfl, HB.out⟩
  · have h' := h
    unfold mayM at h'
    simp only [Bool.and_eq_true, inB_true] at h'
    have HC := hide (l07At_any R R2 hR hR2 _ _ x y h'.1 h'.2 _ r0 r1)
    have HE := hide (ma_yes h R R2)
    rw [(mb_yes h R).2]
    clear r0 r1 hR hR2 hb0 h'
    go_enter Tryd.func23, Tryd.ntmps23
    go_wp2_with (first | (go_at_call 74; refine (l07May_any _ _ _).mono ?_; rintro e w' ⟨rfl, rfl⟩; simp only [h]) | (go_at_call 61; refine HC.out.mono ?_; rintro e w1 ⟨rfl, hb1⟩))
    go_ret2
    exact ⟨by rw [HE.out]; rfl, HB.out.trans (hb1.mono HB.out.size)⟩

set_option maxRecDepth 100000 in
set_option maxHeartbeats 8000000 in
theorem implMatchAt_any (R : List Nat) (hR : rok R) (R2 : List Nat) (hR2 : rok R2) (x y : Int) (w : World) (hg : ErrT w) :
    Calls Tryd.prog 27 #[.agg (rwc R).toArray, .agg (rwc R2).toArray, .int .i64 x, .int .i64 y] w fun e w' => e = .returned (.tuple #[.int .i64 (maV R R2 x y), .int .i64 (mbC x y)]) ∧ Below w.heap.size w w' := by
  have HI := hide (rw_info hR.1)
  have HI2 := hide (rw_info hR2.1)
  have hb0 : Below w.heap.size w ((w.alloc (.cells (rwc R).toArray 26)).alloc (.cells (rwc R2).toArray 26)) := ((Below.refl _ _).alloc (Nat.le_refl _) _).alloc (by simp) _
  have r0 : ((w.alloc (.cells (rwc R).toArray 26)).alloc (.cells (rwc R2).toArray 26)).rangeAt w.heap.size 0 (rwc R) := World.rangeAt_alloc (rangeAt_new _ _ _) _
  have r1 : ((w.alloc (.cells (rwc R).toArray 26)).alloc (.cells (rwc R2).toArray 26)).rangeAt (w.heap.size + 1) 0 (rwc R2) := rangeAt_newg (by simp) rfl
  have s0 : w.heap.size < ((w.alloc (.cells (rwc R).toArray 26)).alloc (.cells (rwc R2).toArray 26)).heap.size := by simp; omega
  have hg0 := hg.below hb0
  have HM := hide (fun W h => implMoveRubbing_any R2 hR2 x y W h)
  have HMO := hide (fun W => implMatchOf_any R hR (mbR R2 x y) (mbR_ok R2 x y) W)
  have HL := hide (mbR_ok R2 x y).1
  have HE := hide (show maV R R2 x y = ((mtN R (mbR R2 x y) : Nat) : Int) from rfl)
  have HB := hide hb0
  unfold RubBack at HM
  rw [HE.out]
  generalize mbR R2 x y = T at *
  clear hR hR2 hb0 hg HE
  go_enter Tryd.func27, Tryd.ntmps27
  go_wp2_with (refine wpList_load_mid rfl 26 (.tmp 5) rfl _ 0 rfl (rwc R2) _ r1 Tryd.underlying26 rfl HI2.out ?_)
  generalize ((w.alloc (.cells (rwc R).toArray 26)).alloc (.cells (rwc R2).toArray 26)) = W0 at *
  refine (HM.out W0 hg0).mono ?_
  rintro e w1 ⟨rfl, hb1⟩
  obtain ⟨w2, hW2, r2, b2, s2, t20⟩ := stored_rub w1 T HL.out
  have HW2 := hide hW2
  have hB2 := hb1.trans (b2.mono hb1.size)
  have r02 := rangeAt_below r0 hB2 s0
  clear hW2 hb1 b2 hg0 r0 r1
  go_wp2_with (first | (refine wpList_store_mid rfl 26 (.tmp 10) (.tmp 17) rfl w1.heap.size 0 _ rfl rfl t20 (rub_info HL.out) (rwc_one _) ?_; rw [← HW2.out]) | (refine wpList_load_mid rfl 26 (.tmp 4) rfl _ 0 rfl (rwc R) _ r02 Tryd.underlying26 rfl HI.out ?_) | (refine wpList_load_mid rfl 26 (.tmp 10) rfl _ 0 rfl (rwc T) _ r2 Tryd.underlying26 rfl (rub_info' HL.out) ?_) | (go_at_call 21; refine (HMO.out _).mono ?_; rintro e w3 ⟨rfl, hb3⟩))
  go_ret2
  exact ⟨rfl, HB.out.trans ((hB2.trans (hb3.mono hB2.size)).mono HB.out.size)⟩
end Go.Proofs.YtngondeaeipcfaaDoor
