/- Rubbings moved, with their code, of both. -/
import Derived.Test.YtjmkbdghenjlaaaDoorRbM
import Derived.Test.YtjmkbdghenjlaaaDoorCodeOf
import Derived.Test.YtjmkbdghenjlaaaDoorTk
namespace Go.Proofs.YtjmkbdghenjlaaaDoor
open Go Go.RowKit

theorem results_midR {P : Program} {fn : Func} {p q : Tmp} {ty : TypeId} (h : fn.results = #[.cell p ty, .tmp q]) (tmps : Array Value) (w : World) (b o : Nat) (cs : List Value) (d : TypeDesc)
    (hp : tmps.getD p undef = .pointer (some ⟨b, o, none⟩)) (hc : w.rangeAt b o cs)
    (hu : P.underlying ty = some d) (hd : d.isRow = true) (hi : (P.info? ty).map (·.size) = some cs.length) :
    (results fn tmps).run P w = .ok (.tuple #[.agg cs.toArray, tmps.getD q undef]) w := by
  have hp' : tmps[p]?.getD undef = .pointer (some ⟨b, o, none⟩) := by simpa using hp
  simp [results, h, hp', asAddr, run_loadVar_mid w b o ty cs d hc hu hd hi]

def zR : List Nat := List.replicate 8 0
theorem zR_ok : rok zR := ⟨rfl, fun x h => by have := List.eq_of_mem_replicate h; subst this; decide⟩
def mayM (x y : Int) : Bool := inB x (-5) 5 && inB y (-5) 5
def mbR (R : List Nat) (x y : Int) : List Nat := if mayM x y = true then mvR R x y else zR
def mbC (x y : Int) : Int := if mayM x y = true then 0 else 2
theorem mb_yes {x y : Int} (h : mayM x y = true) (R : List Nat) : mbR R x y = mvR R x y ∧ mbC x y = 0 := ⟨if_pos h, if_pos h⟩
theorem mb_no {x y : Int} (h : mayM x y = false) (R : List Nat) : mbR R x y = zR ∧ mbC x y = 2 := ⟨if_neg (by rw [h]; decide), if_neg (by rw [h]; decide)⟩
theorem mvR_ok (R : List Nat) (x y : Int) : rok (mvR R x y) := rubF_ok _
theorem mbR_ok (R : List Nat) (x y : Int) : rok (mbR R x y) := by
  unfold mbR; split
  · exact mvR_ok R x y
  · exact zR_ok
theorem zR_at (j : Nat) : zR.getD j 0 = 0 := by
  unfold zR
  rw [List.getD_eq_getElem?_getD, List.getElem?_replicate]
  split <;> rfl
theorem mtN_zero (R : List Nat) : mtN R zR = 0 := by
  have e : cmnL R zR = zR := by
    unfold cmnL
    simp only [zR_at, Nat.and_zero]
    rfl
  unfold mtN
  rw [e]
  decide
/-- A rubbing and a code come back. -/
def RubBack (R : List Nat) (c : Int) (w : World) : Ending → World → Prop := fun e w' => e = .returned (.tuple #[.agg (rwc R).toArray, .int .i64 c]) ∧ Below w.heap.size w w'

set_option maxHeartbeats 1000000 in
theorem mover_any (x y : Int) (w : World) :
    Calls Tryd.prog 87 #[.agg #[.int .i64 x, .int .i64 y]] w fun e w' => e = .returned (.func (.func 124) #[] #[.pointer (some ⟨w.heap.size, 0, none⟩)]) ∧ w' = w.alloc (.cells #[.int .i64 x, .int .i64 y] 144) := by
  go_enter Tryd.func87, Tryd.ntmps87
  go_wp2
  go_ret
  exact ⟨rfl, rfl⟩
theorem ersAt_new2 {w : World} {t : TypeId} (a b : Er) : ErsAt (w.alloc (.cells #[erV a, erV b] t)) (w.alloc (.cells #[erV a, erV b] t)).heap.size (some ⟨w.heap.size, 0, none⟩) [a, b] := fun _ => by
  refine ⟨w.heap.size, 0, rfl, by simp, fun k x hx => ?_⟩
  have hr := rangeAt_new' w #[erV a, erV b] t
  match k with
  | 0 => obtain rfl : a = x := by simpa using hx
         exact hr 0 _ rfl
  | 1 => obtain rfl : b = x := by simpa using hx
         exact hr 1 _ rfl
  | k + 2 => simp at hx
set_option maxHeartbeats 1000000 in
theorem rangeError_in (x lo hi : Int) (h : inB x lo hi = true) (w : World) :
    Calls Tryd.prog 42 #[.int .i64 x, .int .i64 lo, .int .i64 hi] w fun e w' => e = .returned .nilIface ∧ w = w' := by
  have := rangeError_any x lo hi w
  rw [show rgE x lo hi = .none from if_pos h] at this
  exact this
set_option maxHeartbeats 1000000 in
theorem rangeError_out (x lo hi : Int) (h : inB x lo hi = false) (w : World) :
    Calls Tryd.prog 42 #[.int .i64 x, .int .i64 lo, .int .i64 hi] w fun e w' => e = .returned (.iface 130 (.int .i64 x)) ∧ w = w' := by
  have := rangeError_any x lo hi w
  rw [show rgE x lo hi = .R x from if_neg (by rw [h]; decide)] at this
  exact this

end Go.Proofs.YtjmkbdghenjlaaaDoor
