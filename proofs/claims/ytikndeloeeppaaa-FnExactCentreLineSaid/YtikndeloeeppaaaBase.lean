/- Contracts of the smallest functions of chapter 1: tests on numbers and letters. -/
import Derived.Test.YtikndeloeeppaaaChecked
import Derived.WalkKit
import Derived.Below
namespace Go.Proofs.Ytikndeloeeppaaa
open Go.RowKit

/-- lo ≤ n ≤ hi, as a Bool that the walk does not open. -/
def inB (n lo hi : Int) : Bool := decide (lo ≤ n ∧ n ≤ hi)
theorem inB_true {n lo hi : Int} : inB n lo hi = true ↔ lo ≤ n ∧ n ≤ hi := by simp [inB]
theorem inB_false {n lo hi : Int} : inB n lo hi = false ↔ n < lo ∨ hi < n := by simp [inB]; omega
def cap (b : Int) : Bool := inB b 65 90
theorem cap_true {n : Int} : cap n = true ↔ 65 ≤ n ∧ n ≤ 90 := inB_true
theorem cap_false {n : Int} : cap n = false ↔ n < 65 ∨ 90 < n := inB_false

theorem hide {p : Prop} (h : p) : Hid p := h
theorem ret_bool {a b : Bool} (h : a = b) : Ending.returned (.bool a) = .returned (.bool b) := by rw [h]
theorem ret_int {k : IntKind} {a b : Int} (h : a = b) : Ending.returned (.int k a) = .returned (.int k b) := by rw [h]

set_option maxHeartbeats 400000 in
theorem l00In_any (n lo hi : Int) (w : World) :
    Calls Try.prog 130 #[.int .i64 n, .int .i64 lo, .int .i64 hi] w fun e w' => e = .returned (.bool (inB n lo hi)) ∧ w = w' := by
  go_enter Try.func130, Try.ntmps130
  go_wp2
  all_goals (go_ret; exact ⟨ret_bool (by simp [inB]; try omega), rfl⟩)
set_option maxHeartbeats 400000 in
theorem between_any (n lo hi : Int) (w : World) :
    Calls Try.prog 132 #[.int .i64 n, .int .i64 lo, .int .i64 hi] w fun e w' => e = .returned (.bool (inB n lo hi)) ∧ w = w' := by
  go_enter Try.func132, Try.ntmps132
  go_wp2
  all_goals (go_ret; exact ⟨ret_bool (by simp [inB]; try omega), rfl⟩)
set_option maxHeartbeats 400000 in
theorem l01Letter_any (b : Int) (w : World) :
    Calls Try.prog 82 #[.int .u8 b] w fun e w' => e = .returned (.bool (cap b)) ∧ w = w' := by
  go_enter Try.func82, Try.ntmps82
  go_wp2
  all_goals (go_ret; exact ⟨ret_bool (by simp [cap, inB]; try omega), rfl⟩)
set_option maxHeartbeats 400000 in
theorem isCapital_any (b : Int) (w : World) :
    Calls Try.prog 162 #[.int .u8 b] w fun e w' => e = .returned (.bool (cap b)) ∧ w = w' := by
  go_enter Try.func162, Try.ntmps162
  go_wp2
  all_goals (go_ret; exact ⟨ret_bool (by simp [cap, inB]; try omega), rfl⟩)
set_option maxHeartbeats 400000 in
theorem isBlank_any (b : Int) (w : World) :
    Calls Try.prog 202 #[.int .u8 b] w fun e w' => e = .returned (.bool (b == 32)) ∧ w = w' := by
  go_enter Try.func202, Try.ntmps202
  go_wp2
  all_goals (go_ret; exact ⟨rfl, rfl⟩)
set_option maxHeartbeats 400000 in
theorem isNaN_any (b : Int) (w : World) :
    Calls Try.prog 244 #[.int .u8 b] w fun e w' => e = .returned (.bool false) ∧ w = w' := by
  go_enter Try.func244, Try.ntmps244
  go_wp2
  all_goals (go_ret; exact ⟨by simp, rfl⟩)
/-- cmp.Compare. -/
def cmpI (a b : Int) : Int := if a < b then -1 else if b < a then 1 else 0
set_option maxHeartbeats 400000 in
theorem compare_any (a b : Int) (w : World) :
    Calls Try.prog 228 #[.int .u8 a, .int .u8 b] w fun e w' => e = .returned (.int .i64 (cmpI a b)) ∧ w = w' := by
  go_enter Try.func228, Try.ntmps228
  go_wp2_with (go_at_call 244; refine (isNaN_any _ _).mono ?_; rintro e w' ⟨rfl, rfl⟩)
  all_goals (go_ret; exact ⟨ret_int (by unfold cmpI; (repeat' split) <;> omega), rfl⟩)
end Go.Proofs.Ytikndeloeeppaaa
