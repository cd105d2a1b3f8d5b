/- CodeName of the model and of the program: the same name for every number. -/
import Derived.Test.YtkgoceiingddoaaBase
import Derived.Below
namespace Go.Proofs.Ytkgoceiingddoaa
open Go.RowKit

def codeName (c : Int) : ByteArray :=
  if c = 0 then ⟨#[111, 107]⟩ else if c = 1 then ⟨#[105, 110, 118, 97, 108, 105, 100]⟩ else if c = 2 then ⟨#[114, 97, 110, 103, 101]⟩
  else if c = 3 then ⟨#[108, 105, 109, 105, 116]⟩ else if c = 4 then ⟨#[115, 116, 97, 116, 101]⟩ else if c = 5 then ⟨#[115, 121, 110, 116, 97, 120]⟩
  else if c = 6 then ⟨#[110, 111, 116, 102, 111, 117, 110, 100]⟩ else if c = 7 then ⟨#[98, 117, 100, 103, 101, 116]⟩
  else if c = 8 then ⟨#[112, 114, 111, 111, 102]⟩ else ⟨#[]⟩
theorem codeName_far {c : Int} (h : c < 0 ∨ 8 < c) : codeName c = ⟨#[]⟩ := by
  unfold codeName
  (repeat' split) <;> first | rfl | omega

theorem ret_str {a b : ByteArray} (h : a = b) : Ending.returned (.string a) = .returned (.string b) := by rw [h]

set_option maxHeartbeats 1000000 in
theorem specCodeName_any (c : Int) (w : World) :
    Calls Try.prog 19 #[.int .i64 c] w fun e w' => e = .returned (.string (codeName c)) ∧ Below w.heap.size w w' := by
  by_cases h : c < 0 ∨ 8 < c
  · have hb : inB c 0 8 = false := inB_false.2 h
    have hc := hide (codeName_far h)
    clear h
    go_enter Try.func19, Try.ntmps19
    go_wp2_with (go_at_call 65; refine (l00In_any _ _ _ _).mono ?_; rintro e w' ⟨rfl, rfl⟩)
    go_ret
    exact ⟨ret_str hc.out.symm, (Below.refl _ _).alloc (Nat.le_refl _) _⟩
  · have h' : c = 0 ∨ c = 1 ∨ c = 2 ∨ c = 3 ∨ c = 4 ∨ c = 5 ∨ c = 6 ∨ c = 7 ∨ c = 8 := by omega
    clear h
    rcases h' with rfl | rfl | rfl | rfl | rfl | rfl | rfl | rfl | rfl
    all_goals
      go_enter Try.func19, Try.ntmps19
      go_wp2_with (go_at_call 65; refine (l00In_any _ _ _ _).mono ?_; rintro e w' ⟨rfl, rfl⟩; simp only [show inB 0 0 8 = true by decide, show inB 1 0 8 = true by decide, show inB 2 0 8 = true by decide, show inB 3 0 8 = true by decide, show inB 4 0 8 = true by decide, show inB 5 0 8 = true by decide, show inB 6 0 8 = true by decide, show inB 7 0 8 = true by decide, show inB 8 0 8 = true by decide])
      go_ret
      exact ⟨ret_str (by decide), (Below.refl _ _).alloc (Nat.le_refl _) _⟩

set_option maxHeartbeats 1000000 in
theorem implCodeName_any (c : Int) (w : World) :
    Calls Try.prog 20 #[.int .i64 c] w fun e w' => e = .returned (.string (codeName c)) ∧ Below w.heap.size w w' := by
  by_cases h : c < 0 ∨ 8 < c
  · have hb : inB c 0 8 = false := inB_false.2 h
    have hc := hide (codeName_far h)
    clear h
    go_enter Try.func20, Try.ntmps20
    go_wp2_with (go_at_call 66; refine (between_any _ _ _ _).mono ?_; rintro e w' ⟨rfl, rfl⟩)
    go_ret
    exact ⟨ret_str hc.out.symm, (Below.refl _ _).alloc (Nat.le_refl _) _⟩
  · have h' : c = 0 ∨ c = 1 ∨ c = 2 ∨ c = 3 ∨ c = 4 ∨ c = 5 ∨ c = 6 ∨ c = 7 ∨ c = 8 := by omega
    clear h
    rcases h' with rfl | rfl | rfl | rfl | rfl | rfl | rfl | rfl | rfl
    all_goals
      go_enter Try.func20, Try.ntmps20
      go_wp2_with (go_at_call 66; refine (between_any _ _ _ _).mono ?_; rintro e w' ⟨rfl, rfl⟩; simp only [show inB 0 0 8 = true by decide, show inB 1 0 8 = true by decide, show inB 2 0 8 = true by decide, show inB 3 0 8 = true by decide, show inB 4 0 8 = true by decide, show inB 5 0 8 = true by decide, show inB 6 0 8 = true by decide, show inB 7 0 8 = true by decide, show inB 8 0 8 = true by decide])
      go_ret
      exact ⟨ret_str (by decide), (Below.refl _ _).alloc (Nat.le_refl _) _⟩

theorem lawCodeName_any (c : Int) (_ : (Lit.int .i64 c).wf = true) (w : World) :
    Calls Try.prog 3 #[.int .i64 c] w fun e w' => e = .returned (.bool true) ∧ Below w.heap.size w w' := by
  go_enter Try.func3, Try.ntmps3
  go_wp2_with fail
  refine (specCodeName_any _ _).mono ?_
  rintro e w1 ⟨rfl, hb1⟩
  go_wp2_with fail
  refine (implCodeName_any _ _).mono ?_
  rintro e w2 ⟨rfl, hb2⟩
  go_wp2_with fail
  go_ret
  exact ⟨rfl, hb1.trans (hb2.mono hb1.size)⟩
end Go.Proofs.Ytkgoceiingddoaa
