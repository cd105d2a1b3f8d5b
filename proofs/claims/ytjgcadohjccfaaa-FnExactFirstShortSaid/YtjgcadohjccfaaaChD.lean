/- Times: whether they are as told, of both. -/
import Derived.Test.YtjgcadohjccfaaaChC
import Derived.LoopTactic
import Derived.Shelf.Abstract
namespace Go.Proofs.Ytjgcadohjccfaaa
open Go.RowKit

set_option maxRecDepth 100000 in
set_option maxHeartbeats 2000000 in
theorem areAllI_any (f : FuncId) (he : Enters Try.prog f) (p : Int → Bool) (A : Option Addr) (xs : List Int) (c : Nat) (w : World) (hn : xs.length ≤ maxLen) (hA : IntsAt w w.heap.size A xs)
    (hf : ∀ x ∈ xs, ∀ W, Below w.heap.size w W → Calls Try.prog f #[.int .i64 x] W fun e w' => e = .returned (.bool (p x)) ∧ Below W.heap.size W w') :
    Calls Try.prog 93 #[.slice A xs.length c, .func (.func f) #[] #[]] w fun e w' => e = .returned (.bool (xs.all p)) ∧ Below w.heap.size w w' := by
  unfold maxLen at hn
  generalize hS : xs.all p = S
  have HS := hide hS
  have HF := hide hf
  clear hS hf
  unfold Enters at he
  go_enter Try.func93, Try.ntmps93
  go_wp2
  go_loopw [9] (fun i wr => ∃ k : Nat, k ≤ xs.length ∧ i = .int .i64 k ∧ Hid (∀ j x, j < k → xs[j]? = some x → p x = true) ∧ Below w.heap.size w wr) (fun i _ => xs.length - (intOf i).toNat)
  case atStart => exact ⟨0, Nat.zero_le _, rfl, hide (fun j x hj => by omega), Below.refl _ _⟩
  case round =>
    obtain ⟨k, hk, rfl, hg, hB⟩ := hrel
    by_cases hlt : k < xs.length
    · obtain ⟨b, o, rfl, hb, hxs⟩ := hA (by intro e; rw [e] at hlt; simp at hlt)
      obtain ⟨x, hxk⟩ : ∃ x, xs[k]? = some x := ⟨xs[k]'hlt, List.getElem?_eq_getElem _⟩
      have hc : wr.cell? ⟨b, o + k, none⟩ = some (.int .i64 x) := (hB.cell (p := ⟨b, o + k, none⟩) hb).trans (hxs k x hxk)
      have HX := hide hxk
      have hi : (k : Int) < xs.length := by omega
      have h0 : (0 : Int) ≤ k := by omega
      have HC := hide (HF.out x (List.mem_of_getElem? hxk) wr hB)
      clear hxs hxk
      cases hb : p x
      · rw [hb] at HC
        go_wp2_with (go_at_fn f; refine HC.out.mono ?_; rintro e w1 ⟨rfl, hb1⟩)
        go_ret
        exact ⟨ret_bool (by rw [← HS.out, all_false_of HX.out hb]), hB.trans (hb1.mono hB.size)⟩
      · rw [hb] at HC
        go_wp2_with (go_at_fn f; refine HC.out.mono ?_; rintro e w1 ⟨rfl, hb1⟩)
        exact ⟨⟨k + 1, by omega, by go_num, hide (fun j y hj hy => by
          by_cases e : j = k
          · subst e; rw [HX.out] at hy; injection hy with hy; subst hy; exact hb
          · exact hg.out j y (by omega) hy), hB.trans (hb1.mono hB.size)⟩, by simp [intOf]; omega⟩
    · have HA := hide (all_true_of (p := p) (xs := xs) (fun j x hj => hg.out j x (by omega)))
      have hk' : k = xs.length := by omega
      clear hg
      go_wp2
      go_ret
      exact ⟨ret_bool (by rw [← HS.out, HA.out]), hB⟩

/-- A time is as told; and all of them. -/
def timB (x : Int) : Bool := inB x 1 100000
/-- The code of times. -/
def tmC (xs : List Int) (fine : Bool) (most : Int) : Int := if (fine && xs.all timB) = true then if most < xs.length then 3 else 0 else 2
theorem tm_bad {xs : List Int} {fine : Bool} {most : Int} (h : (fine && xs.all timB) = false) : tmC xs fine most = 2 := by unfold tmC; rw [h]; rfl
theorem tm_many {xs : List Int} {fine : Bool} {most : Int} (h : (fine && xs.all timB) = true) (h' : most < xs.length) : tmC xs fine most = 3 := by unfold tmC; rw [if_pos h, if_pos h']
theorem tm_ok {xs : List Int} {fine : Bool} {most : Int} (h : (fine && xs.all timB) = true) (h' : ¬ most < xs.length) : tmC xs fine most = 0 := by unfold tmC; rw [if_pos h, if_neg h']
theorem tm_zero {xs : List Int} {fine : Bool} {most : Int} (h : tmC xs fine most = 0) : fine = true ∧ (∀ x ∈ xs, 1 ≤ x ∧ x ≤ 100000) ∧ (xs.length : Int) ≤ most := by
  unfold tmC at h
  split at h
  · rename_i h1
    simp only [Bool.and_eq_true] at h1
    split at h
    · cases h
    · exact ⟨h1.1, fun x hx => inB_true.1 (List.all_eq_true.1 h1.2 x hx), by omega⟩
  · cases h

theorem all_take_succ {p : Int → Bool} {xs : List Int} {k : Nat} {x : Int} (h : xs[k]? = some x) : (xs.take (k + 1)).all p = ((xs.take k).all p && p x) := by
  rw [List.take_add_one, h]; simp

end Go.Proofs.Ytjgcadohjccfaaa
