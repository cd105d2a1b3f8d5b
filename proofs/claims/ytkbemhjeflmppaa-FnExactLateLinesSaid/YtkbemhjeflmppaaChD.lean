/- Times: whether they are as told, of both. -/
import Derived.Test.YtkbemhjeflmppaaChC
import Derived.LoopTactic
import Derived.Shelf.Abstract
namespace Go.Proofs.Ytkbemhjeflmppaa
open Go.RowKit

set_option maxRecDepth 100000 in
set_option maxHeartbeats 2000000 in
theorem areAllI_any (f : FuncId) (he : Enters Try.prog f) (p : Int → Bool) (A : Option Addr) (xs : List Int) (c : Nat) (w : World) (hn : xs.length ≤ maxLen) (hA : IntsAt w w.heap.size A xs)
    (hf : ∀ x ∈ xs, ∀ W, Below w.heap.size w W → Calls Try.prog f #[.int .i64 x] W fun e w' => e = .returned (.bool (p x)) ∧ Below W.heap.size W w') :
    Calls Try.prog 118 #[.slice A xs.length c, .func (.func f) #[] #[]] w fun e w' => e = .returned (.bool (xs.all p)) ∧ Below w.heap.size w w' := by
  unfold maxLen at hn
  generalize hS : xs.all p = S
  have HS := hide hS
  have HF := hide hf
  clear hS hf
  unfold Enters at he
  go_enter Try.func118, Try.ntmps118
  go_wp2
  go_loopw [9] (fun i wr => ∃ k : Nat, k ≤ xs.length ∧ i = .int .i64 k ∧ Hid (∀ j x, j < k → xs[j]? = some x → p x = true) ∧ Below w.heap.size w wr) (fun i _ => xs.length - (intOf i).toNat)
  case atStart => exact ⟨0, Nat.zero_le _, rfl, hide (fun j x hj => by omega), Below.refl _ _⟩
  case round =>
    obtain ⟨k, hk, rfl, hg, hB⟩ := hrel
    by_cases hlt : k < xs.length
    · obtain ⟨b, o, rfl, hb, hxs⟩ := hA (by intro e; rw [e] at hlt; simp at hlt)
      obtain ⟨x, hxk⟩ : ∃ x, xs[k]? = some x := ⟨xs[k]'hlt, List.getElem?_eq_getElem _⟩
      have hc : wr.cell? ⟨b, o + k, none⟩ = some (.int .i64 x) := (hB.cell (p := ⟨b, o + k, none⟩) hb).trans (hxs k x hxk)
      have HX := hide hxk
      have hi : (k : Int) < xs.length := by omega
      have h0 : (0 : Int) ≤ k := by omega
      have HC := hide (HF.out x (List.mem_of_getElem? hxk) wr hB)
      clear hxs hxk
      cases hb : p x
      · rw [hb] at HC
        go_wp2_with (go_at_fn f; refine HC.out.mono ?_; rintro e w1 ⟨rfl, hb1⟩)
        go_ret
        exact ⟨ret_bool (by rw [← HS.out, all_false_of HX.out hb]), hB.trans (hb1.mono hB.size)⟩
      · rw [hb] at HC
        go_wp2_with (go_at_fn f; refine HC.out.mono ?_; rintro e w1 ⟨rfl, hb1⟩)
        exact ⟨⟨k + 1, by omega, by go_num, hide (fun j y hj hy => by
          by_cases e : j = k
          · subst e; rw [HX.out] at hy; injection hy with hy; subst hy; exact hb
          · exact hg.out j y (by omega) hy), hB.trans (hb1.mono hB.size)⟩, by simp [intOf]; omega⟩
    · have HA := hide (all_true_of (p := p) (xs := xs) (fun j x hj => hg.out j x (by omega)))
      have hk' : k = xs.length := by omega
      clear hg
      go_wp2
      go_ret
      exact ⟨ret_bool (by rw [← HS.out, HA.out]), hB⟩

/-- A time is as told; and all of them. -/
def timB (x : Int) : Bool := inB x 1 100000
/-- The code of times. -/
def tmC (xs : List Int) (fine : Bool) (most : Int) : Int := if (fine && xs.all timB) = true then if most < xs.length then 3 else 0 else 2
theorem tm_bad {xs : List Int} {fine : Bool} {most : Int} (h : (fine && xs.all timB) = false) : tmC xs fine most = 2 := by unfold tmC; rw [h]; rfl
theorem tm_many {xs : List Int} {fine : Bool} {most : Int} (h : (fine && xs.all timB) = true) (h' : most < xs.length) : tmC xs fine most = 3 := by unfold tmC; rw [if_pos h, if_pos h']
theorem tm_ok {xs : List Int} {fine : Bool} {most : Int} (h : (fine && xs.all timB) = true) (h' : ¬ most < xs.length) : tmC xs fine most = 0 := by unfold tmC; rw [if_pos h, if_neg h']
theorem tm_zero {xs : List Int} {fine : Bool} {most : Int} (h : tmC xs fine most = 0) : fine = true ∧ (∀ x ∈ xs, 1 ≤ x ∧ x ≤ 100000) ∧ (xs.length : Int) ≤ most := by
  unfold tmC at h
  split at h
  · rename_i h1
    simp only [Bool.and_eq_true] at h1
    split at h
    · cases h
    · exact ⟨h1.1, fun x hx => inB_true.1 (List.all_eq_true.1 h1.2 x hx), by omega⟩
  · cases h

set_option maxHeartbeats 1000000 in
theorem checkTimes1_any (x : Int) (w : World) :
    Calls Try.prog 117 #[.int .i64 x] w fun e w' => e = .returned (.bool (timB x)) ∧ Below w.heap.size w w' := by
  have HT := hide (show timB x = inB x 1 100000 from rfl)
  go_enter Try.func117, Try.ntmps117
  go_wp2_with (go_at_call 59; refine (between_any _ _ _ _).mono ?_; rintro e w' ⟨rfl, rfl⟩)
  go_ret
  exact ⟨ret_bool HT.out.symm, Below.refl _ _⟩

set_option maxRecDepth 100000 in
set_option maxHeartbeats 4000000 in
theorem checkTimes_any (A : Option Addr) (xs : List Int) (c : Nat) (fine : Bool) (most : Int) (w : World) (hn : xs.length ≤ maxLen) (hA : IntsAt w w.heap.size A xs) :
    Calls Try.prog 62 #[.slice A xs.length c, .bool fine, .int .i64 most] w fun e w' => e = .returned (.int .i64 (tmC xs fine most)) ∧ Below w.heap.size w w' := by
  have HC := hide (areAllI_any _ (enters_of Try.func117 (by kernel_rfl) rfl) timB A xs c w hn hA (fun x _ W _ => checkTimes1_any x W))
  have hn' := hn
  unfold maxLen at hn
  obtain ⟨C, hC⟩ : ∃ C, tmC xs fine most = C := ⟨_, rfl⟩
  rw [hC]
  cases fine
  · have e := tm_bad (xs := xs) (fine := false) (most := most) rfl
    have HE := hide (hC.symm.trans e)
    clear hC e
    go_enter Try.func62, Try.ntmps62
    go_wp2
    go_ret
    exact ⟨ret_int HE.out.symm, Below.refl _ _⟩
  · cases hb : xs.all timB
    · have e := tm_bad (xs := xs) (fine := true) (most := most) (by rw [hb]; rfl)
      have HE := hide (hC.symm.trans e)
      rw [hb] at HC
      clear hC e
      go_enter Try.func62, Try.ntmps62
      go_wp2_with (go_at_call 118; refine HC.out.mono ?_; rintro e w1 ⟨rfl, hb1⟩)
      go_ret
      exact ⟨ret_int HE.out.symm, hb1⟩
    · rw [hb] at HC
      by_cases hm : most < xs.length
      · have e := tm_many (xs := xs) (fine := true) (most := most) (by rw [hb]; rfl) hm
        have HE := hide (hC.symm.trans e)
        have hd : decide (most < (xs.length : Int)) = true := by simpa using hm
        clear hC e hm
        go_enter Try.func62, Try.ntmps62
        go_wp2_with (go_at_call 118; refine HC.out.mono ?_; rintro e w1 ⟨rfl, hb1⟩)
        go_ret
        exact ⟨ret_int HE.out.symm, hb1⟩
      · have e := tm_ok (xs := xs) (fine := true) (most := most) (by rw [hb]; rfl) hm
        have HE := hide (hC.symm.trans e)
        have hd : decide (most < (xs.length : Int)) = false := by simpa using hm
        clear hC e hm
        go_enter Try.func62, Try.ntmps62
        go_wp2_with (go_at_call 118; refine HC.out.mono ?_; rintro e w1 ⟨rfl, hb1⟩)
        go_ret
        exact ⟨ret_int HE.out.symm, hb1⟩

/-! The model -/
set_option maxHeartbeats 1000000 in
theorem l05Minutes_any (x : Int) (w : World) :
    Calls Try.prog 61 #[.int .i64 x] w fun e w' => e = .returned (.bool (timB x)) ∧ w = w' := by
  have HT := hide (show timB x = inB x 1 100000 from rfl)
  go_enter Try.func61, Try.ntmps61
  go_wp2_with (go_at_call 116; refine (l00In_any _ _ _ _).mono ?_; rintro e w' ⟨rfl, rfl⟩)
  go_ret
  exact ⟨ret_bool HT.out.symm, rfl⟩
theorem all_take_succ {p : Int → Bool} {xs : List Int} {k : Nat} {x : Int} (h : xs[k]? = some x) : (xs.take (k + 1)).all p = ((xs.take k).all p && p x) := by
  rw [List.take_add_one, h]; simp

set_option maxRecDepth 100000 in
set_option maxHeartbeats 4000000 in
theorem l05Times_any (A : Option Addr) (xs : List Int) (c : Nat) (fine : Bool) (most : Int) (w : World) (hm : most ≤ 12) (hn : xs.length ≤ maxLen) (hA : IntsAt w w.heap.size A xs) :
    Calls Try.prog 60 #[.slice A xs.length c, .bool fine, .int .i64 most] w fun e w' => e = .returned (.int .i64 (tmC xs fine most)) ∧ w = w' := by
  have hn' := hn
  unfold maxLen at hn
  obtain ⟨C, hC⟩ : ∃ C, tmC xs fine most = C := ⟨_, rfl⟩
  have HCC := hide hC
  rw [hC]
  clear hC
  go_enter Try.func60, Try.ntmps60
  go_wp2
  go_loop [1, 7] (fun fi i => ∃ k : Nat, k ≤ xs.length ∧ i = .int .i64 k ∧ fi = .bool (fine && (xs.take k).all timB)) (fun _ i => xs.length - (intOf i).toNat)
  case atStart => exact ⟨0, Nat.zero_le _, rfl, by simp⟩
  case round =>
    obtain ⟨k, hk, rfl, rfl⟩ := hrel
    by_cases hlt : k < xs.length
    · obtain ⟨b, o, rfl, hb, hxs⟩ := hA (by intro e; rw [e] at hlt; simp at hlt)
      obtain ⟨x, hxk⟩ : ∃ x, xs[k]? = some x := ⟨xs[k]'hlt, List.getElem?_eq_getElem _⟩
      have hc := hxs k x hxk
      have hi : (k : Int) < xs.length := by omega
      have h0 : (0 : Int) ≤ k := by omega
      have HT := hide (all_take_succ (p := timB) hxk)
      clear hxs hxk
      generalize (xs.take k).all timB = r at HT ⊢
      cases hf : (fine && r)
      · go_wp2
        exact ⟨⟨k + 1, by omega, by go_num, by rw [HT.out, ← Bool.and_assoc, hf]; rfl⟩, by simp [intOf]; omega⟩
      · go_wp2_with (go_at_call 61; refine (l05Minutes_any _ _).mono ?_; rintro e w' ⟨rfl, rfl⟩)
        exact ⟨⟨k + 1, by omega, by go_num, by rw [HT.out, ← Bool.and_assoc, hf]; rfl⟩, by simp [intOf]; omega⟩
    · obtain rfl : k = xs.length := by omega
      rw [List.take_length]
      cases hf : (fine && xs.all timB)
      · have HE := hide (HCC.out.symm.trans (tm_bad hf))
        go_wp2
        go_ret
        exact ⟨ret_int HE.out.symm, rfl⟩
      · by_cases hm12 : (12 : Int) < xs.length
        · have HE := hide (HCC.out.symm.trans (tm_many hf (show most < (xs.length : Int) by omega)))
          have hd : decide ((12 : Int) < (xs.length : Int)) = true := by simpa using hm12
          have hd' : decide (12 < xs.length) = true := by simp; omega
          go_wp2
          go_ret
          exact ⟨ret_int HE.out.symm, rfl⟩
        · have hd : decide ((12 : Int) < (xs.length : Int)) = false := by simp; omega
          have hd' : decide (12 < xs.length) = false := by simp; omega
          by_cases hmm : most < xs.length
          · have HE := hide (HCC.out.symm.trans (tm_many hf hmm))
            have hd2 : decide (most < (xs.length : Int)) = true := by simpa using hmm
            go_wp2
            go_ret
            exact ⟨ret_int HE.out.symm, rfl⟩
          · have HE := hide (HCC.out.symm.trans (tm_ok hf hmm))
            have hd2 : decide (most < (xs.length : Int)) = false := by simpa using hmm
            go_wp2
            go_ret
            exact ⟨ret_int HE.out.symm, rfl⟩
end Go.Proofs.Ytkbemhjeflmppaa
