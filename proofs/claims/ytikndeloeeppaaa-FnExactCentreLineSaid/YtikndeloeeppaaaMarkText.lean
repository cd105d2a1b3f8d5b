/- The text that marks a place. -/
import Derived.Test.YtikndeloeeppaaaStrs
import Derived.Test.YtikndeloeeppaaaJoinW
import Derived.Laws.BytesArg
namespace Go.Proofs.Ytikndeloeeppaaa
open Go.RowKit

def dgN : Nat → Nat → ByteArray → ByteArray
  | 0, _, t => t
  | f + 1, j, t => if j = 0 then t else dgN f (j / 10) (strOfNums [48 + (j : Int) % 10] ++ t)
theorem dgN_zero (f : Nat) (t : ByteArray) : dgN f 0 t = t := by cases f <;> rfl
theorem dgN_step {f j : Nat} (t : ByteArray) (h0 : j ≠ 0) (hf : j ≤ f) : ∃ f', j / 10 ≤ f' ∧ dgN f j t = dgN f' (j / 10) (strOfNums [48 + (j : Int) % 10] ++ t) := by
  cases f with
  | zero => omega
  | succ f => exact ⟨f, by omega, by show (if j = 0 then _ else _) = _; rw [if_neg h0]⟩
/-- What markText says of k. -/
def mtext (k : Nat) : ByteArray := if k = 0 then ⟨#[109, 48]⟩ else ⟨#[109]⟩ ++ dgN k k ⟨#[]⟩

set_option maxRecDepth 100000 in
set_option maxHeartbeats 4000000 in
theorem markText_any (k : Nat) (w : World) (h1 : k ≤ 4194304) :
    Calls Try.prog 127 #[.int .i64 k] w fun e w' => e = .returned (.string (mtext k)) ∧ Below w.heap.size w w' := by
  have hcv : ∀ (W : World) (x : Int), (convert 175 9 (.slice (some ⟨W.heap.size, 0, none⟩) 1 1)).run Try.prog (W.alloc (.cells #[.int .u8 x] 5)) = .ok (.string (strOfNums [x])) (W.alloc (.cells #[.int .u8 x] 5)) := fun W x =>
    run_convert_bytes_arg _ _ 5 Try.underlying175 Try.underlying5 W.heap.size 0 1 1 [x] rfl (fun i hi => by
      obtain rfl : i = 0 := by omega
      simp) _ Try.underlying9
  by_cases h0 : k = 0
  · subst h0
    go_enter Try.func127, Try.ntmps127
    go_wp2
    go_ret
    exact ⟨rfl, Below.refl _ _⟩
  · have hk : 0 < (k : Int) := by omega
    have hd : decide ((k : Int) ≤ 0) = false := by simp; omega
    obtain ⟨R, hR⟩ : ∃ R, dgN k k ⟨#[]⟩ = R := ⟨_, rfl⟩
    have hm : (⟨#[109]⟩ : ByteArray) ++ R = mtext k := by unfold mtext; rw [if_neg h0, hR]
    have HM := hide hm
    have HR := hide hR
    clear hm hR
    go_enter Try.func127, Try.ntmps127
    go_wp2
    go_loopw [0, 3] (fun r o wr => ∃ (j f : Nat) (t : ByteArray), j ≤ k ∧ j ≤ f ∧ r = .int .i64 j ∧ o = .string t ∧ t.size + j ≤ 4194304 ∧ Below w.heap.size w wr ∧ Hid (dgN f j t = R))
      (fun r _ _ => (intOf r).toNat)
    case atStart => exact ⟨k, k, ⟨#[]⟩, by omega, by omega, rfl, rfl, by simpa [ByteArray.size] using h1, Below.refl _ _, HR⟩
    case round =>
      obtain ⟨j, f, t, hj, hf, rfl, rfl, hts, hB, HG⟩ := hrel
      by_cases hj0 : j = 0
      · subst hj0
        have ht := HG.out
        rw [dgN_zero] at ht
        subst ht
        go_wp2
        go_ret
        exact ⟨ret_st HM.out, hB⟩
      · have hj1 : 0 < (j : Int) := by omega
        obtain ⟨f', hf', he⟩ := dgN_step t hj0 hf
        have HE := hide (he.symm.trans HG.out)
        have hss : (strOfNums [48 + (j : Int) % 10]).size = 1 := strOfNums_size _
        have hs2 : (strOfNums [48 + (j : Int) % 10] ++ t).size = 1 + t.size := by rw [append_size, hss]
        clear he HG
        go_wp2
        exact ⟨⟨j / 10, f', _, by omega, hf', by go_num, rfl, by omega, hB.alloc hB.size _, HE⟩, by simp [intOf]; omega⟩
end Go.Proofs.Ytikndeloeeppaaa
