/- The program's chapter 4: all of a list, all bytes of a text; lists of words, worn words. -/
import Derived.Test.YtajlbfbpkafjfaaIvP
import Derived.LoopTactic
import Derived.Shelf.Abstract
namespace Go.Proofs.Ytajlbfbpkafjfaa
open Go.RowKit

set_option maxRecDepth 100000 in
set_option maxHeartbeats 2000000 in
theorem areAllS_any (f : FuncId) (he : Enters Try.prog f) (p : ByteArray → Bool) (A : Option Addr) (xs : List ByteArray) (c : Nat) (w : World) (hn : xs.length ≤ maxLen) (hA : StrsAt w w.heap.size A xs)
    (hf : ∀ x ∈ xs, ∀ W, Below w.heap.size w W → Calls Try.prog f #[.string x] W fun e w' => e = .returned (.bool (p x)) ∧ Below W.heap.size W w') :
    Calls Try.prog 70 #[.slice A xs.length c, .func (.func f) #[] #[]] w fun e w' => e = .returned (.bool (xs.all p)) ∧ Below w.heap.size w w' := by
  unfold maxLen at hn
  generalize hS : xs.all p = S
  have HS := hide hS
  have HF := hide hf
  clear hS hf
  unfold Enters at he
  go_enter Try.func70, Try.ntmps70
  go_wp2
  go_loopw [9] (fun i wr => ∃ k : Nat, k ≤ xs.length ∧ i = .int .i64 k ∧ Hid (∀ j x, j < k → xs[j]? = some x → p x = true) ∧ Below w.heap.size w wr) (fun i _ => xs.length - (intOf i).toNat)
  case atStart => exact ⟨0, Nat.zero_le _, rfl, hide (fun j x hj => by omega), Below.refl _ _⟩
  case round =>
    obtain ⟨k, hk, rfl, hg, hB⟩ := hrel
    by_cases hlt : k < xs.length
    · obtain ⟨b, o, rfl, hb, hxs⟩ := hA (by intro e; rw [e] at hlt; simp at hlt)
      obtain ⟨x, hxk⟩ : ∃ x, xs[k]? = some x := ⟨xs[k]'hlt, List.getElem?_eq_getElem _⟩
      have hc : wr.cell? ⟨b, o + k, none⟩ = some (.string x) := (hB.cell (p := ⟨b, o + k, none⟩) hb).trans (hxs k x hxk)
      have HX := hide hxk
      have hi : (k : Int) < xs.length := by omega
      have h0 : (0 : Int) ≤ k := by omega
      have HC := hide (HF.out x (List.mem_of_getElem? hxk) wr hB)
      clear hxs hxk
      cases hb : p x
      · rw [hb] at HC
        go_wp2_with (go_at_fn f; refine HC.out.mono ?_; rintro e w1 ⟨rfl, hb1⟩)
        go_ret
        exact ⟨ret_bool (by rw [← HS.out, all_false_of HX.out hb]), hB.trans (hb1.mono hB.size)⟩
      · rw [hb] at HC
        go_wp2_with (go_at_fn f; refine HC.out.mono ?_; rintro e w1 ⟨rfl, hb1⟩)
        exact ⟨⟨k + 1, by omega, by go_num, hide (fun j y hj hy => by
          by_cases e : j = k
          · subst e; rw [HX.out] at hy; injection hy with hy; subst hy; exact hb
          · exact hg.out j y (by omega) hy), hB.trans (hb1.mono hB.size)⟩, by simp [intOf]; omega⟩
    · have HA := hide (all_true_of (p := p) (xs := xs) (fun j x hj => hg.out j x (by omega)))
      have hk' : k = xs.length := by omega
      clear hg
      go_wp2
      go_ret
      exact ⟨ret_bool (by rw [← HS.out, HA.out]), hB⟩

set_option maxRecDepth 100000 in
set_option maxHeartbeats 2000000 in
theorem areAllB_any (f : FuncId) (he : Enters Try.prog f) (Bm : Nat) (p : Int → Bool) (L : List UInt8) (n b c : Nat) (w : World) (hL : L.length = n) (hn : n ≤ maxLen) (hb : b < w.heap.size) (hA : BytesAt w b L)
    (hf : ∀ j, j < n → ∀ W, Below w.heap.size w W → Calls Try.prog f #[.int .u8 (byteAt L j), .pointer (some ⟨Bm, 0, none⟩)] W fun e w' => e = .returned (.bool (p (byteAt L j))) ∧ Below W.heap.size W w') :
    Calls Try.prog 147 #[.slice (some ⟨b, 0, none⟩) n c, .func (.func f) #[] #[.pointer (some ⟨Bm, 0, none⟩)]] w fun e w' => e = .returned (.bool (allOn p L)) ∧ Below w.heap.size w w' := by
  unfold maxLen at hn
  have HL := hide hL
  generalize hS : allOn p L = S
  have HS := hide hS
  have HF := hide hf
  clear hS hf hL
  unfold Enters at he
  go_enter Try.func147, Try.ntmps147
  go_wp2
  go_loopw [9] (fun i wr => ∃ k : Nat, k ≤ n ∧ i = .int .i64 k ∧ Hid (∀ j, j < k → p (byteAt L j) = true) ∧ Below w.heap.size w wr) (fun i _ => n - (intOf i).toNat)
  case atStart => exact ⟨0, Nat.zero_le _, rfl, hide (fun j hj => by omega), Below.refl _ _⟩
  case round =>
    obtain ⟨k, hk, rfl, hg, hB⟩ := hrel
    by_cases hlt : k < n
    · have hc : wr.cell? ⟨b, k, none⟩ = some (.int .u8 (byteAt L k)) := (hB.cell (p := ⟨b, k, none⟩) hb).trans (hA k (by rw [HL.out]; exact hlt)).1
      have hi : (k : Int) < n := by omega
      have h0 : (0 : Int) ≤ k := by omega
      have HC := hide (HF.out k hlt wr hB)
      cases hb : p (byteAt L k)
      · rw [hb] at HC
        go_wp2_with (go_at_fn f; refine HC.out.mono ?_; rintro e w1 ⟨rfl, hb1⟩)
        go_ret
        exact ⟨ret_bool (by rw [← HS.out, allOn_false (by rw [HL.out]; exact hlt) hb]), hB.trans (hb1.mono hB.size)⟩
      · rw [hb] at HC
        go_wp2_with (go_at_fn f; refine HC.out.mono ?_; rintro e w1 ⟨rfl, hb1⟩)
        exact ⟨⟨k + 1, by omega, by go_num, hide (fun j hj => by
          by_cases e : j = k
          · subst e; exact hb
          · exact hg.out j (by omega)), hB.trans (hb1.mono hB.size)⟩, by simp [intOf]; omega⟩
    · have HA := hide (allOn_true.2 (fun j hj => hg.out j (by rw [HL.out] at hj; omega)) : allOn p L = true)
      have hk' : k = n := by omega
      clear hg
      go_wp2
      go_ret
      exact ⟨ret_bool (by rw [← HS.out, HA.out]), hB⟩

set_option maxRecDepth 100000 in
set_option maxHeartbeats 1000000 in
theorem hasOnly1_any (g : FuncId) (he : Enters Try.prog g) (b : Int) (r : Bool) (Bm : Nat) (w : World) (hm : w.cell? ⟨Bm, 0, none⟩ = some (.func (.func g) #[] #[]))
    (hg : Calls Try.prog g #[.int .u8 b] w fun e w' => e = .returned (.bool r) ∧ Below w.heap.size w w') :
    Calls Try.prog 148 #[.int .u8 b, .pointer (some ⟨Bm, 0, none⟩)] w fun e w' => e = .returned (.bool r) ∧ Below w.heap.size w w' := by
  have HG := hide hg
  clear hg
  unfold Enters at he
  go_enter Try.func148, Try.ntmps148
  go_wp2_with (go_at_fn g; refine HG.out.mono ?_; rintro e w1 ⟨rfl, hb1⟩)
  go_ret
  exact ⟨rfl, hb1⟩

set_option maxRecDepth 100000 in
set_option maxHeartbeats 1000000 in
theorem hasOnly_any (g : FuncId) (he : Enters Try.prog g) (p : Int → Bool) (s : ByteArray) (w : World) (hs : s.size ≤ maxLen)
    (hg : ∀ j, j < s.size → ∀ W, Below w.heap.size w W → Calls Try.prog g #[.int .u8 (byteAt s.data.toList j)] W fun e w' => e = .returned (.bool (p (byteAt s.data.toList j))) ∧ Below W.heap.size W w') :
    Calls Try.prog 104 #[.string s, .func (.func g) #[] #[]] w fun e w' => e = .returned (.bool (allOn p s.data.toList)) ∧ Below w.heap.size w w' := by
  have hL : s.data.toList.length = s.size := by simp
  have HG := hide hg
  have HL := hide hL
  clear hg hL
  have hb0 : Below w.heap.size w (w.alloc (.cells #[.func (.func g) #[] #[]] 119)) := (Below.refl _ _).alloc (Nat.le_refl _) _
  have hs0 : (w.alloc (.cells #[.func (.func g) #[] #[]] 119)).heap.size = w.heap.size + 1 := by simp
  have hm0 := rangeAt_new' w #[.func (.func g) #[] #[]] 119 0 _ rfl
  obtain ⟨W1, c, hcv, hb1, hcells, hlt⟩ := bytes_new2 s (w.alloc (.cells #[.func (.func g) #[] #[]] 119))
  rw [hs0] at hcv hb1 hcells hlt
  have hm1 : ∀ W, Below (w.heap.size + 1) (w.alloc (.cells #[.func (.func g) #[] #[]] 119)) W → W.cell? ⟨w.heap.size, 0, none⟩ = some (.func (.func g) #[] #[]) := fun W h => (h.cell (p := ⟨w.heap.size, 0, none⟩) (Nat.lt_succ_self _)).trans hm0
  have HC := hide (areAllB_any _ (enters_of Try.func148 (by kernel_rfl) rfl) w.heap.size p s.data.toList s.size (w.heap.size + 1) c W1 HL.out hs hlt hcells
    (fun j hj W hW => hasOnly1_any g he _ _ _ W (hm1 W (hb1.trans (hW.mono (by omega)))) (HG.out j hj W (hb0.trans ((hb1.trans (hW.mono (by omega))).mono (by omega))))))
  have HB := hide (hb0.trans (hb1.mono (by omega)))
  clear hm0 hm1 hcells hb1 hb0 hs0
  go_enter Try.func104, Try.ntmps104
  go_wp2_with (go_at_call 147; refine HC.out.mono ?_; rintro e w2 ⟨rfl, hb2⟩)
  go_ret
  exact ⟨rfl, HB.out.trans (hb2.mono (by omega))⟩
end Go.Proofs.Ytajlbfbpkafjfaa
