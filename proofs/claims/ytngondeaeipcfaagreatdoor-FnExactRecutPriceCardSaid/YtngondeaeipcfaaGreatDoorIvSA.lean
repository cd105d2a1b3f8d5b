/- The model of chapter 4: lists of words, worn words, what two of them tell, letters upside down. -/
import Derived.Test.YtngondeaeipcfaaGreatDoorIvB
import Derived.LoopTactic
namespace Go.Proofs.YtngondeaeipcfaaGreatDoor
open Go.RowKit

set_option maxHeartbeats 1000000 in
theorem l04Word_any (s : ByteArray) (w : World) (hs : s.size ≤ maxLen) :
    Calls Tryz.prog 172 #[.string s] w fun e w' => e = .returned (.bool (lw s)) ∧ w = w' := by
  have hL : s.data.toList.length = s.size := by simp
  have hv := lword_spec s.data.toList
  rw [hL] at hv
  have HV := hide (show lw s = _ from hv)
  have HC := hide (fun w => l01Word_any s w hs)
  clear hL hv hs
  cases hb : inB s.size 1 20
  · go_enter Tryz.func172, Tryz.ntmps172
    go_wp2_with (go_at_call 119; refine (l00In_any _ _ _ _).mono ?_; rintro e w' ⟨rfl, rfl⟩; simp only [hb])
    go_ret
    exact ⟨ret_bool (by rw [HV.out, hb]; rfl), rfl⟩
  · go_enter Tryz.func172, Tryz.ntmps172
    go_wp2_with (first | (go_at_call 119; refine (l00In_any _ _ _ _).mono ?_; rintro e w' ⟨rfl, rfl⟩; simp only [hb]) | (go_at_call 125; refine (HC.out _).mono ?_; rintro e w' ⟨rfl, rfl⟩))
    go_ret
    exact ⟨ret_bool (by rw [HV.out, hb]; rfl), rfl⟩

set_option maxRecDepth 100000 in
set_option maxHeartbeats 2000000 in
theorem l04List_any (A : Option Addr) (xs : List ByteArray) (c : Nat) (w : World) (hn : xs.length ≤ maxLen) (hx : ∀ x ∈ xs, x.size ≤ maxLen) (hA : StrsAt w w.heap.size A xs) :
    Calls Tryz.prog 177 #[.slice A xs.length c] w fun e w' => e = .returned (.bool (vlist xs)) ∧ w = w' := by
  unfold maxLen at hn
  generalize hS : vlist xs = S
  have HS := hide hS
  clear hS
  go_enter Tryz.func177, Tryz.ntmps177
  go_wp2
  go_loop [3] (fun i => ∃ k : Nat, k ≤ xs.length ∧ i = .int .i64 k ∧ Hid (∀ j x, j < k → xs[j]? = some x → lw x = true)) (fun i => xs.length - (intOf i).toNat)
  case atStart => exact ⟨0, Nat.zero_le _, rfl, hide (fun j x hj => by omega)⟩
  case round =>
    obtain ⟨k, hk, rfl, hg⟩ := hrel
    by_cases hlt : k < xs.length
    · obtain ⟨b, o, rfl, hb, hxs⟩ := hA (by intro e; rw [e] at hlt; simp at hlt)
      obtain ⟨x, hxk⟩ : ∃ x, xs[k]? = some x := ⟨xs[k]'hlt, List.getElem?_eq_getElem _⟩
      have hc := hxs k x hxk
      have HX := hide hxk
      have hi : (k : Int) < xs.length := by omega
      have h0 : (0 : Int) ≤ k := by omega
      have HC := hide (fun w => l04Word_any x w (hx x (List.mem_of_getElem? hxk)))
      clear hxs hxk
      cases hb : lw x
      · go_wp2_with (go_at_call 172; refine (HC.out _).mono ?_; rintro e w' ⟨rfl, rfl⟩; simp only [hb])
        go_ret
        refine ⟨ret_bool ?_, rfl⟩
        rw [← HS.out]
        unfold vlist
        rw [all_false_of HX.out hb, Bool.and_false]
      · go_wp2_with (go_at_call 172; refine (HC.out _).mono ?_; rintro e w' ⟨rfl, rfl⟩; simp only [hb])
        exact ⟨⟨k + 1, by omega, by go_num, hide (fun j y hj hy => by
          by_cases e : j = k
          · subst e; rw [HX.out] at hy; injection hy with hy; subst hy; exact hb
          · exact hg.out j y (by omega) hy)⟩, by simp [intOf]; omega⟩
    · obtain rfl : k = xs.length := by omega
      have HA := hide (all_true_of (p := lw) (xs := xs) (fun j x hj => hg.out j x hj))
      clear hg
      go_wp2
      go_ret
      refine ⟨ret_bool ?_, rfl⟩
      rw [← HS.out]
      unfold vlist
      rw [HA.out, Bool.and_true]
      simp
      omega

set_option maxRecDepth 100000 in
set_option maxHeartbeats 2000000 in
theorem l04Worn_any (s : ByteArray) (w : World) (hs : s.size ≤ maxLen) :
    Calls Tryz.prog 175 #[.string s] w fun e w' => e = .returned (.bool (wornB s.data.toList)) ∧ w = w' := by
  unfold maxLen at hs
  have hL : s.data.toList.length = s.size := by simp
  have HL := hide hL
  generalize hS : wornB s.data.toList = S
  have HS := hide hS
  clear hS hL
  go_enter Tryz.func175, Tryz.ntmps175
  go_wp2
  go_loop [3] (fun i => ∃ k : Nat, k ≤ s.size ∧ i = .int .i64 k ∧ Hid (∀ j, j < k → wornC (byteAt s.data.toList j) = true)) (fun i => s.size - (intOf i).toNat)
  case atStart => exact ⟨0, Nat.zero_le _, rfl, hide (fun j hj => by omega)⟩
  case round =>
    obtain ⟨k, hk, rfl, hg⟩ := hrel
    by_cases hlt : k < s.size
    · have hi : (k : Int) < s.size := by omega
      have h0 : (0 : Int) ≤ k := by omega
      have HB := hide (byteAt_get s k hlt)
      have HGO := hide (fun (hw : wornC (byteAt s.data.toList k) = true) => (fun j hj => by
          by_cases e : j = k
          · subst e; exact hw
          · exact hg.out j (by omega) : ∀ j, j < k + 1 → wornC (byteAt s.data.toList j) = true))
      cases hd : ((s[k].toNat : Int) == 46)
      · have hdn : ((s[k].toNat : Int) != 46) = true := by simp [bne, hd]
        cases hc : cap (s[k].toNat : Int)
        · go_wp2_with (go_at_call 209; refine (l01Letter_any _ _).mono ?_; rintro e w' ⟨rfl, rfl⟩; simp only [hc])
          go_ret
          refine ⟨ret_bool ?_, rfl⟩
          rw [← HS.out]
          unfold wornB
          rw [allOn_false (k := k) (by rw [HL.out]; exact hlt) (by unfold wornC; rw [← HB.out, hc, hd]; rfl), Bool.and_false]
        · go_wp2_with (go_at_call 209; refine (l01Letter_any _ _).mono ?_; rintro e w' ⟨rfl, rfl⟩; simp only [hc])
          exact ⟨⟨k + 1, by omega, by go_num, hide (HGO.out (by unfold wornC; rw [← HB.out, hc]; rfl))⟩, by simp [intOf]; omega⟩
      · have hdn : ((s[k].toNat : Int) != 46) = false := by simp [bne, hd]
        go_wp2
        exact ⟨⟨k + 1, by omega, by go_num, hide (HGO.out (by unfold wornC; rw [← HB.out, hd]; simp))⟩, by simp [intOf]; omega⟩
    · obtain rfl : k = s.size := by omega
      have HA := hide (allOn_true.2 (fun j hj => hg.out j (by rw [← HL.out]; exact hj)) : allOn wornC s.data.toList = true)
      clear hg
      go_wp2
      go_ret
      refine ⟨ret_bool ?_, rfl⟩
      rw [← HS.out]
      unfold wornB
      rw [HA.out, Bool.and_true, HL.out]
      simp
      omega
end Go.Proofs.YtngondeaeipcfaaGreatDoor
