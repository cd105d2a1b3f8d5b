/- JoinWords of the model and of the program: the same text and number. -/
import Derived.Test.YtikndeloeeppaaaStrs
import Derived.Test.YtikndeloeeppaaaWordWideW
import Derived.Laws.Concat
namespace Go.Proofs.Ytikndeloeeppaaa
open Go.RowKit

theorem jw_ok {xs : List (List UInt8)} (h : jwB xs = true) : jwV xs = ⟨(J xs).toArray⟩ ∧ jwC xs = 0 := by unfold jwV jwC; rw [if_pos h, if_pos h]; exact ⟨rfl, rfl⟩
theorem jw_no {xs : List (List UInt8)} (h : jwB xs = false) : jwV xs = ⟨#[]⟩ ∧ jwC xs = 1 := by unfold jwV jwC; rw [h]; exact ⟨rfl, rfl⟩
theorem ret_si {s t : ByteArray} {i j : Int} (h : s = t) (h' : i = j) : Ending.returned (.tuple #[.string s, .int .i64 i]) = .returned (.tuple #[.string t, .int .i64 j]) := by rw [h, h']
theorem ret_st {s t : ByteArray} (h : s = t) : Ending.returned (.string s) = .returned (.string t) := by rw [h]
theorem ba_ext {s : ByteArray} {l : List UInt8} (h : s.data.toList = l) : s = ⟨l.toArray⟩ := by
  obtain ⟨⟨d⟩⟩ := s; simp at h; rw [h]
theorem append_data (s t : ByteArray) : (s ++ t).data.toList = s.data.toList ++ t.data.toList := by simp
theorem append_size (s t : ByteArray) : (s ++ t).size = s.size + t.size := by simp

set_option maxRecDepth 100000 in
set_option maxHeartbeats 2000000 in
theorem l01Joined_any (A : Option Addr) (xs : List ByteArray) (c : Nat) (w : World) (hn : xs.length ≤ 1048576) (hx : sumL (xs.map byts) ≤ 1048576) (hA : StrsAt w w.heap.size A xs) :
    Calls Try.prog 122 #[.slice A xs.length c] w fun e w' => e = .returned (.string ⟨(J (xs.map byts)).toArray⟩) ∧ w = w' := by
  have HX := hide hx
  have hlen : ∀ k, (J ((xs.map byts).take k)).length ≤ 2097152 := by
    intro k
    rw [J_len]
    have h1 := sumL_le (xs.map byts) k
    have h2 : ((xs.map byts).take k).length ≤ xs.length := by simp; omega
    omega
  have HLEN := hide hlen
  have HM := hide (fun x (h : x ∈ xs) => Nat.le_trans (sum_mem h) hx)
  clear hx hlen
  go_enter Try.func122, Try.ntmps122
  go_wp2
  go_loop [3, 4] (fun t i => ∃ (k : Nat) (s : ByteArray), k ≤ xs.length ∧ i = .int .i64 k ∧ t = .string s ∧ s.size ≤ 2097152 ∧ Hid (s.data.toList = J ((xs.map byts).take k)))
    (fun _ i => xs.length - (intOf i).toNat)
  case atStart => exact ⟨0, ⟨#[]⟩, by omega, rfl, rfl, by decide, hide rfl⟩
  case round =>
    obtain ⟨k, s, hk, rfl, rfl, hs, hg⟩ := hrel
    by_cases hlt : k < xs.length
    · obtain ⟨b, o, rfl, hb, hxs⟩ := hA (by intro e; rw [e] at hlt; simp at hlt)
      obtain ⟨x, hx⟩ : ∃ x, xs[k]? = some x := ⟨xs[k]'hlt, List.getElem?_eq_getElem _⟩
      have c0 := hxs k x hx
      have hxm := HM.out x (List.mem_of_getElem? hx)
      have hi : (k : Int) < xs.length := by omega
      have h0 : (0 : Int) ≤ k := by omega
      have htk : (xs.map byts).take (k + 1) = (xs.map byts).take k ++ [byts x] := by rw [List.take_add_one]; simp [hx]
      have hnext := HLEN.out (k + 1)
      clear hxs
      by_cases hk0 : k = 0
      · have hd : decide ((0 : Int) < k) = false := by simp; omega
        have hd' : decide (0 < k) = false := by simp; omega
        have e1 : (s ++ x).data.toList = J ((xs.map byts).take (k + 1)) := by
          rw [append_data, hg.out, htk, hk0]; simp [J_nil, J_one]
        have e2 : (s ++ x).size ≤ 2097152 := by rw [← e1] at hnext; simpa using hnext
        have E1 := hide e1
        have E2 := hide e2
        clear e1 e2 hk0 htk hnext
        go_wp2
        exact ⟨⟨k + 1, _, by omega, by go_num, rfl, E2.out, E1⟩, by simp [intOf]; omega⟩
      · have hd : decide ((0 : Int) < k) = true := by simp; omega
        have hd' : decide (0 < k) = true := by simp; omega
        have hne : (xs.map byts).take k ≠ [] := by
          intro e
          have h := congrArg List.length e
          rw [List.length_take, List.length_map, List.length_nil] at h
          omega
        have e1 : ((s ++ (⟨#[32]⟩ : ByteArray)) ++ x).data.toList = J ((xs.map byts).take (k + 1)) := by
          rw [append_data, append_data, hg.out, htk, J_snoc _ _ hne]; simp
        have hone : (⟨#[32]⟩ : ByteArray).size = 1 := rfl
        have e2 : ((s ++ (⟨#[32]⟩ : ByteArray)) ++ x).size ≤ 2097152 := by rw [← e1] at hnext; rw [append_size, append_size, hone]; simp at hnext; omega
        have e3 : (s ++ (⟨#[32]⟩ : ByteArray)).size ≤ 2097153 := by rw [append_size]; show s.size + 1 ≤ _; omega
        have E1 := hide e1
        have E2 := hide e2
        clear e1 e2 hk0 htk hnext hne hone
        go_wp2
        exact ⟨⟨k + 1, _, by omega, by go_num, rfl, E2.out, E1⟩, by simp [intOf]; omega⟩
    · obtain rfl : k = xs.length := by omega
      have hfin : s = ⟨(J (xs.map byts)).toArray⟩ := by
        apply ba_ext
        have := hg.out
        rw [List.take_of_length_le (by simp)] at this
        exact this
      have HF := hide hfin
      clear hfin
      go_wp2
      go_ret
      exact ⟨ret_st HF.out, rfl⟩

end Go.Proofs.Ytikndeloeeppaaa
