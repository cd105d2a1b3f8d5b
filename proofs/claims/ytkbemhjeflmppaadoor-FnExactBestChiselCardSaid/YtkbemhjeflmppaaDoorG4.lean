/- The model's test of a face. · The model's ValidFace: the count of the pairs, and the shape. · The model's By of a pair. · The model's width of a word. · The model's test of a text. -/
import Derived.Test.YtkbemhjeflmppaaDoorG1
import Derived.Test.YtkbemhjeflmppaaDoorG2
import Derived.Test.YtkbemhjeflmppaaDoorG3
import Derived.LoopTactic

namespace Go.Proofs.YtkbemhjeflmppaaDoor
open Go.RowKit

theorem q_same {P : Program} {f : FuncId} {args : Array Value} {w : World} {v : Value} (h : Calls P f args w fun e w' => e = .returned v ∧ w = w') : Calls P f args w fun e w' => e = .returned v ∧ w' = w :=
  h.mono fun _ _ ⟨a, b⟩ => ⟨a, b.symm⟩
theorem quiet_add_left {P : Program} {f : FuncId} {args : Array Value} {w : World} {a n : Nat} {v : Value}
    (h : Calls P f args (w.drewN (a + n)) fun e w' => e = .returned v ∧ w.drewN (a + n) = w') :
    Calls P f args (w.drewN (a + n)) fun e w'' => e = .returned v ∧ ∃ m, w'' = w.drewN (a + m) :=
  h.mono fun _ _ ⟨he, hm⟩ => ⟨he, n, hm.symm⟩
theorem quiet_left {P : Program} {f : FuncId} {args : Array Value} {w : World} {n : Nat} {v : Value}
    (h : Calls P f args (w.drewN n) fun e w' => e = .returned v ∧ w.drewN n = w') : Calls P f args (w.drewN n) fun e w'' => e = .returned v ∧ ∃ m, w'' = w.drewN m :=
  h.mono fun _ _ ⟨he, hm⟩ => ⟨he, n, hm.symm⟩

theorem rangeAt_drewN {w : World} {b o : Nat} {cs : List Value} (h : w.rangeAt b o cs) (n : Nat) : (w.drewN n).rangeAt b o cs := h
theorem size_drewN (w : World) (n : Nat) : (w.drewN n).heap.size = w.heap.size := rfl
end Go.Proofs.YtkbemhjeflmppaaDoor

namespace Go.Proofs.YtkbemhjeflmppaaDoor
open Go.RowKit

end Go.Proofs.YtkbemhjeflmppaaDoor

namespace Go.Proofs.YtkbemhjeflmppaaDoor
open Go.RowKit

end Go.Proofs.YtkbemhjeflmppaaDoor

namespace Go.Proofs.YtkbemhjeflmppaaDoor
open Go.RowKit

end Go.Proofs.YtkbemhjeflmppaaDoor

namespace Go.Proofs.YtkbemhjeflmppaaDoor
open Go.RowKit

set_option maxRecDepth 100000 in
set_option maxHeartbeats 2000000 in
theorem l01Text_any (s : ByteArray) (w : World) (hs : s.size ≤ maxLen) :
    Calls Tryd.prog 40 #[.string s] w fun e w' => e = .returned (.bool (vtext s.data.toList)) ∧ w = w' := by
  unfold maxLen at hs
  generalize hS : vtext s.data.toList = S
  have HS := hide hS
  clear hS
  go_enter Tryd.func40, Tryd.ntmps40
  go_wp2
  go_loop [3] (fun i => ∃ k : Nat, k ≤ s.size ∧ i = .int .i64 k ∧ Hid (∀ j, j < k → good s.data.toList j)) (fun i => s.size - (intOf i).toNat)
  case atStart => exact ⟨0, Nat.zero_le _, rfl, fun j hj => by omega⟩
  case round =>
    obtain ⟨k, hk, rfl, hg⟩ := hrel
    by_cases hlt : k < s.size
    · have hi : (k : Int) < s.size := by omega
      have h0 : (0 : Int) ≤ k := by omega
      have hb := byteAt_get s k hlt
      have HB := hide hb
      clear hb
      cases h32 : ((s[k].toNat : Int) == 32)
      · have hne : byteAt s.data.toList k ≠ 32 := by rw [← HB.out]; simpa using h32
        have HNE := hide hne
        clear hne
        cases hc : cap (s[k].toNat : Int)
        · have hbad : ¬ good s.data.toList k := fun h => by
            rcases h with ⟨h, _⟩ | h
            · exact HNE.out h
            · rw [← HB.out, hc] at h; cases h
          have HBAD := hide hbad
          clear hbad
          go_wp2_with (go_at_call 81; refine (l01Letter_any _ _).mono ?_; rintro e w' ⟨rfl, rfl⟩)
          go_ret
          exact ⟨ret_bool ((vtext_false.2 fun h => HBAD.out (h.2 k (by simpa using hlt))).symm.trans HS.out), rfl⟩
        · have hok : good s.data.toList k := .inr (by rw [← HB.out]; exact hc)
          have HOK := hide hok
          clear hok
          go_wp2_with (go_at_call 81; refine (l01Letter_any _ _).mono ?_; rintro e w' ⟨rfl, rfl⟩)
          exact ⟨⟨k + 1, by omega, by go_num, fun j hj => by
            by_cases e : j = k
            · subst e; exact HOK.out
            · exact hg.out j (by omega)⟩, by simp [intOf]; omega⟩
      · have he : byteAt s.data.toList k = 32 := by rw [← HB.out]; simpa using h32
        have HE := hide he
        clear he
        by_cases hk0 : k = 0
        · have hd0 : ((k : Int) == 0) = true := by simp [hk0]
          have hd1 : (k == 0) = true := by simp [hk0]
          have hbad : ¬ good s.data.toList k := fun h => by
            rcases h with ⟨_, h, _⟩ | h
            · omega
            · rw [cap_32 HE.out] at h; cases h
          have HBAD := hide hbad
          clear hbad hk0
          go_wp2
          go_ret
          exact ⟨ret_bool ((vtext_false.2 fun h => HBAD.out (h.2 k (by simpa using hlt))).symm.trans HS.out), rfl⟩
        · have hd0 : ((k : Int) == 0) = false := by simp; omega
          have hd1 : (k == 0) = false := by simp; omega
          have j00 : (1 : Int) ≤ k := by omega
          clear hk0
          by_cases hke : k = s.size - 1
          · have he0 : ((k : Int) == s.size - 1) = true := by simp; omega
            have hbad : ¬ good s.data.toList k := fun h => by
              rcases h with ⟨_, _, h, _⟩ | h
              · have : s.data.toList.length = s.size := by simp
                omega
              · rw [cap_32 HE.out] at h; cases h
            have HBAD := hide hbad
            clear hbad hke
            go_wp2
            go_ret
            exact ⟨ret_bool ((vtext_false.2 fun h => HBAD.out (h.2 k (by simpa using hlt))).symm.trans HS.out), rfl⟩
          · have he0 : ((k : Int) == s.size - 1) = false := by simp; omega
            have hlt1 : k - 1 < s.size := by omega
            have hlast : k + 1 < s.data.toList.length := by simp; omega
            have HLAST := hide hlast
            clear hke hlast
            have j0 : (0 : Int) ≤ (k : Int) - 1 := by omega
            have j1 : (k : Int) - 1 < s.size := by omega
            have j3 : ((k : Int) - 1).toNat = k - 1 := by omega
            have hb1 := byteAt_get s (k - 1) hlt1
            have HB1 := hide hb1
            clear hb1
            cases hp : ((s[k - 1].toNat : Int) == 32)
            · have hok : good s.data.toList k := .inl ⟨HE.out, by omega, HLAST.out, by rw [← HB1.out]; simpa using hp⟩
              have HOK := hide hok
              clear hok
              go_wp2
              exact ⟨⟨k + 1, by omega, by go_num, fun j hj => by
                by_cases e : j = k
                · subst e; exact HOK.out
                · exact hg.out j (by omega)⟩, by simp [intOf]; omega⟩
            · have hbad : ¬ good s.data.toList k := fun h => by
                rcases h with ⟨_, _, _, h⟩ | h
                · exact h (by rw [← HB1.out]; simpa using hp)
                · rw [cap_32 HE.out] at h; cases h
              have HBAD := hide hbad
              clear hbad
              go_wp2
              go_ret
              exact ⟨ret_bool ((vtext_false.2 fun h => HBAD.out (h.2 k (by simpa using hlt))).symm.trans HS.out), rfl⟩
    · obtain rfl : k = s.size := by omega
      go_wp2
      go_ret
      refine ⟨ret_bool ?_, rfl⟩
      rw [← HS.out, Bool.eq_iff_iff, vtext_true]
      have hl : s.data.toList.length = s.size := by simp
      rw [hl]
      simp only [decide_eq_true_eq]
      exact ⟨fun h => ⟨by omega, hg.out⟩, fun h => by omega⟩
end Go.Proofs.YtkbemhjeflmppaaDoor
