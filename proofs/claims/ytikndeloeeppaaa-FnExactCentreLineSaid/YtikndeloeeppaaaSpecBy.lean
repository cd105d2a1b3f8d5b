/- The model's By of a pair. -/
import Derived.Test.YtikndeloeeppaaaFindP
import Derived.Test.YtikndeloeeppaaaSpecFace2
namespace Go.Proofs.Ytikndeloeeppaaa
open Go.RowKit

set_option maxRecDepth 100000 in
set_option maxHeartbeats 4000000 in
theorem l01By_any (F : Fc) (hF : F.ok) (b : Nat) (A : Option Addr) (c : Nat) (x y : Int) (w : World) (hr : w.rangeAt b 0 (fc F (.slice A F.ps.length c))) (hA : PairsAt w w.heap.size A F.ps) :
    Calls Try.prog 166 #[.pointer (some ⟨b, 0, none⟩), .int .u8 x, .int .u8 y] w fun e w' => e = .returned (.int .i64 (byL F.ps x y)) ∧ w = w' := by
  have x28 := rangeAt_cell hr (fc_sl hF.len _)
  have hn := hF.n
  unfold maxLen at hn
  generalize hS : byL F.ps x y = S
  have HS := hide hS
  clear hS hr
  go_enter Try.func166, Try.ntmps166
  go_wp2
  go_loop [7] (fun i => ∃ k : Nat, k ≤ F.ps.length ∧ i = .int .i64 k ∧ Hid (∀ j q, j < k → F.ps[j]? = some q → ¬ (q.1 = x ∧ q.2.1 = y)))
    (fun i => F.ps.length - (intOf i).toNat)
  case atStart => exact ⟨0, by omega, rfl, hide (fun j q hj => by omega)⟩
  case round =>
    obtain ⟨k, hk, rfl, hg⟩ := hrel
    by_cases hlt : k < F.ps.length
    · obtain ⟨b', o', rfl, hb', hps⟩ := hA (by intro e; rw [e] at hlt; simp at hlt)
      obtain ⟨p, hp⟩ : ∃ p, F.ps[k]? = some p := ⟨F.ps[k]'hlt, List.getElem?_eq_getElem _⟩
      have hcell := hps k p hp
      obtain ⟨r, s, t⟩ := p
      obtain ⟨⟨p1, p2⟩, ⟨p3, p4⟩, p5, p6⟩ := hF.pair hp
      have c0 : w.cell? ⟨b', o' + k * 3, none⟩ = some (.int .u8 r) := hcell 0 _ rfl
      have c1 : w.cell? ⟨b', o' + k * 3 + 1, none⟩ = some (.int .u8 s) := hcell 1 _ rfl
      have c2 : w.cell? ⟨b', o' + k * 3 + 2, none⟩ = some (.int .i8 t) := hcell 2 _ rfl
      have hi : (k : Int) < F.ps.length := by omega
      have h0 : (0 : Int) ≤ k := by omega
      clear hcell hps
      cases h1 : (r == x)
      · have hne : ¬ (r = x ∧ s = y) := fun e => by rw [e.1] at h1; simp at h1
        have HN := hide hne
        clear hne
        go_wp2
        exact ⟨⟨k + 1, by omega, by go_num, hide (fun j q hj hq => by
          by_cases e : j = k
          · subst e; rw [hp] at hq; injection hq with hq; subst hq; exact HN.out
          · exact hg.out j q (by omega) hq)⟩, by simp [intOf]; omega⟩
      · cases h2 : (s == y)
        · have hne : ¬ (r = x ∧ s = y) := fun e => by rw [e.2] at h2; simp at h2
          have HN := hide hne
          clear hne
          go_wp2
          exact ⟨⟨k + 1, by omega, by go_num, hide (fun j q hj hq => by
            by_cases e : j = k
            · subst e; rw [hp] at hq; injection hq with hq; subst hq; exact HN.out
            · exact hg.out j q (by omega) hq)⟩, by simp [intOf]; omega⟩
        · go_wp2
          go_ret
          exact ⟨ret_int ((byL_of_get hp (by simpa using h1) (by simpa using h2) (fun j q hj hq => hg.out j q hj hq)).symm.trans HS.out), rfl⟩
    · obtain rfl : k = F.ps.length := by omega
      go_wp2
      go_ret
      exact ⟨ret_int ((byL_none (fun j q hq => hg.out j q (List.getElem?_eq_some_iff.1 hq).1 hq)).symm.trans HS.out), rfl⟩
end Go.Proofs.Ytikndeloeeppaaa
