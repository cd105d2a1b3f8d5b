/- Whether shorts are valid: the model's. -/
import Derived.Test.YtikmmeohmkjbeaaShortsW
namespace Go.Proofs.Ytikmmeohmkjbeaa
open Go.RowKit

theorem shB_caps {p : Sh} : shB p = true ↔ capsB p.1.data.toList = true ∧ capsB p.2.data.toList = true ∧ p.1.size ≤ 20 ∧ p.2.size < p.1.size := by
  have l1 : p.1.data.toList.length = p.1.size := by simp
  have l2 : p.2.data.toList.length = p.2.size := by simp
  rw [shB_true, vword_true, vword_true, capsB_true, capsB_true, l1, l2]
  constructor
  · rintro ⟨⟨a, _, b⟩, ⟨c, _, d⟩, e, f⟩; exact ⟨⟨a, b⟩, ⟨c, d⟩, e, f⟩
  · rintro ⟨⟨a, b⟩, ⟨c, d⟩, e, f⟩; exact ⟨⟨a, by omega, b⟩, ⟨c, by omega, d⟩, e, f⟩
theorem shB_no {p : Sh} (h : ¬ (capsB p.1.data.toList = true ∧ capsB p.2.data.toList = true ∧ p.1.size ≤ 20 ∧ p.2.size < p.1.size)) : shB p = false := by
  cases e : shB p
  · rfl
  · exact (h (shB_caps.1 e)).elim

set_option maxRecDepth 100000 in
set_option maxHeartbeats 8000000 in
theorem specShorts_any (A : Option Addr) (ps : List Sh) (c : Nat) (hn : ps.length ≤ maxLen) (hx : ∀ x ∈ ps, x.1.size ≤ maxLen ∧ x.2.size ≤ maxLen) (w : World) (hA : ShsAt w w.heap.size A ps) :
    Calls Try.prog 105 #[.slice A ps.length c] w fun e w' => e = .returned (.bool (vshorts ps)) ∧ Below w.heap.size w w' := by
  unfold maxLen at hn
  have HXM := hide (fun k (p : Sh) (h : ps[k]? = some p) => hx p (List.mem_of_getElem? h))
  have HNS := hide (fun k p (h : ps[k]? = some p) => not_short h)
  have HNO := hide (fun k p q (h : ps[k]? = some p) h0 hq => not_order (k := k) (p := p) (q := q) h h0 hq)
  have HALL : Hid (goodS ps ps.length → vshorts ps = decide ((ps.length : Int) ≤ 6)) := hide (fun h => by
    by_cases h6 : ps.length ≤ 6
    · rw [vshorts_true.2 ⟨h6, h⟩]; simp; omega
    · rw [vshorts_false.2 (fun hh => h6 hh.1)]; simp; omega)
  clear hx
  generalize vshorts ps = S at *
  obtain ⟨n, hL⟩ : ∃ n, ps.length = n := ⟨_, rfl⟩
  have HL := hide hL
  rw [hL] at hn HALL ⊢
  clear hL
  go_enter Try.func105, Try.ntmps105
  go_wp2
  go_loopw [3] (fun i wr => ∃ k : Nat, k ≤ n ∧ i = .int .i64 k ∧ Below w.heap.size w wr ∧ Hid (goodS ps k))
    (fun i _ => n - (intOf i).toNat)
  case atStart => exact ⟨0, by omega, rfl, Below.refl _ _, hide (goodS_zero _)⟩
  case round =>
    obtain ⟨k, hk, rfl, hB, hg⟩ := hrel
    have hBW := hB.size
    by_cases hlt : k < n
    · obtain ⟨b', o', rfl, hb', hps⟩ := hA (by intro e; rw [e] at HL; have := HL.out; simp at this; omega)
      obtain ⟨p, hp⟩ : ∃ p, ps[k]? = some p := ⟨ps[k]'(by rw [HL.out]; exact hlt), List.getElem?_eq_getElem _⟩
      obtain ⟨x, y⟩ := p
      obtain ⟨p1, p2⟩ := HXM.out k _ hp
      have hq0 := rangeAt_below (hps k _ hp) hB hb'
      have c0 : wr.cell? ⟨b', o' + k * 2, none⟩ = some (.string x) := hq0 0 _ rfl
      have c1 : wr.cell? ⟨b', o' + k * 2 + 1, none⟩ = some (.string y) := hq0 1 _ rfl
      have hi : (k : Int) < n := by omega
      have h0 : (0 : Int) ≤ k := by omega
      have HP := hide hp
      have HFA := hide (fun h => HNS.out k _ hp (shB_no (p := (x, y)) h))
      have HTR := hide (@shB_caps (x, y))
      have W1 := hide (fun w => l01Word_any x w p1)
      have W2 := hide (fun w => l01Word_any y w p2)
      clear hq0 hp
      unfold maxLen at p1 p2
      cases v1 : capsB x.data.toList
      · have HF := hide (HFA.out (fun h => by have h := h.1; simp only [v1] at h; cases h))
        rw [v1] at W1
        go_wp2_with fail
        refine (W1.out _).mono ?_
        rintro e w1 ⟨rfl, rfl⟩
        go_wp2
        go_ret
        exact ⟨ret_bool HF.out.symm, hB.alloc hB.size _⟩
      · cases v2 : capsB y.data.toList
        · have HF := hide (HFA.out (fun h => by have h := h.2.1; simp only [v2] at h; cases h))
          rw [v1] at W1; rw [v2] at W2
          go_wp2_with fail
          refine (W1.out _).mono ?_
          rintro e w1 ⟨rfl, rfl⟩
          go_wp2_with fail
          refine (W2.out _).mono ?_
          rintro e w2 ⟨rfl, rfl⟩
          go_wp2
          go_ret
          exact ⟨ret_bool HF.out.symm, hB.alloc hB.size _⟩
        · by_cases l1 : x.size ≤ 20
          · have g1 : decide ((20 : Int) < x.size) = false := by simp; omega
            have g1' : decide (20 < x.size) = false := by simp; omega
            by_cases l2 : y.size < x.size
            · have g2 : decide ((x.size : Int) ≤ y.size) = false := by simp; omega
              have g2' : decide (x.size ≤ y.size) = false := by simp; omega
              have HPT := hide (HTR.out.2 ⟨v1, v2, l1, l2⟩)
              rw [v1] at W1; rw [v2] at W2
              clear l1 l2
              by_cases hk0 : k = 0
              · have hd0 : decide (0 < k) = false := by simp [hk0]
                have hgo := hide (goodS_succ hg.out HP.out HPT.out (fun q h0 _ => absurd h0 (by omega)))
                clear hk0
                go_wp2_with fail
                refine (W1.out _).mono ?_
                rintro e w1 ⟨rfl, rfl⟩
                go_wp2_with fail
                refine (W2.out _).mono ?_
                rintro e w2 ⟨rfl, rfl⟩
                go_wp2_with fail
                go_region
                go_wp2
                exact ⟨⟨k + 1, by omega, by go_num, (hB.alloc hB.size _).drew, hgo⟩, by simp [intOf]; omega⟩
              · have hd0 : decide (0 < k) = true := by simp; omega
                obtain ⟨q, hq⟩ : ∃ q, ps[k - 1]? = some q := ⟨ps[k - 1]'(by have := HL.out; omega), List.getElem?_eq_getElem _⟩
                obtain ⟨r, s⟩ := q
                have j00 : (1 : Int) ≤ (k : Int) := by omega
                have HGT := hide (goodS_succ hg.out HP.out HPT.out)
                have HNN := hide (HNO.out k _ _ HP.out (by omega) hq)
                have hB1 : Below w.heap.size w (wr.alloc (.cells #[.string x, .string y] 132)) := hB.alloc hB.size _
                have hcell := rangeAt_below (hps (k - 1) _ hq) hB1 hb'
                have e0 := rangeAt_new' wr #[.string x, .string y] 132
                have hz1 : wr.heap.size < (wr.alloc (.cells #[.string x, .string y] 132)).heap.size := by simp
                have HQ := hide hq
                have j0 : (0 : Int) ≤ (k : Int) - 1 := by omega
                have j1 : (k : Int) - 1 < n := by omega
                have j2 := IntWalk.i64_in ((k : Int) - 1) ⟨by omega, by omega⟩
                have j3 : ((k : Int) - 1).toNat = k - 1 := by omega
                have hBx := hB1.size
                have hB0 := hB.size
                clear hk0 hq
                cases ha : lessS r x
                · have hc0 : Op.bytesLess r.toList x.toList = false := ha
                  have HF := hide (HNN.out ha)
                  go_wp2_with fail
                  refine (W1.out _).mono ?_
                  rintro e w1 ⟨rfl, rfl⟩
                  go_wp2_with fail
                  refine (W2.out _).mono ?_
                  rintro e w2 ⟨rfl, rfl⟩
                  go_wp2_with fail
                  have c0 := Over.get (hcell 0 _ rfl)
                  have d0 := Over.get (e0 0 _ rfl)
                  simp only [Nat.add_zero] at c0 d0
                  clear hcell e0 hps
                  generalize (wr.alloc (.cells #[.string x, .string y] 132)) = WW at *
                  generalize wr.heap.size = g at *
                  refine wp_region_over (by kernel_rfl) (by kernel_rfl) ?_
                  repeat (go_big_quiet_step ((fail)))
                  refine wpQuiet_nil ?_
                  intro w3 hb3
                  have hB2 : Below w.heap.size w w3 := hB1.trans (hb3.mono hBx)
                  clear hb3 c0 d0 j2 j3
                  go_wp2
                  go_ret
                  exact ⟨ret_bool HF.out.symm, hB2⟩
                · have hc0 : Op.bytesLess r.toList x.toList = true := ha
                  have hgo := hide (HGT.out (fun q' _ hq' => by rw [HQ.out] at hq'; injection hq' with hq'; subst hq'; exact ha))
                  go_wp2_with fail
                  refine (W1.out _).mono ?_
                  rintro e w1 ⟨rfl, rfl⟩
                  go_wp2_with fail
                  refine (W2.out _).mono ?_
                  rintro e w2 ⟨rfl, rfl⟩
                  go_wp2_with fail
                  have c0 := Over.get (hcell 0 _ rfl)
                  have d0 := Over.get (e0 0 _ rfl)
                  simp only [Nat.add_zero] at c0 d0
                  clear hcell e0 hps
                  generalize (wr.alloc (.cells #[.string x, .string y] 132)) = WW at *
                  generalize wr.heap.size = g at *
                  refine wp_region_over (by kernel_rfl) (by kernel_rfl) ?_
                  repeat (go_big_quiet_step ((fail)))
                  refine wpQuiet_nil ?_
                  intro w3 hb3
                  have hB2 : Below w.heap.size w w3 := hB1.trans (hb3.mono hBx)
                  clear hb3 c0 d0 j2 j3
                  go_wp2
                  exact ⟨⟨k + 1, by omega, by go_num, hB2, hgo⟩, by simp [intOf]; omega⟩
            · have g2 : decide ((x.size : Int) ≤ y.size) = true := by simp; omega
              have g2' : decide (x.size ≤ y.size) = true := by simp; omega
              have HF := hide (HFA.out (fun h => l2 h.2.2.2))
              rw [v1] at W1; rw [v2] at W2
              clear l1 l2
              go_wp2_with fail
              refine (W1.out _).mono ?_
              rintro e w1 ⟨rfl, rfl⟩
              go_wp2_with fail
              refine (W2.out _).mono ?_
              rintro e w2 ⟨rfl, rfl⟩
              go_wp2
              go_ret
              exact ⟨ret_bool HF.out.symm, hB.alloc hB.size _⟩
          · have g1 : decide ((20 : Int) < x.size) = true := by simp; omega
            have g1' : decide (20 < x.size) = true := by simp; omega
            have HF := hide (HFA.out (fun h => l1 h.2.2.1))
            rw [v1] at W1; rw [v2] at W2
            clear l1
            go_wp2_with fail
            refine (W1.out _).mono ?_
            rintro e w1 ⟨rfl, rfl⟩
            go_wp2_with fail
            refine (W2.out _).mono ?_
            rintro e w2 ⟨rfl, rfl⟩
            go_wp2
            go_ret
            exact ⟨ret_bool HF.out.symm, hB.alloc hB.size _⟩
    · obtain rfl : k = n := by omega
      have HT := hide (HALL.out (by have := hg.out; rwa [← HL.out] at this ⊢))
      go_wp2
      go_ret
      exact ⟨ret_bool HT.out.symm, hB⟩

theorem specValidShorts_any (A : Option Addr) (ps : List Sh) (c : Nat) (hn : ps.length ≤ maxLen) (hx : ∀ x ∈ ps, x.1.size ≤ maxLen ∧ x.2.size ≤ maxLen) (w : World) (hA : ShsAt w w.heap.size A ps) :
    Calls Try.prog 43 #[.slice A ps.length c] w fun e w' => e = .returned (.bool (vshorts ps)) ∧ Below w.heap.size w w' := by
  have HS := hide (specShorts_any A ps c hn hx w hA)
  clear hA hn hx
  generalize ps.length = n at *
  go_enter Try.func43, Try.ntmps43
  go_wp2_with (go_at_call 105; refine HS.out.mono ?_; rintro e w1 ⟨rfl, hb1⟩)
  go_ret
  exact ⟨rfl, hb1⟩
end Go.Proofs.Ytikmmeohmkjbeaa
