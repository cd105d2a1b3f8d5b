/- Whether shorts are valid: the program's, and the model's. -/
import Derived.Test.YtikmmeohmkjbeaaShorts
import Derived.Test.YtikmmeohmkjbeaaG6
import Derived.WalkLawsBesides
namespace Go.Proofs.Ytikmmeohmkjbeaa
open Go.RowKit

noncomputable def shB (p : Sh) : Bool := @decide (vword p.1.data.toList = true ∧ vword p.2.data.toList = true ∧ p.1.size ≤ 20 ∧ p.2.size < p.1.size) (Classical.propDecidable _)
theorem shB_true {p : Sh} : shB p = true ↔ vword p.1.data.toList = true ∧ vword p.2.data.toList = true ∧ p.1.size ≤ 20 ∧ p.2.size < p.1.size := by simp [shB]
theorem shB_false {p : Sh} : shB p = false ↔ ¬ (vword p.1.data.toList = true ∧ vword p.2.data.toList = true ∧ p.1.size ≤ 20 ∧ p.2.size < p.1.size) := by simp [shB]
def lessS (a b : ByteArray) : Bool := Op.bytesLess a.toList b.toList
def goodS (ps : List Sh) (k : Nat) : Prop := ∀ j p, j < k → ps[j]? = some p → shB p = true ∧ ∀ q, 0 < j → ps[j - 1]? = some q → lessS q.1 p.1 = true
theorem goodS_zero (ps : List Sh) : goodS ps 0 := fun j p h => absurd h (by omega)
theorem goodS_succ {ps : List Sh} {k : Nat} {p : Sh} (h : goodS ps k) (hp : ps[k]? = some p) (h1 : shB p = true) (h2 : ∀ q, 0 < k → ps[k - 1]? = some q → lessS q.1 p.1 = true) : goodS ps (k + 1) := fun j q hj hq => by
  by_cases e : j = k
  · subst e; rw [hp] at hq; injection hq with hq; subst hq; exact ⟨h1, h2⟩
  · exact h j q (by omega) hq
noncomputable def vshorts (ps : List Sh) : Bool := @decide (ps.length ≤ 6 ∧ goodS ps ps.length) (Classical.propDecidable _)
theorem vshorts_true {ps : List Sh} : vshorts ps = true ↔ ps.length ≤ 6 ∧ goodS ps ps.length := by simp [vshorts]
theorem vshorts_false {ps : List Sh} : vshorts ps = false ↔ ¬ (ps.length ≤ 6 ∧ goodS ps ps.length) := by simp [vshorts]
theorem not_short {ps : List Sh} {k : Nat} {p : Sh} (hp : ps[k]? = some p) (h : shB p = false) : vshorts ps = false := vshorts_false.2 (fun hh => by
  have := (hh.2 k p (List.getElem?_eq_some_iff.1 hp).1 hp).1; rw [h] at this; cases this)
theorem not_order {ps : List Sh} {k : Nat} {p q : Sh} (hp : ps[k]? = some p) (h0 : 0 < k) (hq : ps[k - 1]? = some q) (h : lessS q.1 p.1 = false) : vshorts ps = false := vshorts_false.2 (fun hh => by
  have := (hh.2 k p (List.getElem?_eq_some_iff.1 hp).1 hp).2 q h0 hq; rw [h] at this; cases this)

set_option maxHeartbeats 2000000 in
theorem validShort_any (a b : ByteArray) (w : World) (h1 : a.size ≤ maxLen) (h2 : b.size ≤ maxLen) :
    Calls Try.prog 107 #[.agg #[.string a, .string b]] w fun e w' => e = .returned (.bool (shB (a, b))) ∧ Below w.heap.size w w' := by
  have hb : Below w.heap.size w (w.alloc (.cells #[.string a, .string b] 132)) := (Below.refl _ _).alloc (Nat.le_refl _) _
  have W1 := hide (fun w => isWord_any a w h1)
  have W2 := hide (fun w => isWord_any b w h2)
  have hT := @shB_true (a, b)
  have hF := @shB_false (a, b)
  have HT := hide hT.2
  have HF := hide hF.2
  unfold maxLen at h1 h2
  clear hT hF
  generalize shB (a, b) = S at *
  have hs0 : w.heap.size < (w.alloc (.cells #[.string a, .string b] 132)).heap.size := by simp
  have e0 := rangeAt_new' w #[.string a, .string b] 132
  have c0 := hide (fun w' (h : Below (w.alloc (.cells #[.string a, .string b] 132)).heap.size (w.alloc (.cells #[.string a, .string b] 132)) w') => (by have := rangeAt_below e0 h hs0 0 _ rfl; exact this : w'.cell? ⟨w.heap.size, 0, none⟩ = some (.string a)))
  have c1 := hide (fun w' (h : Below (w.alloc (.cells #[.string a, .string b] 132)).heap.size (w.alloc (.cells #[.string a, .string b] 132)) w') => (by have := rangeAt_below e0 h hs0 1 _ rfl; exact this : w'.cell? ⟨w.heap.size, 1, none⟩ = some (.string b)))
  clear e0
  cases v1 : vword a.data.toList
  · have HS := hide (HF.out (fun h => by rw [v1] at h; cases h.1))
    rw [v1] at W1
    clear HT HF c0 c1
    go_enter Try.func107, Try.ntmps107
    go_wp2_with (first | (go_at_call 157; refine (W1.out _).mono ?_; rintro e w1 ⟨rfl, hb1⟩))
    go_ret
    exact ⟨ret_bool HS.out.symm, hb.trans (hb1.mono hb.size)⟩
  · cases v2 : vword b.data.toList
    · have HS := hide (HF.out (fun h => by rw [v2] at h; cases h.2.1))
      rw [v1] at W1; rw [v2] at W2
      clear HT HF
      go_enter Try.func107, Try.ntmps107
      go_wp2_with fail
      refine (W1.out _).mono ?_
      rintro e w1 ⟨rfl, hb1⟩
      have d0 := c0.out _ hb1
      have d1 := c1.out _ hb1
      have hB1 := hb.trans (hb1.mono hb.size)
      clear c0 c1 hb1
      go_wp2_with (go_at_call 157; refine (W2.out _).mono ?_; rintro e w2 ⟨rfl, hb2⟩)
      go_ret
      exact ⟨ret_bool HS.out.symm, hB1.trans (hb2.mono hB1.size)⟩
    · rw [v1] at W1; rw [v2] at W2
      by_cases l1 : a.size ≤ 20
      · have g1 : decide ((a.size : Int) ≤ 20) = true := by simp; omega
        have g1' : decide (a.size ≤ 20) = true := by simp; omega
        have HS : Hid (decide ((b.size : Int) < a.size) = S) := hide (by
          by_cases l2 : b.size < a.size
          · rw [HT.out ⟨v1, v2, l1, l2⟩]; simp; omega
          · rw [HF.out (fun h => l2 h.2.2.2)]; simp; omega)
        clear HT HF
        go_enter Try.func107, Try.ntmps107
        go_wp2_with fail
        refine (W1.out _).mono ?_
        rintro e w1 ⟨rfl, hb1⟩
        have d0 := c0.out _ hb1
        have d1 := c1.out _ hb1
        have hB1 := hb.trans (hb1.mono hb.size)
        go_wp2_with fail
        refine (W2.out _).mono ?_
        rintro e w2 ⟨rfl, hb2⟩
        have hbz := hb1.trans (hb2.mono hb1.size)
        have d2 := c0.out _ hbz
        have d3 := c1.out _ hbz
        clear c0 c1 hb1 d0 d1 hbz
        go_wp2
        go_ret
        exact ⟨ret_bool (by have := HS.out; simpa using this), hB1.trans (hb2.mono hB1.size)⟩
      · have g1 : decide ((a.size : Int) ≤ 20) = false := by simp; omega
        have g1' : decide (a.size ≤ 20) = false := by simp; omega
        have HS := hide (HF.out (fun h => l1 h.2.2.1))
        clear HT HF
        go_enter Try.func107, Try.ntmps107
        go_wp2_with fail
        refine (W1.out _).mono ?_
        rintro e w1 ⟨rfl, hb1⟩
        have d0 := c0.out _ hb1
        have d1 := c1.out _ hb1
        have hB1 := hb.trans (hb1.mono hb.size)
        go_wp2_with fail
        refine (W2.out _).mono ?_
        rintro e w2 ⟨rfl, hb2⟩
        have hbz := hb1.trans (hb2.mono hb1.size)
        have d2 := c0.out _ hbz
        have d3 := c1.out _ hbz
        clear c0 c1 hb1 d0 d1 hbz
        go_wp2
        go_ret
        exact ⟨ret_bool HS.out.symm, hB1.trans (hb2.mono hB1.size)⟩

set_option maxRecDepth 100000 in
set_option maxHeartbeats 8000000 in
theorem implValidShorts_any (A : Option Addr) (ps : List Sh) (c : Nat) (hn : ps.length ≤ maxLen) (hx : ∀ x ∈ ps, x.1.size ≤ maxLen ∧ x.2.size ≤ maxLen) (w : World) (hA : ShsAt w w.heap.size A ps) :
    Calls Try.prog 45 #[.slice A ps.length c] w fun e w' => e = .returned (.bool (vshorts ps)) ∧ Below w.heap.size w w' := by
  unfold maxLen at hn
  have HXM := hide (fun k (p : Sh) (h : ps[k]? = some p) => hx p (List.mem_of_getElem? h))
  have HNS := hide (fun k p (h : ps[k]? = some p) => not_short h)
  have HNO := hide (fun k p q (h : ps[k]? = some p) h0 hq => not_order (k := k) (p := p) (q := q) h h0 hq)
  have HALL := hide (fun (h6 : ps.length ≤ 6) h => vshorts_true.2 ⟨h6, h⟩)
  have H6 := hide (fun (h6 : ¬ ps.length ≤ 6) => vshorts_false.2 (fun h => h6 h.1))
  generalize vshorts ps = S at *
  by_cases h6 : ps.length ≤ 6
  · have hd : decide ((6 : Int) < ps.length) = false := by simp; omega
    have hd' : decide (6 < ps.length) = false := by simp; omega
    have HAL := hide (HALL.out h6)
    clear H6 HALL h6 hx
    obtain ⟨n, hL⟩ : ∃ n, ps.length = n := ⟨_, rfl⟩
    have HL := hide hL
    rw [hL] at hn hd hd' ⊢
    clear hL
    go_enter Try.func45, Try.ntmps45
    go_wp2
    go_loopw [10] (fun i wr => ∃ k : Nat, k ≤ n ∧ i = .int .i64 k ∧ Below w.heap.size w wr ∧ Hid (goodS ps k))
      (fun i _ => n - (intOf i).toNat)
    case atStart => exact ⟨0, by omega, rfl, Below.refl _ _, hide (goodS_zero _)⟩
    case round =>
      obtain ⟨k, hk, rfl, hB, hg⟩ := hrel
      have hBW := hB.size
      by_cases hlt : k < n
      · obtain ⟨b', o', rfl, hb', hps⟩ := hA (by intro e; rw [e] at HL; have := HL.out; simp at this; omega)
        obtain ⟨p, hp⟩ : ∃ p, ps[k]? = some p := ⟨ps[k]'(by rw [HL.out]; exact hlt), List.getElem?_eq_getElem _⟩
        obtain ⟨x, y⟩ := p
        obtain ⟨p1, p2⟩ := HXM.out k _ hp
        have hq0 := rangeAt_below (hps k _ hp) hB hb'
        have c0 : wr.cell? ⟨b', o' + k * 2, none⟩ = some (.string x) := hq0 0 _ rfl
        have c1 : wr.cell? ⟨b', o' + k * 2 + 1, none⟩ = some (.string y) := hq0 1 _ rfl
        have hi : (k : Int) < n := by omega
        have h0 : (0 : Int) ≤ k := by omega
        have HP := hide hp
        clear hq0 hp
        go_wp2
        clear c0 c1
        have hB1 : Below w.heap.size w (wr.alloc (.cells #[.string x, .string y] 132)) := hB.alloc hB.size _
        have e0 := rangeAt_new' wr #[.string x, .string y] 132
        have hz1 : wr.heap.size < (wr.alloc (.cells #[.string x, .string y] 132)).heap.size := by simp
        have hB0 := hB.size
        generalize (wr.alloc (.cells #[.string x, .string y] 132)) = W1 at *
        generalize wr.heap.size = g at *
        have hBx := hB1.size
        have d0 := Over.get (e0 0 _ rfl)
        have d1 := Over.get (e0 1 _ rfl)
        simp only [Nat.zero_add] at d0 d1
        cases hP : shB (x, y)
        · have HF := hide (HNS.out k _ HP.out hP)
          clear e0 hps
          refine wp_region_over (by kernel_rfl) (by kernel_rfl) ?_
          repeat (go_big_quiet_step (first | (go_at_call 107; exact over_call (validShort_any _ _ _ p1 p2))))
          refine wpQuiet_nil ?_
          intro w1 hb1
          have hB2 : Below w.heap.size w w1 := hB1.trans (hb1.mono hBx)
          clear hb1 d0 d1
          simp only [hP]
          go_wp2
          go_ret
          exact ⟨ret_bool HF.out.symm, hB2⟩
        · by_cases hk0 : k = 0
          · have hd0 : decide (0 < k) = false := by simp [hk0]
            have hgo := hide (goodS_succ hg.out HP.out hP (fun q h0 _ => absurd h0 (by omega)))
            clear e0 hps hk0
            refine wp_region_over (by kernel_rfl) (by kernel_rfl) ?_
            repeat (go_big_quiet_step (first | (go_at_call 107; exact over_call (validShort_any _ _ _ p1 p2))))
            refine wpQuiet_nil ?_
            intro w1 hb1
            have hB2 : Below w.heap.size w w1 := hB1.trans (hb1.mono hBx)
            clear hb1 d0 d1
            simp only [hP]
            go_wp2
            exact ⟨⟨k + 1, by omega, by go_num, hB2, hgo⟩, by simp [intOf]; omega⟩
          · have hd0 : decide (0 < k) = true := by simp; omega
            obtain ⟨q, hq⟩ : ∃ q, ps[k - 1]? = some q := ⟨ps[k - 1]'(by have := HL.out; omega), List.getElem?_eq_getElem _⟩
            obtain ⟨r, s⟩ := q
            have j00 : (1 : Int) ≤ (k : Int) := by omega
            have HGT := hide (goodS_succ hg.out HP.out hP)
            have HNN := hide (HNO.out k _ _ HP.out (by omega) hq)
            have hcell := rangeAt_below (hps (k - 1) _ hq) hB1 hb'
            have HQ := hide hq
            have c0 := Over.get (hcell 0 _ rfl)
            have c1 := Over.get (hcell 1 _ rfl)
            simp only [Nat.add_zero] at c0
            clear e0 hps hk0 hcell hq
            have j0 : (0 : Int) ≤ (k : Int) - 1 := by omega
            have j1 : (k : Int) - 1 < n := by omega
            have j2 := IntWalk.i64_in ((k : Int) - 1) ⟨by omega, by omega⟩
            have j3 : ((k : Int) - 1).toNat = k - 1 := by omega
            cases ha : lessS r x
            · have hc0 : Op.bytesLess r.toList x.toList = false := ha
              have HF := hide (HNN.out ha)
              refine wp_region_over (by kernel_rfl) (by kernel_rfl) ?_
              repeat (go_big_quiet_step (first | (go_at_call 107; exact over_call (validShort_any _ _ _ p1 p2))))
              refine wpQuiet_nil ?_
              intro w1 hb1
              have hB2 : Below w.heap.size w w1 := hB1.trans (hb1.mono hBx)
              clear hb1 d0 d1 c0 c1 j2 j3
              simp only [hP]
              go_wp2
              go_ret
              exact ⟨ret_bool HF.out.symm, hB2⟩
            · have hc0 : Op.bytesLess r.toList x.toList = true := ha
              have hgo := hide (HGT.out (fun q' _ hq' => by rw [HQ.out] at hq'; injection hq' with hq'; subst hq'; exact ha))
              refine wp_region_over (by kernel_rfl) (by kernel_rfl) ?_
              repeat (go_big_quiet_step (first | (go_at_call 107; exact over_call (validShort_any _ _ _ p1 p2))))
              refine wpQuiet_nil ?_
              intro w1 hb1
              have hB2 : Below w.heap.size w w1 := hB1.trans (hb1.mono hBx)
              clear hb1 d0 d1 c0 c1 j2 j3
              simp only [hP]
              go_wp2
              exact ⟨⟨k + 1, by omega, by go_num, hB2, hgo⟩, by simp [intOf]; omega⟩
      · obtain rfl : k = n := by omega
        have HT := hide (HAL.out (by rw [HL.out]; exact hg.out))
        go_wp2
        go_ret
        exact ⟨ret_bool HT.out.symm, hB⟩
  · have hd : decide ((6 : Int) < ps.length) = true := by simp; omega
    have hd' : decide (6 < ps.length) = true := by simp; omega
    have HF := hide (H6.out h6)
    go_enter Try.func45, Try.ntmps45
    go_wp2
    go_ret
    exact ⟨ret_bool HF.out.symm, Below.refl _ _⟩
end Go.Proofs.Ytikmmeohmkjbeaa
