/- Whether a list of numbers comes before another one: the model's. -/
import Derived.Test.YtgklhdacnklhdaaTailP
import Derived.Test.YtgklhdacnklhdaaG2
namespace Go.Proofs.Ytgklhdacnklhdaa
open Go.RowKit

theorem lexL_step {us bs : List Int} {k : Nat} {a b : Int} (ha : us[k]? = some a) (hb : bs[k]? = some b) : lexL (us.drop k) (bs.drop k) = if a = b then lexL (us.drop (k + 1)) (bs.drop (k + 1)) else decide (a < b) := by
  obtain ⟨h1, e1⟩ := List.getElem?_eq_some_iff.1 ha
  obtain ⟨h2, e2⟩ := List.getElem?_eq_some_iff.1 hb
  rw [List.drop_eq_getElem_cons h1, List.drop_eq_getElem_cons h2, e1, e2]
  rfl
theorem lexL_end {us bs : List Int} {k : Nat} (h : k = us.length ∨ k = bs.length) (h1 : k ≤ us.length) (h2 : k ≤ bs.length) : lexL (us.drop k) (bs.drop k) = decide (us.length < bs.length) := by
  by_cases e1 : k = us.length
  · rw [e1, List.drop_length]
    cases hb : bs.drop us.length with
    | nil =>
      have := List.drop_eq_nil_iff.1 hb
      simp only [lexL]; rw [decide_eq_false (by omega)]
    | cons c r =>
      have : us.length < bs.length := by
        rcases Nat.lt_or_ge us.length bs.length with h | h
        · exact h
        · rw [List.drop_eq_nil_iff.2 h] at hb; cases hb
      simp only [lexL]; rw [decide_eq_true this]
  · have e2 : k = bs.length := by omega
    rw [e2, List.drop_length]
    cases ha : us.drop bs.length with
    | nil =>
      have := List.drop_eq_nil_iff.1 ha
      omega
    | cons c r => simp only [lexL]; rw [decide_eq_false (by omega)]

set_option maxRecDepth 100000 in
set_option maxHeartbeats 2000000 in
theorem l02Before_any (A B : Option Addr) (us bs : List Int) (ca cb : Nat) (w : World) (hn : us.length ≤ maxLen) (hm : bs.length ≤ maxLen) (hA : IntsAt w w.heap.size A us) (hB : IntsAt w w.heap.size B bs) :
    Calls Try.prog 135 #[.slice A us.length ca, .slice B bs.length cb] w fun e w' => e = .returned (.bool (lexL us bs)) ∧ Below w.heap.size w w' := by
  unfold maxLen at hn hm
  have HX := hide (show lexL us bs = lexL (us.drop 0) (bs.drop 0) from rfl)
  have HST := hide (fun k a b h1 h2 => lexL_step (us := us) (bs := bs) (k := k) (a := a) (b := b) h1 h2)
  have HEN := hide (fun k h h1 h2 => lexL_end (us := us) (bs := bs) (k := k) h h1 h2)
  generalize lexL us bs = R at *
  go_enter Try.func135, Try.ntmps135
  go_wp2
  go_loopw [5] (fun i wr => ∃ k m : Nat, k ≤ us.length ∧ k ≤ bs.length ∧ i = .int .i64 k ∧ wr = w.drewN m ∧ Hid (R = lexL (us.drop k) (bs.drop k)))
    (fun i _ => us.length - (intOf i).toNat)
  case atStart => exact ⟨0, 0, by omega, by omega, rfl, rfl, HX⟩
  case round =>
    obtain ⟨k, m, hk, hk2, rfl, rfl, hR⟩ := hrel
    by_cases h1 : k < us.length
    · by_cases h2 : k < bs.length
      · obtain ⟨ba, oa, rfl, hba, hca⟩ := hA (by intro e; rw [e] at h1; simp at h1)
        obtain ⟨bb, ob, rfl, hbb, hcb⟩ := hB (by intro e; rw [e] at h2; simp at h2)
        obtain ⟨a, ha⟩ : ∃ a, us[k]? = some a := ⟨us[k]'h1, List.getElem?_eq_getElem _⟩
        obtain ⟨b, hb⟩ : ∃ b, bs[k]? = some b := ⟨bs[k]'h2, List.getElem?_eq_getElem _⟩
        have c1 := hca k a ha
        have c2 := hcb k b hb
        have HS := hide (HST.out k a b ha hb)
        have i1 : (k : Int) < us.length := by omega
        have i2 : (k : Int) < bs.length := by omega
        have i0 : (0 : Int) ≤ k := by omega
        clear hca hcb ha hb
        by_cases he : a = b
        · have hd : ((a : Int) != b) = false := by simpa using he
          have HN := hide (show R = lexL (us.drop (k + 1)) (bs.drop (k + 1)) by rw [hR.out, HS.out, if_pos he])
          clear he
          go_wp2
          go_quiet (fail)
          clear c1 c2 hd
          go_wp2
          exact ⟨⟨k + 1, _, by omega, by omega, by go_num, rfl, HN⟩, by simp [intOf]; omega⟩
        · have hd : ((a : Int) != b) = true := by simpa using he
          have HN := hide (show R = decide (a < b) by rw [hR.out, HS.out, if_neg he])
          clear he
          cases hl : decide (a < b)
          · go_wp2
            go_quiet (fail)
            go_wp2
            go_quiet (fail)
            go_wp2
            go_ret
            exact ⟨ret_bool (by rw [HN.out]; exact hl.symm), below_drewN (below_drewN (below_drewN (Below.refl _ _) _) _) _⟩
          · go_wp2
            go_quiet (fail)
            go_wp2
            go_quiet (fail)
            go_wp2
            go_ret
            exact ⟨ret_bool (by rw [HN.out]; exact hl.symm), below_drewN (below_drewN (below_drewN (Below.refl _ _) _) _) _⟩
      · have i2 : ¬ (k : Int) < bs.length := by omega
        have HE := hide (hR.out.trans (HEN.out k (.inr (by omega)) hk hk2))
        clear hR
        go_wp2
        go_ret
        exact ⟨ret_bool (by rw [HE.out]), below_drewN (Below.refl _ _) _⟩
    · have i1 : ¬ (k : Int) < us.length := by omega
      have HE := hide (hR.out.trans (HEN.out k (.inl (by omega)) hk hk2))
      clear hR
      go_wp2
      go_ret
      exact ⟨ret_bool (by rw [HE.out]), below_drewN (Below.refl _ _) _⟩
end Go.Proofs.Ytgklhdacnklhdaa
