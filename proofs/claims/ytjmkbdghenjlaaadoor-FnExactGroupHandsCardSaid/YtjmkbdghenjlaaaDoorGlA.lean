/- Lists of gaps: whether they are as they have to be, and by how much two are apart, of both. -/
import Derived.Test.YtjmkbdghenjlaaaDoorCodeOf
import Derived.Test.YtjmkbdghenjlaaaDoorChP
import Derived.Test.YtjmkbdghenjlaaaDoorTk
namespace Go.Proofs.YtjmkbdghenjlaaaDoor
open Go Go.RowKit

def gokB (x : Int) : Bool := inB x (-100) 100
def gvB (xs : List Int) : Bool := decide (xs.length ≤ 30) && xs.all gokB
theorem gv_true {xs : List Int} (h : gvB xs = true) : xs.length ≤ 30 ∧ ∀ x ∈ xs, -100 ≤ x ∧ x ≤ 100 := by
  unfold gvB at h
  rw [Bool.and_eq_true, decide_eq_true_iff] at h
  exact ⟨h.1, fun x hx => inB_true.1 (List.all_eq_true.1 h.2 x hx)⟩
theorem gv_bad {xs : List Int} {k : Nat} {x : Int} (hx : xs[k]? = some x) (h : gokB x = false) : gvB xs = false := by
  have : xs.all gokB = false := by
    rw [List.all_eq_false]
    exact ⟨x, List.mem_of_getElem? hx, by rw [h]; decide⟩
  unfold gvB; rw [this]; simp
theorem gv_long {xs : List Int} (h : 30 < xs.length) : gvB xs = false := by
  unfold gvB
  have : decide (xs.length ≤ 30) = false := by simp; omega
  rw [this]; rfl
theorem gv_good {xs : List Int} (h : xs.length ≤ 30) (h' : ∀ (k : Nat) (x : Int), xs[k]? = some x → gokB x = true) : gvB xs = true := by
  unfold gvB
  rw [Bool.and_eq_true, decide_eq_true_iff, List.all_eq_true]
  refine ⟨h, fun x hx => ?_⟩
  obtain ⟨k, hk, rfl⟩ := List.getElem_of_mem hx
  exact h' k _ (List.getElem?_eq_getElem hk)

def absI (d : Int) : Int := max d (-d)
/-- The sum of the first k differences. -/
def apS (xs ys : List Int) : Nat → Int
  | 0 => 0
  | k + 1 => apS xs ys k + absI (xs.getD k 0 - ys.getD k 0)
theorem apS_succ {xs ys : List Int} {k : Nat} {x y : Int} (hx : xs[k]? = some x) (hy : ys[k]? = some y) : apS xs ys (k + 1) = apS xs ys k + absI (x - y) := by
  rw [apS, getD_of hx, getD_of hy]
theorem getD_bdG {xs : List Int} (h : ∀ x ∈ xs, -100 ≤ x ∧ x ≤ 100) (k : Nat) : -100 ≤ xs.getD k 0 ∧ xs.getD k 0 ≤ 100 := by
  by_cases hk : k < xs.length
  · rw [List.getD_eq_getElem?_getD, List.getElem?_eq_getElem hk]; exact h _ (List.getElem_mem hk)
  · rw [List.getD_eq_getElem?_getD, List.getElem?_eq_none (by omega)]; simp
theorem apS_bd {xs ys : List Int} (hx : ∀ x ∈ xs, -100 ≤ x ∧ x ≤ 100) (hy : ∀ x ∈ ys, -100 ≤ x ∧ x ≤ 100) : ∀ k, 0 ≤ apS xs ys k ∧ apS xs ys k ≤ 200 * k
  | 0 => by simp [apS]
  | k + 1 => by
    have ih := apS_bd hx hy k
    have h1 := getD_bdG hx k
    have h2 := getD_bdG hy k
    rw [apS]; unfold absI; omega
/-- By how much two lists are apart. -/
def apV (xs ys : List Int) : Int := apS xs ys (min xs.length ys.length) + 10 * ((max xs.length ys.length : Nat) - (min xs.length ys.length : Nat) : Int)
/-- .. as far as k of the longer one go. -/
def apM (xs ys : List Int) (k : Nat) : Int := if k ≤ min xs.length ys.length then apS xs ys k else apS xs ys (min xs.length ys.length) + 10 * ((k : Int) - (min xs.length ys.length : Nat))
theorem apM_all (xs ys : List Int) : apM xs ys (max xs.length ys.length) = apV xs ys := by
  unfold apM apV
  split
  · rename_i h
    have e : max xs.length ys.length = min xs.length ys.length := by omega
    rw [e]; omega
  · rfl
theorem apM_both {xs ys : List Int} {k : Nat} {x y : Int} (hx : xs[k]? = some x) (hy : ys[k]? = some y) : apM xs ys (k + 1) = apM xs ys k + absI (x - y) := by
  have h1 : k < xs.length := (List.getElem?_eq_some_iff.1 hx).1
  have h2 : k < ys.length := (List.getElem?_eq_some_iff.1 hy).1
  unfold apM
  rw [if_pos (by omega), if_pos (by omega), apS_succ hx hy]
theorem apM_one {xs ys : List Int} {k : Nat} (h : min xs.length ys.length ≤ k) : apM xs ys (k + 1) = apM xs ys k + 10 := by
  unfold apM
  rw [if_neg (by omega)]
  split
  · rename_i h'
    have e : k = min xs.length ys.length := by omega
    rw [← e]; omega
  · omega
theorem apM_bd {xs ys : List Int} (hx : ∀ x ∈ xs, -100 ≤ x ∧ x ≤ 100) (hy : ∀ x ∈ ys, -100 ≤ x ∧ x ≤ 100) (k : Nat) : 0 ≤ apM xs ys k ∧ apM xs ys k ≤ 200 * k := by
  have h1 := apS_bd hx hy k
  have h2 := apS_bd hx hy (min xs.length ys.length)
  unfold apM
  split <;> omega

set_option maxRecDepth 100000 in
set_option maxHeartbeats 4000000 in
theorem l07Gaps_any (A : Option Addr) (xs : List Int) (c : Nat) (w : World) (hn : xs.length ≤ maxLen) (hA : IntsAt w w.heap.size A xs) :
    Calls Tryd.prog 50 #[.slice A xs.length c] w fun e w' => e = .returned (.bool (gvB xs)) ∧ w = w' := by
  unfold maxLen at hn
  have HBAD := hide (fun k x (hx : xs[k]? = some x) h => gv_bad hx h)
  have HGOOD := hide (fun h h' => @gv_good xs h h')
  have HLONG := hide (@gv_long xs)
  have HA := hide hA
  obtain ⟨Q, hQ⟩ : ∃ Q, gvB xs = Q := ⟨_, rfl⟩
  rw [hQ] at HGOOD HLONG ⊢
  have HQ := hide hQ
  obtain ⟨n, hN⟩ : ∃ n, xs.length = n := ⟨_, rfl⟩
  have HN := hide hN
  rw [hN] at hn HGOOD HLONG ⊢
  clear hN hA hQ
  go_enter Tryd.func50, Tryd.ntmps50
  go_wp2
  go_loop [3] (fun i => ∃ k : Nat, k ≤ n ∧ i = .int .i64 k ∧ Hid (∀ (j : Nat) (x : Int), j < k → xs[j]? = some x → gokB x = true)) (fun i => n - (intOf i).toNat)
  case atStart => exact ⟨0, Nat.zero_le _, rfl, hide (fun j x h => by omega)⟩
  case round =>
    obtain ⟨k, hk, rfl, HALL⟩ := hrel
    by_cases hlt : k < n
    · obtain ⟨b, o, rfl, hb, hxs⟩ := HA.out (by intro e; rw [e] at HN; have := HN.out; simp at this; omega)
      obtain ⟨x, hxk⟩ : ∃ x, xs[k]? = some x := ⟨xs[k]'(by rw [HN.out]; exact hlt), List.getElem?_eq_getElem _⟩
      have hc := hxs k x hxk
      have HX := hide hxk
      have hi : (k : Int) < n := by omega
      have h0 : (0 : Int) ≤ k := by omega
      clear hxs hxk
      cases hg : inB x (-100) 100
      · have HE := hide (HQ.out.symm.trans (HBAD.out k x HX.out hg))
        go_wp2_with (go_at_call 38; refine (l00In_any _ _ _ _).mono ?_; rintro e w' ⟨rfl, rfl⟩; simp only [hg])
        go_ret
        exact ⟨ret_bool HE.out.symm, rfl⟩
      · have HN2 : Hid (∀ (j : Nat) (y : Int), j < k + 1 → xs[j]? = some y → gokB y = true) := hide (fun j y hj hy => by
          by_cases e : j = k
          · subst e; rw [HX.out] at hy; injection hy with hy; subst hy; exact hg
          · exact HALL.out j y (by omega) hy)
        go_wp2_with (go_at_call 38; refine (l00In_any _ _ _ _).mono ?_; rintro e w' ⟨rfl, rfl⟩; simp only [hg])
        exact ⟨⟨k + 1, by omega, by go_num, HN2⟩, by simp [intOf]; omega⟩
    · obtain rfl : k = n := by omega
      by_cases h30 : k ≤ 30
      · have HE := hide (HGOOD.out h30 (fun j x hx => HALL.out j x (by have := (List.getElem?_eq_some_iff.1 hx).1; have := HN.out; omega) hx))
        have hd : decide ((k : Int) ≤ 30) = true := by simp; omega
        have hd' : decide (k ≤ 30) = true := by simpa using h30
        go_wp2
        go_ret
        exact ⟨ret_bool HE.out.symm, rfl⟩
      · have HE := hide (HLONG.out (by omega))
        have hd : decide ((k : Int) ≤ 30) = false := by simp; omega
        have hd' : decide (k ≤ 30) = false := by simpa using h30
        go_wp2
        go_ret
        exact ⟨ret_bool HE.out.symm, rfl⟩

set_option maxHeartbeats 1000000 in
theorem sizeOf_any (d : Int) (w : World) (h : -1000 ≤ d ∧ d ≤ 1000) :
    Calls Tryd.prog 91 #[.int .i64 d] w fun e w' => e = .returned (.int .i64 (absI d)) ∧ w = w' := by
  have hw := IntWalk.i64_in (-d) ⟨by omega, by omega⟩
  have HE := hide (show absI d = max d (-d) from rfl)
  go_enter Tryd.func91, Tryd.ntmps91
  go_wp2
  go_ret
  exact ⟨ret_int (by rw [HE.out]), rfl⟩

def gvK : Bool → Int
  | true => 0
  | false => 1
set_option maxRecDepth 100000 in
set_option maxHeartbeats 4000000 in
theorem check_any (A : Option Addr) (xs : List Int) (c : Nat) (w : World) (hn : xs.length ≤ maxLen) (hA : IntsAt w w.heap.size A xs) :
    Calls Tryd.prog 90 #[.slice A xs.length c] w fun e w' => (∃ er : Er, e = .returned (erV er) ∧ erK er = gvK (gvB xs) ∧ (er = .none ∨ ∃ m, er = .S m)) ∧ w = w' := by
  unfold maxLen at hn
  have HBAD := hide (fun k x (hx : xs[k]? = some x) h => gv_bad hx h)
  have HGOOD := hide (fun h h' => @gv_good xs h h')
  have HLONG := hide (@gv_long xs)
  have HA := hide hA
  obtain ⟨Q, hQ⟩ : ∃ Q, gvB xs = Q := ⟨_, rfl⟩
  rw [hQ] at HGOOD HLONG ⊢
  have HQ := hide hQ
  obtain ⟨n, hN⟩ : ∃ n, xs.length = n := ⟨_, rfl⟩
  have HN := hide hN
  rw [hN] at hn HGOOD HLONG ⊢
  clear hN hA hQ
  go_enter Tryd.func90, Tryd.ntmps90
  go_wp2
  go_loop [7] (fun i => ∃ k : Nat, k ≤ n ∧ i = .int .i64 k ∧ k ≤ 30 ∧ Hid (∀ (j : Nat) (x : Int), j < k → xs[j]? = some x → gokB x = true)) (fun i => n - (intOf i).toNat)
  case atStart => exact ⟨0, Nat.zero_le _, rfl, by omega, hide (fun j x h => by omega)⟩
  case round =>
    obtain ⟨k, hk, rfl, hk30, HALL⟩ := hrel
    by_cases hlt : k < n
    · obtain ⟨b, o, rfl, hb, hxs⟩ := HA.out (by intro e; rw [e] at HN; have := HN.out; simp at this; omega)
      obtain ⟨x, hxk⟩ : ∃ x, xs[k]? = some x := ⟨xs[k]'(by rw [HN.out]; exact hlt), List.getElem?_eq_getElem _⟩
      have hc := hxs k x hxk
      have HX := hide hxk
      have hi : (k : Int) < n := by omega
      have h0 : (0 : Int) ≤ k := by omega
      clear hxs hxk
      by_cases h30 : k = 30
      · have hd : ((k : Int) == 30) = true := by simp; omega
        have HE := hide (HLONG.out (by omega))
        clear h30
        go_wp2
        go_ret
        exact ⟨⟨.S k, rfl, by rw [HE.out]; rfl, .inr ⟨_, rfl⟩⟩, rfl⟩
      · have hd : ((k : Int) == 30) = false := by simp; omega
        cases hg : inB x (-100) 100
        · have HE := hide (HQ.out.symm.trans (HBAD.out k x HX.out hg))
          go_wp2_with (go_at_call 79; refine (between_any _ _ _ _).mono ?_; rintro e w' ⟨rfl, rfl⟩; simp only [hg])
          go_ret
          exact ⟨⟨.S k, rfl, by rw [HE.out]; rfl, .inr ⟨_, rfl⟩⟩, rfl⟩
        · have HN2 : Hid (∀ (j : Nat) (y : Int), j < k + 1 → xs[j]? = some y → gokB y = true) := hide (fun j y hj hy => by
            by_cases e : j = k
            · subst e; rw [HX.out] at hy; injection hy with hy; subst hy; exact hg
            · exact HALL.out j y (by omega) hy)
          have hk31 : k + 1 ≤ 30 := by omega
          go_wp2_with (go_at_call 79; refine (between_any _ _ _ _).mono ?_; rintro e w' ⟨rfl, rfl⟩; simp only [hg])
          exact ⟨⟨k + 1, by omega, by go_num, hk31, HN2⟩, by simp [intOf]; omega⟩
    · obtain rfl : k = n := by omega
      have HE := hide (HGOOD.out hk30 (fun j x hx => HALL.out j x (by have := (List.getElem?_eq_some_iff.1 hx).1; have := HN.out; omega) hx))
      go_wp2
      go_ret
      exact ⟨⟨.none, rfl, by rw [HE.out]; rfl, .inl rfl⟩, rfl⟩
end Go.Proofs.YtjmkbdghenjlaaaDoor
