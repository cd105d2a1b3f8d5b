/- By how much two lists of gaps are apart, of both. -/
import Derived.Test.YtjmkbdghenjlaaaDoorGlA
import Derived.Test.YtjmkbdghenjlaaaDoorG6
namespace Go.Proofs.YtjmkbdghenjlaaaDoor
open Go Go.RowKit

set_option maxHeartbeats 1000000 in
theorem l00MaxG_any (a b : Int) (w : World) : Calls Tryd.prog 89 #[.int .i64 a, .int .i64 b] w fun e w' => e = .returned (.int .i64 (max a b)) ∧ w = w' := by
  by_cases h : b < a
  · have hm : max a b = a := by omega
    have HM := hide hm
    clear hm
    go_enter Tryd.func89, Tryd.ntmps89
    go_wp2
    go_ret
    exact ⟨ret_int HM.out.symm, rfl⟩
  · have hm : max a b = b := by omega
    have HM := hide hm
    clear hm
    go_enter Tryd.func89, Tryd.ntmps89
    go_wp2
    go_ret
    exact ⟨ret_int HM.out.symm, rfl⟩

theorem absI_two (x y : Int) : max (x - y) (y - x) = absI (x - y) := by unfold absI; omega

set_option maxRecDepth 100000 in
set_option maxHeartbeats 8000000 in
theorem l07Apart_any (A : Option Addr) (xs : List Int) (c : Nat) (B : Option Addr) (ys : List Int) (d : Nat) (w : World) (hx : xs.length ≤ 30 ∧ ∀ x ∈ xs, -100 ≤ x ∧ x ≤ 100) (hy : ys.length ≤ 30 ∧ ∀ x ∈ ys, -100 ≤ x ∧ x ≤ 100) (hA : IntsAt w w.heap.size A xs) (hB : IntsAt w w.heap.size B ys) :
    Calls Tryd.prog 52 #[.slice A xs.length c, .slice B ys.length d] w fun e w' => e = .returned (.int .i64 (apV xs ys)) ∧ Below w.heap.size w w' := by
  have HBD := hide (apM_bd hx.2 hy.2)
  have HX := hide hx.2
  have HY := hide hy.2
  have HS1 := hide (fun (k : Nat) (x y : Int) h h' => @apM_both xs ys k x y h h')
  have HS2 := hide (fun (k : Nat) h => @apM_one xs ys k h)
  have HEND := hide (apM_all xs ys)
  obtain ⟨hx1, _⟩ := hx
  obtain ⟨hy1, _⟩ := hy
  have HA := hide hA
  have HB := hide hB
  have HZ : Hid (apM xs ys 0 = 0) := hide (by unfold apM; rw [if_pos (Nat.zero_le _)]; rfl)
  obtain ⟨n, hN⟩ : ∃ n, xs.length = n := ⟨_, rfl⟩
  obtain ⟨m, hM⟩ : ∃ m, ys.length = m := ⟨_, rfl⟩
  have HN := hide hN
  have HM := hide hM
  rw [hN] at hx1 HS2 HEND ⊢
  rw [hM] at hy1 HS2 HEND ⊢
  clear hN hM hA hB
  go_enter Tryd.func52, Tryd.ntmps52
  go_wp2
  go_loopw [5, 6] (fun v i wr => ∃ k : Nat, k ≤ max n m ∧ i = .int .i64 k ∧ v = .int .i64 (apM xs ys k) ∧ Below w.heap.size w wr) (fun _ i _ => max n m - (intOf i).toNat)
  case atStart => exact ⟨0, Nat.zero_le _, rfl, by rw [HZ.out], Below.refl _ _⟩
  case round =>
    obtain ⟨k, hk, rfl, rfl, hBw⟩ := hrel
    have hbs := hBw.size
    obtain ⟨b1, b2⟩ := HBD.out k
    have h0 : (0 : Int) ≤ k := by omega
    have hkk : (k : Int) ≤ 30 := by omega
    by_cases h1 : k < n
    · have d1 : decide ((k : Int) < (n : Int)) = true := by simpa using h1
      have d1' : (k : Int) < (n : Int) := by omega
      by_cases h2 : k < m
      · have d2 : decide ((k : Int) < (m : Int)) = true := by simpa using h2
        have d2' : (k : Int) < (m : Int) := by omega
        obtain ⟨b, o, rfl, hb, hxs⟩ := HA.out (by intro e; rw [e] at HN; have := HN.out; simp at this; omega)
        obtain ⟨b', o', rfl, hb', hys⟩ := HB.out (by intro e; rw [e] at HM; have := HM.out; simp at this; omega)
        obtain ⟨x, hxk⟩ : ∃ x, xs[k]? = some x := ⟨xs[k]'(by rw [HN.out]; exact h1), List.getElem?_eq_getElem _⟩
        obtain ⟨y, hyk⟩ : ∃ y, ys[k]? = some y := ⟨ys[k]'(by rw [HM.out]; exact h2), List.getElem?_eq_getElem _⟩
        have e0 : wr.cell? ⟨b, o + k, none⟩ = some (.int .i64 x) := (hBw.cell (p := ⟨b, o + k, none⟩) hb).trans (hxs k x hxk)
        have e1 : wr.cell? ⟨b', o' + k, none⟩ = some (.int .i64 y) := (hBw.cell (p := ⟨b', o' + k, none⟩) hb').trans (hys k y hyk)
        obtain ⟨x1, x2⟩ := HX.out x (List.mem_of_getElem? hxk)
        obtain ⟨y1, y2⟩ := HY.out y (List.mem_of_getElem? hyk)
        have HS := hide (HS1.out k x y hxk hyk)
        have HAB := hide (absI_two x y)
        have hab : 0 ≤ absI (x - y) ∧ absI (x - y) ≤ 200 := by unfold absI; omega
        obtain ⟨ab1, ab2⟩ := hab
        have hw1 := IntWalk.i64_in (x - y) ⟨by omega, by omega⟩
        have hw2 := IntWalk.i64_in (y - x) ⟨by omega, by omega⟩
        have hw3 := IntWalk.i64_in (apM xs ys k + absI (x - y)) ⟨by omega, by omega⟩
        have hmx := HAB.out
        have c0 := Over.get e0
        have c1 := Over.get e1
        clear hxs hys hxk hyk h1 h2 HAB
        generalize absI (x - y) = q at *
        generalize apM xs ys k = s at *
        go_wp2
        refine wp_region_over (by kernel_rfl) (by kernel_rfl) ?_
        repeat (go_big_quiet_step ((go_at_call 89; exact over_same (l00MaxG_any _ _ _))))
        refine wpQuiet_nil ?_
        intro w1 hb1
        clear c0 c1 e0 e1
        go_wp2
        exact ⟨⟨k + 1, by omega, by go_num, by rw [HS.out], hBw.trans (hb1.mono hbs)⟩, by simp [intOf]; omega⟩
      · have d2 : decide ((k : Int) < (m : Int)) = false := by simpa using h2
        have hw3 := IntWalk.i64_in (apM xs ys k + 10) ⟨by omega, by omega⟩
        have HS := hide (HS2.out k (by omega))
        generalize apM xs ys k = s at *
        go_wp2
        exact ⟨⟨k + 1, by omega, by go_num, by rw [HS.out], hBw⟩, by simp [intOf]; omega⟩
    · have d1 : decide ((k : Int) < (n : Int)) = false := by simpa using h1
      by_cases h2 : k < m
      · have d2 : decide ((k : Int) < (m : Int)) = true := by simpa using h2
        have hw3 := IntWalk.i64_in (apM xs ys k + 10) ⟨by omega, by omega⟩
        have HS := hide (HS2.out k (by omega))
        generalize apM xs ys k = s at *
        go_wp2
        exact ⟨⟨k + 1, by omega, by go_num, by rw [HS.out], hBw⟩, by simp [intOf]; omega⟩
      · have d2 : decide ((k : Int) < (m : Int)) = false := by simpa using h2
        obtain rfl : k = max n m := by omega
        have HE := hide HEND.out
        go_wp2
        go_ret
        exact ⟨ret_int HE.out, hBw⟩

set_option maxRecDepth 100000 in
set_option maxHeartbeats 8000000 in
theorem apart_any (A : Option Addr) (xs : List Int) (c : Nat) (B : Option Addr) (ys : List Int) (d : Nat) (w : World) (hx : xs.length ≤ 30 ∧ ∀ x ∈ xs, -100 ≤ x ∧ x ≤ 100) (hy : ys.length ≤ 30 ∧ ∀ x ∈ ys, -100 ≤ x ∧ x ≤ 100) (hA : IntsAt w w.heap.size A xs) (hB : IntsAt w w.heap.size B ys) :
    Calls Tryd.prog 55 #[.slice A xs.length c, .slice B ys.length d] w fun e w' => e = .returned (.int .i64 (apV xs ys)) ∧ Below w.heap.size w w' := by
  have HBD := hide (apS_bd hx.2 hy.2)
  have HX := hide hx.2
  have HY := hide hy.2
  have HS1 := hide (fun (k : Nat) (x y : Int) h h' => @apS_succ xs ys k x y h h')
  have HV := hide (show apV xs ys = apS xs ys (min xs.length ys.length) + 10 * ((max xs.length ys.length : Nat) - (min xs.length ys.length : Nat) : Int) from rfl)
  obtain ⟨hx1, _⟩ := hx
  obtain ⟨hy1, _⟩ := hy
  have HA := hide hA
  have HB := hide hB
  obtain ⟨n, hN⟩ : ∃ n, xs.length = n := ⟨_, rfl⟩
  obtain ⟨m, hM⟩ : ∃ m, ys.length = m := ⟨_, rfl⟩
  have HN := hide hN
  have HM := hide hM
  rw [hN] at hx1 HV ⊢
  rw [hM] at hy1 HV ⊢
  obtain ⟨b, hb⟩ : ∃ b, min n m = b := ⟨_, rfl⟩
  obtain ⟨t, ht⟩ : ∃ t, max n m = t := ⟨_, rfl⟩
  rw [hb, ht] at HV
  have hb1 : min (n : Int) (m : Int) = (b : Int) := by omega
  have ht1 : max (n : Int) (m : Int) = (t : Int) := by omega
  have hbt : b ≤ t ∧ t ≤ 30 ∧ b ≤ n ∧ b ≤ m := by omega
  obtain ⟨g1, g2, g3, g4⟩ := hbt
  have hw1 := IntWalk.i64_in ((t : Int) - b) ⟨by omega, by omega⟩
  have hw2 := IntWalk.i64_in (10 * ((t : Int) - b)) ⟨by omega, by omega⟩
  clear hN hM hA hB hb ht
  go_enter Tryd.func55, Tryd.ntmps55
  go_wp2
  go_loopw [6, 22] (fun v i wr => ∃ k : Nat, k ≤ b ∧ i = .int .i64 k ∧ v = .int .i64 (10 * ((t : Int) - b) + apS xs ys k) ∧ Below w.heap.size w wr) (fun _ i _ => b - (intOf i).toNat)
  case atStart => exact ⟨0, Nat.zero_le _, rfl, by simp [apS], Below.refl _ _⟩
  case round =>
    obtain ⟨k, hk, rfl, rfl, hBw⟩ := hrel
    have hbs := hBw.size
    obtain ⟨b1, b2⟩ := HBD.out k
    have h0 : (0 : Int) ≤ k := by omega
    by_cases hlt : k < b
    · have hlti : (k : Int) < (b : Int) := by omega
      have d1' : (k : Int) < (n : Int) := by omega
      have d2' : (k : Int) < (m : Int) := by omega
      obtain ⟨b', o, rfl, hb', hxs⟩ := HA.out (by intro e; rw [e] at HN; have := HN.out; simp at this; omega)
      obtain ⟨b'', o', rfl, hb'', hys⟩ := HB.out (by intro e; rw [e] at HM; have := HM.out; simp at this; omega)
      obtain ⟨x, hxk⟩ : ∃ x, xs[k]? = some x := ⟨xs[k]'(by rw [HN.out]; omega), List.getElem?_eq_getElem _⟩
      obtain ⟨y, hyk⟩ : ∃ y, ys[k]? = some y := ⟨ys[k]'(by rw [HM.out]; omega), List.getElem?_eq_getElem _⟩
      have e0 : wr.cell? ⟨b', o + k, none⟩ = some (.int .i64 x) := (hBw.cell (p := ⟨b', o + k, none⟩) hb').trans (hxs k x hxk)
      have e1 : wr.cell? ⟨b'', o' + k, none⟩ = some (.int .i64 y) := (hBw.cell (p := ⟨b'', o' + k, none⟩) hb'').trans (hys k y hyk)
      obtain ⟨x1, x2⟩ := HX.out x (List.mem_of_getElem? hxk)
      obtain ⟨y1, y2⟩ := HY.out y (List.mem_of_getElem? hyk)
      have HS := hide (HS1.out k x y hxk hyk)
      have hab : 0 ≤ absI (x - y) ∧ absI (x - y) ≤ 200 := by unfold absI; omega
      obtain ⟨ab1, ab2⟩ := hab
      have HSZ := hide (fun W => sizeOf_any (x - y) W ⟨by omega, by omega⟩)
      have hw3 := IntWalk.i64_in (x - y) ⟨by omega, by omega⟩
      have hw4 := IntWalk.i64_in (10 * ((t : Int) - b) + apS xs ys k + absI (x - y)) ⟨by omega, by omega⟩
      have c0 := Over.get e0
      have c1 := Over.get e1
      clear hxs hys hxk hyk
      generalize absI (x - y) = q at *
      generalize apS xs ys k = s at *
      go_wp2
      refine wp_region_over (by kernel_rfl) (by kernel_rfl) ?_
      repeat (go_big_quiet_step ((go_at_call 91; exact over_same (HSZ.out _))))
      refine wpQuiet_nil ?_
      intro w1 hb1
      clear c0 c1 e0 e1
      go_wp2
      exact ⟨⟨k + 1, by omega, by go_num, by rw [HS.out, Int.add_assoc], hBw.trans (hb1.mono hbs)⟩, by simp [intOf]; omega⟩
    · obtain rfl : k = b := by omega
      go_wp2
      go_ret
      exact ⟨ret_int (by rw [HV.out]; omega), hBw⟩
end Go.Proofs.YtjmkbdghenjlaaaDoor
