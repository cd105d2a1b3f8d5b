/- The first list of gaps that is not as it has to be; GapsApart, of both. -/
import Derived.Test.YtcbijfbeapeliaaDoorGlB
namespace Go.Proofs.YtcbijfbeapeliaaDoor
open Go Go.RowKit

abbrev Iss := Option Addr × List Int × Nat
/-- Lists of numbers lie there, one behind the other. -/
def IssAt (w : World) (B : Nat) (A : Option Addr) (ls : List Iss) : Prop :=
  ls ≠ [] → ∃ b o, A = some ⟨b, o, none⟩ ∧ b < B ∧ ∀ k l, ls[k]? = some l → w.cell? ⟨b, o + k, none⟩ = some (.slice l.1 l.2.1.length l.2.2)
def allG (ls : List Iss) : Bool := ls.all (fun l => gvB l.2.1)
theorem allG_take {ls : List Iss} {k : Nat} {l : Iss} (h : ls[k]? = some l) : allG (ls.take (k + 1)) = (allG (ls.take k) && gvB l.2.1) := by
  unfold allG; rw [List.take_add_one, h]; simp
theorem allG_bad {ls : List Iss} {k : Nat} {l : Iss} (h : ls[k]? = some l) (h' : gvB l.2.1 = false) : allG ls = false := by
  unfold allG
  rw [List.all_eq_false]
  exact ⟨l, List.mem_of_getElem? h, by rw [h']; decide⟩

set_option maxRecDepth 100000 in
set_option maxHeartbeats 4000000 in
theorem gapsError_any (A : Option Addr) (ls : List Iss) (c : Nat) (w : World) (hn : ls.length ≤ maxLen) (hl : ∀ l ∈ ls, l.2.1.length ≤ maxLen ∧ IntsAt w w.heap.size l.1 l.2.1) (hA : IssAt w w.heap.size A ls) :
    Calls Tryd.prog 71 #[.slice A ls.length c] w fun e w' => (∃ er : Er, e = .returned (erV er) ∧ erK er = gvK (allG ls) ∧ (er = .none ∨ ∃ m, er = .S m)) ∧ w = w' := by
  unfold maxLen at hn
  have HCH := hide (fun l (h : l ∈ ls) => check_any l.1 l.2.1 l.2.2 w (hl l h).1 (hl l h).2)
  have HBAD := hide (fun k l h h' => @allG_bad ls k l h h')
  have HTK := hide (fun k l h => @allG_take ls k l h)
  have HTA : Hid (ls.take ls.length = ls) := hide List.take_length
  have HA := hide hA
  obtain ⟨n, hN⟩ : ∃ n, ls.length = n := ⟨_, rfl⟩
  have HN := hide hN
  rw [hN] at hn HTA ⊢
  clear hN hA hl
  go_enter Tryd.func71, Tryd.ntmps71
  go_wp2
  go_loop [8] (fun i => ∃ k : Nat, k ≤ n ∧ i = .int .i64 k ∧ Hid (allG (ls.take k) = true)) (fun i => n - (intOf i).toNat)
  case atStart => exact ⟨0, Nat.zero_le _, rfl, hide rfl⟩
  case round =>
    obtain ⟨k, hk, rfl, HG⟩ := hrel
    by_cases hlt : k < n
    · obtain ⟨b, o, rfl, hb, hxs⟩ := HA.out (by intro e; rw [e] at HN; have := HN.out; simp at this; omega)
      obtain ⟨l, hlk⟩ : ∃ l, ls[k]? = some l := ⟨ls[k]'(by rw [HN.out]; exact hlt), List.getElem?_eq_getElem _⟩
      have hc := hxs k l hlk
      have HC := hide (HCH.out l (List.mem_of_getElem? hlk))
      have HX := hide hlk
      have hi : (k : Int) < n := by omega
      have h0 : (0 : Int) ≤ k := by omega
      clear hxs hlk
      go_wp2_with fail
      refine HC.out.mono ?_
      rintro e w' ⟨⟨er, rfl, hk2, hor⟩, rfl⟩
      rcases hor with rfl | ⟨m, rfl⟩
      · have hg : gvB l.2.1 = true := by
          cases h : gvB l.2.1
          · rw [h] at hk2; simp [erK, gvK] at hk2
          · rfl
        have HG2 : Hid (allG (ls.take (k + 1)) = true) := hide (by rw [HTK.out k l HX.out, HG.out, hg]; rfl)
        clear hk2 hg
        show _
        change _ at HC
        simp only [erV]
        go_wp2
        exact ⟨⟨k + 1, by omega, by go_num, HG2⟩, by simp [intOf]; omega⟩
      · have hg : gvB l.2.1 = false := by
          cases h : gvB l.2.1
          · rfl
          · rw [h] at hk2; simp [erK, gvK] at hk2
        have HE := hide (HBAD.out k l HX.out hg)
        clear hk2 hg
        simp only [erV]
        go_wp2
        go_ret
        exact ⟨⟨.S m, rfl, by rw [HE.out]; rfl, .inr ⟨_, rfl⟩⟩, rfl⟩
    · obtain rfl : k = n := by omega
      have HG2 := HG
      rw [HTA.out] at HG2
      go_wp2
      go_ret
      exact ⟨⟨.none, rfl, by rw [HG2.out]; rfl, .inl rfl⟩, rfl⟩

def gaC (xs ys : List Int) : Int := if (gvB xs && gvB ys) = true then 0 else 1
def gaV (xs ys : List Int) : Int := if (gvB xs && gvB ys) = true then apV xs ys else 0
theorem ga_ok {xs ys : List Int} (h : gvB xs = true) (h' : gvB ys = true) : gaV xs ys = apV xs ys ∧ gaC xs ys = 0 := by
  have e : (gvB xs && gvB ys) = true := by rw [h, h']; rfl
  exact ⟨if_pos e, if_pos e⟩
theorem ga_no {xs ys : List Int} (h : (gvB xs && gvB ys) = false) : gaV xs ys = 0 ∧ gaC xs ys = 1 := ⟨if_neg (by rw [h]; decide), if_neg (by rw [h]; decide)⟩

set_option maxRecDepth 100000 in
set_option maxHeartbeats 4000000 in
theorem specGapsApart_any (A : Option Addr) (xs : List Int) (c : Nat) (hn : xs.length ≤ maxLen) (B : Option Addr) (ys : List Int) (d : Nat) (hm : ys.length ≤ maxLen) (w : World) (hA : IntsAt w w.heap.size A xs) (hB : IntsAt w w.heap.size B ys) :
    Calls Tryd.prog 31 #[.slice A xs.length c, .slice B ys.length d] w fun e w' => e = .returned (.tuple #[.int .i64 (gaV xs ys), .int .i64 (gaC xs ys)]) ∧ Below w.heap.size w w' := by
  have H1 := hide (l07Gaps_any A xs c w hn hA)
  have H2 := hide (l07Gaps_any B ys d w hm hB)
  cases h1 : gvB xs
  · obtain ⟨e1, e2⟩ := ga_no (xs := xs) (ys := ys) (by rw [h1]; rfl)
    rw [e1, e2]
    rw [h1] at H1
    clear e1 e2 hA hB hn hm
    go_enter Tryd.func31, Tryd.ntmps31
    go_wp2_with fail
    refine H1.out.mono ?_
    rintro e w' ⟨rfl, rfl⟩
    go_wp2
    go_ret2
    exact ⟨rfl, Below.refl _ _⟩
  · cases h2 : gvB ys
    · obtain ⟨e1, e2⟩ := ga_no (xs := xs) (ys := ys) (by rw [h1, h2]; rfl)
      rw [e1, e2]
      rw [h1] at H1
      rw [h2] at H2
      clear e1 e2 hA hB hn hm
      go_enter Tryd.func31, Tryd.ntmps31
      go_wp2_with fail
      refine H1.out.mono ?_
      rintro e w' ⟨rfl, rfl⟩
      go_wp2_with fail
      refine H2.out.mono ?_
      rintro e w' ⟨rfl, rfl⟩
      go_wp2
      go_ret2
      exact ⟨rfl, Below.refl _ _⟩
    · obtain ⟨e1, e2⟩ := ga_ok h1 h2
      rw [e1, e2]
      have HP := hide (l07Apart_any A xs c B ys d w (gv_true h1) (gv_true h2) hA hB)
      rw [h1] at H1
      rw [h2] at H2
      clear e1 e2 hA hB hn hm
      go_enter Tryd.func31, Tryd.ntmps31
      go_wp2_with fail
      refine H1.out.mono ?_
      rintro e w' ⟨rfl, rfl⟩
      go_wp2_with fail
      refine H2.out.mono ?_
      rintro e w' ⟨rfl, rfl⟩
      go_wp2_with fail
      refine HP.out.mono ?_
      rintro e w1 ⟨rfl, hb1⟩
      go_wp2
      go_ret2
      exact ⟨rfl, hb1⟩

theorem ersAt_new1 {w : World} {t : TypeId} (a : Er) : ErsAt (w.alloc (.cells #[erV a] t)) (w.alloc (.cells #[erV a] t)).heap.size (some ⟨w.heap.size, 0, none⟩) [a] := fun _ => by
  refine ⟨w.heap.size, 0, rfl, by simp, fun k x hx => ?_⟩
  have hr := rangeAt_new' w #[erV a] t
  match k with
  | 0 => obtain rfl : a = x := by simpa using hx
         exact hr 0 _ rfl
  | k + 1 => simp at hx

set_option maxRecDepth 100000 in
set_option maxHeartbeats 8000000 in
theorem implGapsApart_any (A : Option Addr) (xs : List Int) (c : Nat) (hn : xs.length ≤ maxLen) (B : Option Addr) (ys : List Int) (d : Nat) (hm : ys.length ≤ maxLen) (w : World) (hg : ErrT w) (hA : IntsAt w w.heap.size A xs) (hB : IntsAt w w.heap.size B ys) :
    Calls Tryd.prog 33 #[.slice A xs.length c, .slice B ys.length d] w fun e w' => e = .returned (.tuple #[.int .i64 (gaV xs ys), .int .i64 (gaC xs ys)]) ∧ Below w.heap.size w w' := by
  have hb0 : Below w.heap.size w (w.alloc (.cells #[.slice A xs.length c, .slice B ys.length d] 45)) := (Below.refl _ _).alloc (Nat.le_refl _) _
  have r0 := rangeAt_new' w #[.slice A xs.length c, .slice B ys.length d] 45
  have hI : IssAt (w.alloc (.cells #[.slice A xs.length c, .slice B ys.length d] 45)) (w.alloc (.cells #[.slice A xs.length c, .slice B ys.length d] 45)).heap.size (some ⟨w.heap.size, 0, none⟩) [(A, xs, c), (B, ys, d)] := fun _ => by
    refine ⟨w.heap.size, 0, rfl, by simp, fun k x hx => ?_⟩
    match k with
    | 0 => obtain rfl : (A, xs, c) = x := by simpa using hx
           exact r0 0 _ rfl
    | 1 => obtain rfl : (B, ys, d) = x := by simpa using hx
           exact r0 1 _ rfl
    | k + 2 => simp at hx
  have HGE := hide (gapsError_any (some ⟨w.heap.size, 0, none⟩) [(A, xs, c), (B, ys, d)] 2 (w.alloc (.cells #[.slice A xs.length c, .slice B ys.length d] 45)) (by unfold maxLen; simp) (by
    intro l hl
    simp only [List.mem_cons, List.not_mem_nil, or_false] at hl
    rcases hl with rfl | rfl
    · exact ⟨hn, (hA.go hb0)⟩
    · exact ⟨hm, (hB.go hb0)⟩) hI)
  have hall : allG [(A, xs, c), (B, ys, d)] = (gvB xs && gvB ys) := by simp [allG]
  rw [hall] at HGE
  have HA := hide hA
  have HB := hide hB
  have hg0 := hg.below hb0
  have HB0 := hide hb0
  have HOK := hide (@ga_ok xs ys)
  have HNO := hide (@ga_no xs ys)
  have HAP := hide (fun W h1 h2 hA hB => apart_any A xs c B ys d W (gv_true h1) (gv_true h2) hA hB)
  clear hA hB hg hb0 r0 hI hall
  go_enter Tryd.func33, Tryd.ntmps33
  go_wp2_with fail
  generalize (w.alloc (.cells #[.slice A xs.length c, .slice B ys.length d] 45)) = W0 at *
  refine HGE.out.mono ?_
  rintro e w' ⟨⟨er, rfl, hk2, hor⟩, rfl⟩
  rcases hor with rfl | ⟨m, rfl⟩
  · have hboth : (gvB xs && gvB ys) = true := by
      cases h : (gvB xs && gvB ys)
      · rw [h] at hk2; simp [erK, gvK] at hk2
      · rfl
    simp only [Bool.and_eq_true] at hboth
    have HEE := hide (HOK.out hboth.1 hboth.2)
    have hb1 : Below W0.heap.size W0 (W0.alloc (.cells #[.nilIface] 86)) := (Below.refl _ _).alloc (Nat.le_refl _) _
    have HC := hide (codeOf_any (some ⟨W0.heap.size, 0, none⟩) [Er.none] 1 (W0.alloc (.cells #[.nilIface] 86)) (by simp) (ersAt_new1 Er.none) (hg0.below hb1))
    have HBB := hide hboth
    have hb2 := HB0.out.trans (hb1.mono HB0.out.size)
    clear hk2 hboth hg0
    simp only [erV]
    go_wp2_with fail
    refine HC.out.mono ?_
    rintro e w1 ⟨rfl, hb3⟩
    have hb4 := hb2.trans (hb3.mono hb2.size)
    have HP := hide (HAP.out w1 HBB.out.1 HBB.out.2 (HA.out.go hb4) (HB.out.go hb4))
    have e0 : erC [Er.none] = 0 := rfl
    simp only [e0]
    clear hb1 hb2 hb3 HC
    go_wp2_with fail
    refine HP.out.mono ?_
    rintro e w2 ⟨rfl, hb5⟩
    go_wp2
    go_ret2
    exact ⟨ret_ii HEE.out.1.symm HEE.out.2.symm, hb4.trans (hb5.mono hb4.size)⟩
  · have hboth : (gvB xs && gvB ys) = false := by
      cases h : (gvB xs && gvB ys)
      · rfl
      · rw [h] at hk2; simp [erK, gvK] at hk2
    have HEE := hide (HNO.out hboth)
    have hb1 : Below W0.heap.size W0 (W0.alloc (.cells #[.iface 146 (.int .i64 m)] 86)) := (Below.refl _ _).alloc (Nat.le_refl _) _
    have HC := hide (codeOf_any (some ⟨W0.heap.size, 0, none⟩) [Er.S m] 1 (W0.alloc (.cells #[.iface 146 (.int .i64 m)] 86)) (by simp) (ersAt_new1 (Er.S m)) (hg0.below hb1))
    have hb2 := HB0.out.trans (hb1.mono HB0.out.size)
    clear hk2 hboth hg0
    simp only [erV]
    go_wp2_with fail
    refine HC.out.mono ?_
    rintro e w1 ⟨rfl, hb3⟩
    have e0 : erC [Er.S m] = 1 := rfl
    simp only [e0]
    go_wp2
    go_ret2
    exact ⟨ret_ii HEE.out.1.symm HEE.out.2.symm, hb2.trans (hb3.mono hb2.size)⟩
end Go.Proofs.YtcbijfbeapeliaaDoor
