/- The first list of gaps that is not as it has to be; GapsApart, of both. -/
import Derived.Test.YtjmkbdghenjlaaaDoorGlB
namespace Go.Proofs.YtjmkbdghenjlaaaDoor
open Go Go.RowKit

abbrev Iss := Option Addr × List Int × Nat
/-- Lists of numbers lie there, one behind the other. -/
def IssAt (w : World) (B : Nat) (A : Option Addr) (ls : List Iss) : Prop :=
  ls ≠ [] → ∃ b o, A = some ⟨b, o, none⟩ ∧ b < B ∧ ∀ k l, ls[k]? = some l → w.cell? ⟨b, o + k, none⟩ = some (.slice l.1 l.2.1.length l.2.2)
def allG (ls : List Iss) : Bool := ls.all (fun l => gvB l.2.1)
theorem allG_take {ls : List Iss} {k : Nat} {l : Iss} (h : ls[k]? = some l) : allG (ls.take (k + 1)) = (allG (ls.take k) && gvB l.2.1) := by
  unfold allG; rw [List.take_add_one, h]; simp
theorem allG_bad {ls : List Iss} {k : Nat} {l : Iss} (h : ls[k]? = some l) (h' : gvB l.2.1 = false) : allG ls = false := by
  unfold allG
  rw [List.all_eq_false]
  exact ⟨l, List.mem_of_getElem? h, by rw [h']; decide⟩

set_option maxRecDepth 100000 in
set_option maxHeartbeats 4000000 in
theorem gapsError_any (A : Option Addr) (ls : List Iss) (c : Nat) (w : World) (hn : ls.length ≤ maxLen) (hl : ∀ l ∈ ls, l.2.1.length ≤ maxLen ∧ IntsAt w w.heap.size l.1 l.2.1) (hA : IssAt w w.heap.size A ls) :
    Calls Tryd.prog 53 #[.slice A ls.length c] w fun e w' => (∃ er : Er, e = .returned (erV er) ∧ erK er = gvK (allG ls) ∧ (er = .none ∨ ∃ m, er = .S m)) ∧ w = w' := by
  unfold maxLen at hn
  have HCH := hide (fun l (h : l ∈ ls) => check_any l.1 l.2.1 l.2.2 w (hl l h).1 (hl l h).2)
  have HBAD := hide (fun k l h h' => @allG_bad ls k l h h')
  have HTK := hide (fun k l h => @allG_take ls k l h)
  have HTA : Hid (ls.take ls.length = ls) := hide List.take_length
  have HA := hide hA
  obtain ⟨n, hN⟩ : ∃ n, ls.length = n := ⟨_, rfl⟩
  have HN := hide hN
  rw [hN] at hn HTA ⊢
  clear hN hA hl
  go_enter Tryd.func53, Tryd.ntmps53
  go_wp2
  go_loop [8] (fun i => ∃ k : Nat, k ≤ n ∧ i = .int .i64 k ∧ Hid (allG (ls.take k) = true)) (fun i => n - (intOf i).toNat)
  case atStart => exact ⟨0, Nat.zero_le _, rfl, hide rfl⟩
  case round =>
    obtain ⟨k, hk, rfl, HG⟩ := hrel
    by_cases hlt : k < n
    · obtain ⟨b, o, rfl, hb, hxs⟩ := HA.out (by intro e; rw [e] at HN; have := HN.out; simp at this; omega)
      obtain ⟨l, hlk⟩ : ∃ l, ls[k]? = some l := ⟨ls[k]'(by rw [HN.out]; exact hlt), List.getElem?_eq_getElem _⟩
      have hc := hxs k l hlk
      have HC := hide (HCH.out l (List.mem_of_getElem? hlk))
      have HX := hide hlk
      have hi : (k : Int) < n := by omega
      have h0 : (0 : Int) ≤ k := by omega
      clear hxs hlk
      go_wp2_with fail
      refine HC.out.mono ?_
      rintro e w' ⟨⟨er, rfl, hk2, hor⟩, rfl⟩
      rcases hor with rfl | ⟨m, rfl⟩
      · have hg : gvB l.2.1 = true := by
          cases h : gvB l.2.1
          · rw [h] at hk2; simp [erK, gvK] at hk2
          · rfl
        have HG2 : Hid (allG (ls.take (k + 1)) = true) := hide (by rw [HTK.out k l HX.out, HG.out, hg]; rfl)
        clear hk2 hg
        show _
        change _ at HC
        simp only [erV]
        go_wp2
        exact ⟨⟨k + 1, by omega, by go_num, HG2⟩, by simp [intOf]; omega⟩
      · have hg : gvB l.2.1 = false := by
          cases h : gvB l.2.1
          · rfl
          · rw [h] at hk2; simp [erK, gvK] at hk2
        have HE := hide (HBAD.out k l HX.out hg)
        clear hk2 hg
        simp only [erV]
        go_wp2
        go_ret
        exact ⟨⟨.S m, rfl, by rw [HE.out]; rfl, .inr ⟨_, rfl⟩⟩, rfl⟩
    · obtain rfl : k = n := by omega
      have HG2 := HG
      rw [HTA.out] at HG2
      go_wp2
      go_ret
      exact ⟨⟨.none, rfl, by rw [HG2.out]; rfl, .inl rfl⟩, rfl⟩

def gaC (xs ys : List Int) : Int := if (gvB xs && gvB ys) = true then 0 else 1
def gaV (xs ys : List Int) : Int := if (gvB xs && gvB ys) = true then apV xs ys else 0
theorem ga_ok {xs ys : List Int} (h : gvB xs = true) (h' : gvB ys = true) : gaV xs ys = apV xs ys ∧ gaC xs ys = 0 := by
  have e : (gvB xs && gvB ys) = true := by rw [h, h']; rfl
  exact ⟨if_pos e, if_pos e⟩
theorem ga_no {xs ys : List Int} (h : (gvB xs && gvB ys) = false) : gaV xs ys = 0 ∧ gaC xs ys = 1 := ⟨if_neg (by rw [h]; decide), if_neg (by rw [h]; decide)⟩

theorem ersAt_new1 {w : World} {t : TypeId} (a : Er) : ErsAt (w.alloc (.cells #[erV a] t)) (w.alloc (.cells #[erV a] t)).heap.size (some ⟨w.heap.size, 0, none⟩) [a] := fun _ => by
  refine ⟨w.heap.size, 0, rfl, by simp, fun k x hx => ?_⟩
  have hr := rangeAt_new' w #[erV a] t
  match k with
  | 0 => obtain rfl : a = x := by simpa using hx
         exact hr 0 _ rfl
  | k + 1 => simp at hx

end Go.Proofs.YtjmkbdghenjlaaaDoor
