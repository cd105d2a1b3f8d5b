/- The nearest hand, of the program. -/
import Derived.Test.YtjmkbdghenjlaaaDoorHnP
import Derived.Test.YtjmkbdghenjlaaaDoorTk
import Derived.Test.YtjmkbdghenjlaaaDoorFlat
namespace Go.Proofs.YtjmkbdghenjlaaaDoor
open Go Go.RowKit

theorem nh_code {ls : List Iss} {gs : List Int} {a b : Er} (ha : erK a = gvK (allG ls)) (hb : erK b = gvK (gvB gs)) :
    (erC [a, b, mnE (ls.length : Int)] = 0 ∧ allG ls = true ∧ gvB gs = true ∧ ¬ 8 < ls.length) ∨ (erC [a, b, mnE (ls.length : Int)] ≠ 0 ∧ nhR (issD ls) gs = (0, 0, erC [a, b, mnE (ls.length : Int)])) := by
  simp only [erC, ha, hb]
  cases h1 : allG ls
  · right
    rw [allG_iss] at h1
    exact ⟨by simp [gvK], by rw [nh_h h1]; simp [gvK]⟩
  · cases h2 : gvB gs
    · right
      exact ⟨by simp [gvK], by rw [nh_g h2]; simp [gvK]⟩
    · rw [allG_iss] at h1
      by_cases h3 : 8 < ls.length
      · right
        have h4 : (8 : Int) < ls.length := by omega
        have e : mnE (ls.length : Int) = .M ls.length := if_pos h4
        rw [e]
        exact ⟨by simp [gvK, erK], by rw [nh_l h2 h1 (by rw [issD_len]; exact h3)]; simp [gvK, erK]⟩
      · left
        have h4 : ¬ (8 : Int) < ls.length := by omega
        have e : mnE (ls.length : Int) = .none := if_neg h4
        rw [e]
        exact ⟨by simp [gvK, erK], rfl, rfl, h3⟩

theorem ersAt_new3 {w : World} {t : TypeId} (a b c : Er) : ErsAt (w.alloc (.cells #[erV a, erV b, erV c] t)) (w.alloc (.cells #[erV a, erV b, erV c] t)).heap.size (some ⟨w.heap.size, 0, none⟩) [a, b, c] := fun _ => by
  refine ⟨w.heap.size, 0, rfl, by simp, fun k x hx => ?_⟩
  have hr := rangeAt_new' w #[erV a, erV b, erV c] t
  match k with
  | 0 => obtain rfl : a = x := by simpa using hx
         exact hr 0 _ rfl
  | 1 => obtain rfl : b = x := by simpa using hx
         exact hr 1 _ rfl
  | 2 => obtain rfl : c = x := by simpa using hx
         exact hr 2 _ rfl
  | k + 3 => simp at hx
theorem issAt_new1 {w : World} {t : TypeId} (B : Option Addr) (gs : List Int) (d : Nat) : IssAt (w.alloc (.cells #[.slice B gs.length d] t)) (w.alloc (.cells #[.slice B gs.length d] t)).heap.size (some ⟨w.heap.size, 0, none⟩) [(B, gs, d)] := fun _ => by
  refine ⟨w.heap.size, 0, rfl, by simp, fun k x hx => ?_⟩
  have hr := rangeAt_new' w #[.slice B gs.length d] t
  match k with
  | 0 => obtain rfl : (B, gs, d) = x := by simpa using hx
         exact hr 0 _ rfl
  | k + 1 => simp at hx

/-! hands: a list, and its index -/
def hdc (p : Iss × Nat) : List Value := [.slice p.1.1 p.1.2.1.length p.1.2.2, .int .i64 (p.2 : Int)]
def hdz (ls : List Iss) (k : Nat) : List (Iss × Nat) := (List.range k).map (fun j => (ls.getD j (none, [], 0), j))
theorem hdz_len (ls : List Iss) (k : Nat) : (hdz ls k).length = k := by simp [hdz]
theorem hdz_succ {ls : List Iss} {k : Nat} {l : Iss} (h : ls[k]? = some l) : hdz ls (k + 1) = hdz ls k ++ [(l, k)] := by
  unfold hdz
  rw [List.range_succ, List.map_append]
  simp only [List.map_cons, List.map_nil]
  rw [List.getD_eq_getElem?_getD, h]; rfl
theorem hdz_get {ls : List Iss} {k : Nat} {l : Iss} (h : ls[k]? = some l) : (hdz ls ls.length)[k]? = some (l, k) := by
  have hk := (List.getElem?_eq_some_iff.1 h).1
  unfold hdz
  rw [List.getElem?_map, List.getElem?_range hk]
  simp only [Option.map_some]
  rw [List.getD_eq_getElem?_getD, h]; rfl
def HdsAt (w : World) (B : Nat) (A : Option Addr) (ls : List Iss) : Prop := RowsAt 2 hdc w B A (hdz ls ls.length)
theorem Tryd.infoHand : (Tryd.prog.info? 96).map (fun i => (i.zero, i.size, i.bytes)) = some (some (.agg #[.slice none 0 0, .int .i64 0]), 2, 32) := by kernel_rfl

set_option maxRecDepth 100000 in
set_option maxHeartbeats 8000000 in
theorem handsOf_any (A : Option Addr) (ls : List Iss) (c : Nat) (w : World) (hn : ls.length ≤ 8) (hA : IssAt w w.heap.size A ls) :
    Calls Tryd.prog 54 #[.slice A ls.length c] w fun e w' => ∃ A' c', e = .returned (.slice A' ls.length c') ∧ HdsAt w' w'.heap.size A' ls ∧ Below w.heap.size w w' := by
  obtain ⟨i0, hi0, hz0, hz1, hz2⟩ := info_parts Tryd.infoHand
  have HNX := hide (fun k l (h : ls[k]? = some l) => hdz_succ h)
  have HA := hide hA
  have HLN := hide (hdz_len ls)
  obtain ⟨n, hN⟩ : ∃ n, ls.length = n := ⟨_, rfl⟩
  have HN := hide hN
  rw [hN] at hn ⊢
  clear hN hA
  go_enter Tryd.func54, Tryd.ntmps54
  go_wp2
  go_loopw [3, 8] (fun br i wr => ∃ k : Nat, k ≤ n ∧ i = .int .i64 k ∧ wr.ownsRow w.heap.size 96 2 br k ((hdz ls k).flatMap hdc) ∧ Below w.heap.size w wr)
    (fun _ i _ => n - (intOf i).toNat)
  case atStart => exact ⟨0, by omega, rfl, World.ownsRow_nil _ _ _ _, Below.refl _ _⟩
  case round =>
    obtain ⟨k, hk, rfl, hown, hB⟩ := hrel
    obtain ⟨Ab, cbb, rfl, hcap, _⟩ := cellsIn_of_own hown (by omega)
    have HOWN := hide hown
    clear hown
    have hbs := hB.size
    by_cases hlt : k < n
    · obtain ⟨b, o, rfl, hb, hxs⟩ := HA.out (by intro e; rw [e] at HN; have := HN.out; simp at this; omega)
      obtain ⟨l, hlk⟩ : ∃ l, ls[k]? = some l := ⟨ls[k]'(by rw [HN.out]; exact hlt), List.getElem?_eq_getElem _⟩
      obtain ⟨lA, lx, lc⟩ := l
      have c0 : wr.cell? ⟨b, o + k, none⟩ = some (.slice lA lx.length lc) := (hB.cell (p := ⟨b, o + k, none⟩) hb).trans (hxs k _ hlk)
      have HPS := hide (HNX.out k _ hlk)
      have hi : (k : Int) < n := by omega
      have h0 : (0 : Int) ≤ k := by omega
      clear hxs hlk
      go_wp2_with (at_builtin; refine wpList_append_own _ rfl (.tmp 13) (.tmp 17) 92 rfl w.heap.size 96 i0 (.agg #[.slice none 0 0, .int .i64 0]) 2 32 Tryd.underlying92 hi0 hz0 hz1 hz2 rfl (by decide) _ k _ rfl (HOWN.out.alloc _) ⟨wr.heap.size, 0, none⟩ 1 1 [.slice lA lx.length lc, .int .i64 (k : Int)] rfl rfl (two_cell _ _) (two_one rfl rfl) ?h1 ?h2 ?h3 ?_)
      case h1 => unfold maxLen; omega
      case h2 => omega
      case h3 => first | omega | (simp; omega) | simp
      intro v' w4 hown4 hg4 _
      obtain ⟨A4, c4, rfl, _, _⟩ := cellsIn_of_own hown4 (by omega)
      have H4 := hide hown4
      have hg34 : wr.grownBy w4 _ := grown_trans (World.grownBy_alloc wr _ _) hg4
      have hB4 := hB.trans (grown_toBelow hg34 (by omega) (fun k hk => (HOWN.out.lt k hk).1))
      clear hown4 hg4 hg34
      go_wp2
      refine ⟨⟨k + 1, by omega, by go_num, ?_, hB4⟩, by simp [intOf]; omega⟩
      rw [HPS.out, List.flatMap_append]
      exact H4.out
    · obtain rfl : k = n := by omega
      obtain ⟨Ag, cg, e, _, hI⟩ := rowsIn_of_own (c := hdc) (z := 2) (fun a => rfl) (by omega) HOWN.out (HLN.out k).symm
      injection e with e1 e2 e3
      subst e1 e3
      have HI := hide (show HdsAt wr wr.heap.size Ab ls from by unfold HdsAt; rw [HN.out]; exact hI.at_)
      clear hI
      go_wp2
      go_ret
      exact ⟨Ab, ⟨cbb, rfl⟩, HI.out, hB⟩
end Go.Proofs.YtjmkbdghenjlaaaDoor
