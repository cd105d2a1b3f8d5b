/- slices.Concat of pairs: a new list of one's own. -/
import Derived.Test.YtkbemhjeflmppaaLoosenS
import Derived.Shelf.Spec.SlicesGrow
import Derived.Laws.AppendOwnNone
namespace Go.Proofs
open Go.Shelf
shelf_lay_g Lays8.n4 Nm8 4 at Try 177 as Try.growP
end Go.Proofs
namespace Go.Proofs.Ytkbemhjeflmppaa
open Go Go.RowKit Go.Shelf

abbrev Sl := Option Addr × Nat × List Tri
/-- All pairs of some lists, one behind the other. -/
def catL (L : List Sl) : List Tri := L.flatMap (·.2.2)
theorem catL_take {L : List Sl} {k : Nat} {y : Sl} (h : L[k]? = some y) : catL (L.take (k + 1)) = catL (L.take k) ++ y.2.2 := by
  obtain ⟨hk, e⟩ := List.getElem?_eq_some_iff.1 h
  rw [List.take_succ_eq_append_getElem hk, e]; simp [catL]
theorem catL_le (L : List Sl) (k : Nat) : (catL (L.take k)).length ≤ (catL L).length := by
  have : catL L = catL (L.take k) ++ catL (L.drop k) := by unfold catL; rw [← List.flatMap_append, List.take_append_drop]
  rw [this, List.length_append]; omega

/-- Pairs that lie anywhere are put behind those of one's own. -/
theorem wpList_append_pairsN {w : World} {ops : Array Oper} {rest : List Oper} {o : Oper} {a : Act} {Q : Exit → Act → World → Prop} (hgd : o.guard = none) (s x : Operand)
    (ho : o.op = .call { callee := .builtin .append, args := #[s, x], argTypes := #[63, 63] })
    (base : Nat) (v : Value) (n : Nat) (xs : List Tri) (hs : a.eval s = v) (hown : w.ownsRow base 69 3 v n (flat xs)) (hbase : base ≤ w.heap.size)
    (A : Option Addr) (ps : List Tri) (c : Nat) (hx : a.eval x = .slice A ps.length c) (h0 : A = none → c = 0) (hn : n + ps.length ≤ 1048576) (hA : PairsAt w w.heap.size A ps)
    (h : ∀ v' w1, w1.ownsRow base 69 3 v' (n + ps.length) (flat (xs ++ ps)) → w.grownBy w1 v.ownBlock → wpList Try.prog ops Q rest (a.put o.dst v') w1) : wpList Try.prog ops Q (o :: rest) a w := by
  obtain ⟨i0, hi0, hz0, hz1, hz2⟩ := info_parts Try.infoPair2
  cases A with
  | none =>
    have hps : ps = [] := by
      cases ps with
      | nil => rfl
      | cons p r => obtain ⟨b, o, e, _⟩ := hA (by simp); cases e
    subst hps
    obtain rfl := h0 rfl
    refine wpList_append_own_none hgd s x 63 ho base 69 i0 3 Try.underlying63 hi0 v n _ hs hown hx ?_
    exact h v w (by simpa using hown) (grown_refl _ _)
  | some ad =>
    have hnews : ∀ j u, (flat ps)[j]? = some u → w.cell? (ad.add j) = some u := by
      by_cases hne : ps = []
      · subst hne; intro j u hu; simp [flat] at hu
      · obtain ⟨b, o', e, hb, hps⟩ := hA hne
        injection e with e
        subst e
        intro j u hu
        exact news_of hps j u hu
    refine wpList_append_own _ hgd s x 63 ho base 69 i0 _ 3 3 Try.underlying63 hi0 hz0 hz1 hz2 rfl (by decide) v n (flat xs) hs hown ad ps.length c (flat ps) hx (flat_len ps) hnews (flat_one ps) (by unfold maxLen; omega) (by omega) hbase ?_
    intro v' w1 hown1 hgrow _
    exact h v' w1 (by unfold flat at *; rw [List.flatMap_append]; exact hown1) hgrow

set_option maxRecDepth 100000 in
theorem growP_any (n : Nat) (w : World) (hn : n ≤ 1000) : Calls Try.prog 177 #[.slice none 0 0, .int .i64 n] w fun e w' => ∃ v, e = .returned v ∧ w'.ownsRow w.heap.size 69 3 v 0 [] ∧ Below w.heap.size w w' := by
  obtain ⟨i0, hi0, hz0, hz1, hz2⟩ := info_parts Try.infoPair2
  by_cases h0 : n = 0
  · subst h0
    refine (Any8.slices_Grow_room Try.growP none 0 0 0 w (by omega) (by omega) (by omega) (by omega)).mono ?_
    rintro e w' ⟨rfl, rfl⟩
    exact ⟨_, rfl, World.ownsRow_nil _ _ _ _, Below.refl _ _⟩
  · refine (Any8.slices_Grow_grow Try.growP i0 _ hi0 hz0 (by omega) none 0 0 n [] w (by omega) (by omega) (by rw [hz2]; omega) (by omega) (by simp) (fun _ => rfl) (fun a h => by cases h)).mono ?_
    rintro e w' ⟨rfl, rfl⟩
    refine ⟨_, rfl, ?_, ((Below.refl _ _).drew).alloc (Nat.le_refl _) _⟩
    have hge := grownCap_ge w (0 + n) 0 69
    have hle := grownCap_le_maxLen w (0 + n) 0 69 (by unfold maxLen; omega)
    exact World.ownsRow_made w.drew _ _ (Nat.le_refl _) hle (by
      simp only [Array.size_append, size_zeroCells, List.size_toArray, List.length_nil]
      show 0 + (0 + n - 0) * 3 + (grownCap w (0 + n) 0 69 - (0 + n)) * 3 = grownCap w (0 + n) 0 69 * 3
      omega)

set_option maxRecDepth 100000 in
set_option maxHeartbeats 8000000 in
theorem concatP_any (b o c : Nat) (L : List Sl) (w : World) (hL : L.length ≤ 100) (hs : (catL L).length ≤ 1000) (hb : b < w.heap.size)
    (hc : ∀ j y, L[j]? = some y → w.cell? ⟨b, o + j, none⟩ = some (.slice y.1 y.2.2.length y.2.1)) (hP : ∀ y ∈ L, PairsAt w w.heap.size y.1 y.2.2 ∧ (y.1 = none → y.2.1 = 0)) :
    Calls Try.prog 142 #[.slice (some ⟨b, o, none⟩) L.length c] w fun e w' => ∃ A' c', e = .returned (.slice A' (catL L).length c') ∧ (catL L).length ≤ c' ∧ PairsIn w' w.heap.size A' (catL L) ∧ Below w.heap.size w w' := by
  obtain ⟨n, hlen⟩ : ∃ n, n = L.length := ⟨_, rfl⟩
  rw [← hlen] at hL ⊢
  have HL := hide hlen
  have HC := hide hc
  have HP := hide hP
  have HLE := hide (catL_le L)
  clear hc hP hlen
  go_enter Try.func142, Try.ntmps142
  go_wp2
  go_loopw [3, 11] (fun sm i wr => ∃ k : Nat, k ≤ n ∧ i = .int .i64 k ∧ sm = .int .i64 ((catL (L.take k)).length : Int) ∧ wr = w)
    (fun _ i _ => n - (intOf i).toNat)
  case atStart => exact ⟨0, by omega, rfl, rfl, rfl⟩
  case round =>
    obtain ⟨k, hk, rfl, rfl, rfl⟩ := hrel
    by_cases hlt : k < n
    · obtain ⟨y, hy⟩ : ∃ y, L[k]? = some y := ⟨L[k]'(by rw [← HL.out]; exact hlt), List.getElem?_eq_getElem _⟩
      have HT := hide (catL_take hy)
      have hcell := HC.out k y hy
      have hi : (k : Int) < n := by omega
      have h0 : (0 : Int) ≤ k := by omega
      have l1 := HLE.out (k + 1)
      rw [HT.out, List.length_append] at l1
      have e1 := IntWalk.i64_in (((catL (L.take k)).length : Int) + y.2.2.length) ⟨by omega, by omega⟩
      have hng : ¬ (((catL (L.take k)).length : Int) + y.2.2.length < 0) := by omega
      have HY := hide hy
      clear hy
      obtain ⟨A, cy, ps⟩ := y
      go_wp2
      exact ⟨⟨k + 1, by omega, by go_num, by rw [HT.out, List.length_append]; simp, trivial⟩, by simp [intOf]; omega⟩
    · obtain rfl : k = n := by omega
      obtain ⟨W0, hW0⟩ : ∃ W, W = wr := ⟨_, rfl⟩
      subst hW0
      have htk : L.take k = L := by rw [HL.out, List.take_length]
      rw [htk]
      have HG := hide (growP_any (catL L).length W0 hs)
      clear htk
      go_wp2_with fail
      refine HG.out.mono ?_
      rintro e w1 ⟨v, rfl, hown, hb1⟩
      go_wp2
      go_loopw [6, 27] (fun nl i w2 => ∃ j : Nat, j ≤ k ∧ i = .int .i64 j ∧ w2.ownsRow W0.heap.size 69 3 nl (catL (L.take j)).length (flat (catL (L.take j))) ∧ Below W0.heap.size W0 w2)
        (fun _ i _ => k - (intOf i).toNat)
      case atStart => exact ⟨0, by omega, rfl, hown, hb1⟩
      case round =>
        clear hown hb1
        obtain ⟨j, hj, rfl, hown, hB⟩ := hrel
        by_cases hlt : j < k
        · obtain ⟨y, hy⟩ : ∃ y, L[j]? = some y := ⟨L[j]'(by rw [← HL.out]; exact hlt), List.getElem?_eq_getElem _⟩
          have HT := hide (catL_take hy)
          obtain ⟨hPA, hPc⟩ := HP.out y (List.mem_of_getElem? hy)
          have l1 := HLE.out (j + 1)
          rw [HT.out, List.length_append] at l1
          have hi : (j : Int) < k := by omega
          have h0 : (0 : Int) ≤ j := by omega
          have HCE := HC.out j y hy
          clear hy
          obtain ⟨A, cy, ps⟩ := y
          have hcell := (hB.cell (p := ⟨b, o + j, none⟩) hb).trans HCE
          have hPB := (hPA.below hB).mono hB.size
          simp only at hPc hcell hPB l1
          clear HCE hPA
          go_wp2_with (at_builtin; refine wpList_append_pairsN rfl (.tmp 31) (.tmp 32) rfl W0.heap.size _ _ _ rfl hown hB.size A ps cy rfl hPc (by omega) hPB ?_)
          intro v' w3 hown3 hg3
          have hB3 := hB.trans (grown_toBelow hg3 hB.size (fun q hq => (hown.lt q hq).1))
          have hown4 : w3.ownsRow W0.heap.size 69 3 v' (catL (L.take (j + 1))).length (flat (catL (L.take (j + 1)))) := by
            rw [HT.out, List.length_append]; exact hown3
          clear hown hown3 hg3 hcell hPB
          go_wp2
          exact ⟨⟨j + 1, by omega, by go_num, hown4, hB3⟩, by simp [intOf]; omega⟩
        · obtain rfl : j = k := by omega
          have htk : L.take j = L := by rw [HL.out, List.take_length]
          rw [htk] at hown
          obtain ⟨A', c', rfl, hc', hP'⟩ := pairsIn_of_own hown rfl hB.size
          clear hown
          go_wp2
          go_ret
          exact ⟨A', c', rfl, hc', hP', hB⟩
end Go.Proofs.Ytkbemhjeflmppaa
