/- slices.Concat of numbers of 16 bits: a new list of one's own. -/
import Derived.Test.YtjmkbdghenjlaaaDoorPtC
import Derived.Shelf.Spec.SlicesGrow
import Derived.Laws.AppendOwnNone
namespace Go.Proofs
open Go.Shelf
shelf_lay_g Lays8.n4 Nm8 4 at Tryd 102 as Tryd.growH
end Go.Proofs
namespace Go.Proofs.YtjmkbdghenjlaaaDoor
open Go Go.RowKit Go.Shelf

theorem Tryd.infoI16 : (Tryd.prog.info? 52).map (fun i => (i.zero, i.size, i.bytes)) = some (some (.int .i16 0), 1, 2) := by kernel_rfl
def HsAt (w : World) (B : Nat) (A : Option Addr) (xs : List Int) : Prop := xs ≠ [] → ∃ b o, A = some ⟨b, o, none⟩ ∧ b < B ∧ ∀ (k : Nat) (x : Int), xs[k]? = some x → w.cell? ⟨b, o + k, none⟩ = some (.int .i16 x)
theorem HsAt.below {w w' : World} {B : Nat} {A : Option Addr} {xs : List Int} (h : HsAt w B A xs) (hb : Below B w w') : HsAt w' B A xs := fun hn => by
  obtain ⟨b, o, e, h1, h2⟩ := h hn
  exact ⟨b, o, e, h1, fun k x hx => (hb.cell (p := ⟨b, o + k, none⟩) h1).trans (h2 k x hx)⟩
theorem HsAt.mono {w : World} {B B' : Nat} {A : Option Addr} {xs : List Int} (h : HsAt w B A xs) (hB : B ≤ B') : HsAt w B' A xs := fun hn => by
  obtain ⟨b, o, e, h1, h2⟩ := h hn
  exact ⟨b, o, e, Nat.lt_of_lt_of_le h1 hB, h2⟩
theorem pw_oneC (xs : List Int) : ∀ u ∈ pw xs, u.oneCell' = true := by
  intro u hu
  unfold pw at hu
  obtain ⟨x, _, rfl⟩ := List.mem_map.1 hu
  rfl
abbrev Slh := Option Addr × Nat × List Int
def catH (L : List Slh) : List Int := L.flatMap (·.2.2)
theorem catH_take {L : List Slh} {k : Nat} {y : Slh} (h : L[k]? = some y) : catH (L.take (k + 1)) = catH (L.take k) ++ y.2.2 := by
  obtain ⟨hk, e⟩ := List.getElem?_eq_some_iff.1 h
  rw [List.take_succ_eq_append_getElem hk, e]; simp [catH]
theorem catH_le (L : List Slh) (k : Nat) : (catH (L.take k)).length ≤ (catH L).length := by
  have : catH L = catH (L.take k) ++ catH (L.drop k) := by unfold catH; rw [← List.flatMap_append, List.take_append_drop]
  rw [this, List.length_append]; omega

theorem wpList_append_hs {w : World} {ops : Array Oper} {rest : List Oper} {o : Oper} {a : Act} {Q : Exit → Act → World → Prop} (hgd : o.guard = none) (s x : Operand)
    (ho : o.op = .call { callee := .builtin .append, args := #[s, x], argTypes := #[108, 108] })
    (base : Nat) (v : Value) (n : Nat) (xs : List Int) (hs : a.eval s = v) (hown : w.ownsRow base 52 1 v n (pw xs)) (hbase : base ≤ w.heap.size)
    (A : Option Addr) (ps : List Int) (c : Nat) (hx : a.eval x = .slice A ps.length c) (h0 : A = none → c = 0) (hn : n + ps.length ≤ 1048576) (hA : HsAt w w.heap.size A ps)
    (h : ∀ v' w1, w1.ownsRow base 52 1 v' (n + ps.length) (pw (xs ++ ps)) → w.grownBy w1 v.ownBlock → wpList Tryd.prog ops Q rest (a.put o.dst v') w1) : wpList Tryd.prog ops Q (o :: rest) a w := by
  obtain ⟨i0, hi0, hz0, hz1, hz2⟩ := info_parts Tryd.infoI16
  cases A with
  | none =>
    have hps : ps = [] := by
      cases ps with
      | nil => rfl
      | cons p r => obtain ⟨b, o, e, _⟩ := hA (by simp); cases e
    subst hps
    obtain rfl := h0 rfl
    refine wpList_append_own_none hgd s x 108 ho base 52 i0 1 Tryd.underlying108 hi0 v n _ hs hown hx ?_
    exact h v w (by simpa using hown) (grown_refl _ _)
  | some ad =>
    have hnews : ∀ j u, (pw ps)[j]? = some u → w.cell? (ad.add j) = some u := by
      by_cases hne : ps = []
      · subst hne; intro j u hu; simp [pw] at hu
      · obtain ⟨b, o', e, hb, hps⟩ := hA hne
        injection e with e
        subst e
        intro j u hu
        unfold pw at hu
        rw [List.getElem?_map] at hu
        obtain ⟨x, hx, rfl⟩ := Option.map_eq_some_iff.1 hu
        rw [addr_add]
        exact hps j x hx
    refine wpList_append_own _ hgd s x 108 ho base 52 i0 _ 1 2 Tryd.underlying108 hi0 hz0 hz1 hz2 rfl (by decide) v n (pw xs) hs hown ad ps.length c (pw ps) hx (by rw [pw_length, Nat.mul_one]) hnews (pw_oneC ps) (by unfold maxLen; omega) (by omega) hbase ?_
    intro v' w1 hown1 hgrow _
    exact h v' w1 (by rw [pw_append]; exact hown1) hgrow

set_option maxRecDepth 100000 in
theorem growH_any (n : Nat) (w : World) (hn : n ≤ 1000) : Calls Tryd.prog 102 #[.slice none 0 0, .int .i64 n] w fun e w' => ∃ v, e = .returned v ∧ w'.ownsRow w.heap.size 52 1 v 0 [] ∧ Below w.heap.size w w' := by
  obtain ⟨i0, hi0, hz0, hz1, hz2⟩ := info_parts Tryd.infoI16
  by_cases h0 : n = 0
  · subst h0
    refine (Any8.slices_Grow_room Tryd.growH none 0 0 0 w (by omega) (by omega) (by omega) (by omega)).mono ?_
    rintro e w' ⟨rfl, rfl⟩
    exact ⟨_, rfl, World.ownsRow_nil _ _ _ _, Below.refl _ _⟩
  · refine (Any8.slices_Grow_grow Tryd.growH i0 _ hi0 hz0 (by omega) none 0 0 n [] w (by omega) (by omega) (by rw [hz2]; omega) (by omega) (by simp) (fun _ => rfl) (fun a h => by cases h)).mono ?_
    rintro e w' ⟨rfl, rfl⟩
    refine ⟨_, rfl, ?_, ((Below.refl _ _).drew).alloc (Nat.le_refl _) _⟩
    have hge := grownCap_ge w (0 + n) 0 52
    have hle := grownCap_le_maxLen w (0 + n) 0 52 (by unfold maxLen; omega)
    exact World.ownsRow_made w.drew _ _ (Nat.le_refl _) hle (by
      simp only [Array.size_append, size_zeroCells, List.size_toArray, List.length_nil]
      show 0 + (0 + n - 0) * 1 + (grownCap w (0 + n) 0 52 - (0 + n)) * 1 = grownCap w (0 + n) 0 52 * 1
      omega)

set_option maxRecDepth 100000 in
set_option maxHeartbeats 8000000 in
theorem concatH_any (b o c : Nat) (L : List Slh) (w : World) (hL : L.length ≤ 100) (hs : (catH L).length ≤ 1000) (hb : b < w.heap.size)
    (hc : ∀ j y, L[j]? = some y → w.cell? ⟨b, o + j, none⟩ = some (.slice y.1 y.2.2.length y.2.1)) (hP : ∀ y ∈ L, HsAt w w.heap.size y.1 y.2.2 ∧ (y.1 = none → y.2.1 = 0)) :
    Calls Tryd.prog 62 #[.slice (some ⟨b, o, none⟩) L.length c] w fun e w' => ∃ A' c', e = .returned (.slice A' (catH L).length c') ∧ (catH L).length ≤ c' ∧ CellsIn w' w.heap.size A' (pw (catH L)) ∧ Below w.heap.size w w' := by
  obtain ⟨n, hlen⟩ : ∃ n, n = L.length := ⟨_, rfl⟩
  rw [← hlen] at hL ⊢
  have HL := hide hlen
  have HC := hide hc
  have HP := hide hP
  have HLE := hide (catH_le L)
  clear hc hP hlen
  go_enter Tryd.func62, Tryd.ntmps62
  go_wp2
  go_loopw [3, 11] (fun sm i wr => ∃ k : Nat, k ≤ n ∧ i = .int .i64 k ∧ sm = .int .i64 ((catH (L.take k)).length : Int) ∧ wr = w)
    (fun _ i _ => n - (intOf i).toNat)
  case atStart => exact ⟨0, by omega, rfl, rfl, rfl⟩
  case round =>
    obtain ⟨k, hk, rfl, rfl, rfl⟩ := hrel
    by_cases hlt : k < n
    · obtain ⟨y, hy⟩ : ∃ y, L[k]? = some y := ⟨L[k]'(by rw [← HL.out]; exact hlt), List.getElem?_eq_getElem _⟩
      have HT := hide (catH_take hy)
      have hcell := HC.out k y hy
      have hi : (k : Int) < n := by omega
      have h0 : (0 : Int) ≤ k := by omega
      have l1 := HLE.out (k + 1)
      rw [HT.out, List.length_append] at l1
      have e1 := IntWalk.i64_in (((catH (L.take k)).length : Int) + y.2.2.length) ⟨by omega, by omega⟩
      have hng : ¬ (((catH (L.take k)).length : Int) + y.2.2.length < 0) := by omega
      have HY := hide hy
      clear hy
      obtain ⟨A, cy, ps⟩ := y
      go_wp2
      exact ⟨⟨k + 1, by omega, by go_num, by rw [HT.out, List.length_append]; simp, trivial⟩, by simp [intOf]; omega⟩
    · obtain rfl : k = n := by omega
      obtain ⟨W0, hW0⟩ : ∃ W, W = wr := ⟨_, rfl⟩
      subst hW0
      have htk : L.take k = L := by rw [HL.out, List.take_length]
      rw [htk]
      have HG := hide (growH_any (catH L).length W0 hs)
      clear htk
      go_wp2_with fail
      refine HG.out.mono ?_
      rintro e w1 ⟨v, rfl, hown, hb1⟩
      go_wp2
      go_loopw [6, 27] (fun nl i w2 => ∃ j : Nat, j ≤ k ∧ i = .int .i64 j ∧ w2.ownsRow W0.heap.size 52 1 nl (catH (L.take j)).length (pw (catH (L.take j))) ∧ Below W0.heap.size W0 w2)
        (fun _ i _ => k - (intOf i).toNat)
      case atStart => exact ⟨0, by omega, rfl, hown, hb1⟩
      case round =>
        clear hown hb1
        obtain ⟨j, hj, rfl, hown, hB⟩ := hrel
        by_cases hlt : j < k
        · obtain ⟨y, hy⟩ : ∃ y, L[j]? = some y := ⟨L[j]'(by rw [← HL.out]; exact hlt), List.getElem?_eq_getElem _⟩
          have HT := hide (catH_take hy)
          obtain ⟨hPA, hPc⟩ := HP.out y (List.mem_of_getElem? hy)
          have l1 := HLE.out (j + 1)
          rw [HT.out, List.length_append] at l1
          have hi : (j : Int) < k := by omega
          have h0 : (0 : Int) ≤ j := by omega
          have HCE := HC.out j y hy
          clear hy
          obtain ⟨A, cy, ps⟩ := y
          have hcell := (hB.cell (p := ⟨b, o + j, none⟩) hb).trans HCE
          have hPB := (hPA.below hB).mono hB.size
          simp only at hPc hcell hPB l1
          clear HCE hPA
          go_wp2_with (at_builtin; refine wpList_append_hs rfl (.tmp 31) (.tmp 32) rfl W0.heap.size _ _ _ rfl hown hB.size A ps cy rfl hPc (by omega) hPB ?_)
          intro v' w3 hown3 hg3
          have hB3 := hB.trans (grown_toBelow hg3 hB.size (fun q hq => (hown.lt q hq).1))
          have hown4 : w3.ownsRow W0.heap.size 52 1 v' (catH (L.take (j + 1))).length (pw (catH (L.take (j + 1)))) := by
            rw [HT.out, List.length_append]; exact hown3
          clear hown hown3 hg3 hcell hPB
          go_wp2
          exact ⟨⟨j + 1, by omega, by go_num, hown4, hB3⟩, by simp [intOf]; omega⟩
        · obtain rfl : j = k := by omega
          have htk : L.take j = L := by rw [HL.out, List.take_length]
          rw [htk] at hown
          obtain ⟨A', c', rfl, hc', hP'⟩ := cellsIn_of_own hown (by omega)
          clear hown
          go_wp2
          go_ret
          exact ⟨A', c', rfl, hc', hP', hB⟩
end Go.Proofs.YtjmkbdghenjlaaaDoor
