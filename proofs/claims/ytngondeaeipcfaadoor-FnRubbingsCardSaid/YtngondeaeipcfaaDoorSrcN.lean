/- The source of draws of the laws: what it reads, and that each draw lies within its bounds. · A draw of the next byte, and of a number below a bound. -/
import Derived.Test.YtngondeaeipcfaaDoorG2
import Derived.Test.YtngondeaeipcfaaDoorRbP
import Derived.StillTailTactics
import Derived.Laws.Bits64b

namespace Go.Proofs.YtngondeaeipcfaaDoor
open Go Go.RowKit

/-- Bytes lie at A, in a block below B. -/
def U8At (w : World) (B : Nat) (A : Option Addr) (xs : List Int) : Prop := CellsAt w B A (xs.map (.int .u8))
def u8s (xs : List Int) : Prop := ∀ x ∈ xs, 0 ≤ x ∧ x ≤ 255
/-- A source lies in block b: its bytes lie below B, and it has made at most k draws. -/
def SrcAt (w : World) (B b k : Nat) : Prop := ∃ (A : Option Addr) (xs : List Int) (c at_ : Nat) (seed : Int), w.rangeAt b 0 [.slice A xs.length c, .int .i64 at_, .int .u64 seed] ∧ w.there b 0 3 ∧
  at_ ≤ k ∧ (0 ≤ seed ∧ seed < 18446744073709551616) ∧ xs.length ≤ 3000 ∧ u8s xs ∧ U8At w B A xs ∧ B ≤ b ∧ b < w.heap.size
theorem SrcAt.more {w : World} {B b k k' : Nat} (h : SrcAt w B b k) (hk : k ≤ k') : SrcAt w B b k' := by
  obtain ⟨A, xs, c, a, s, h1, h2, h3, h4⟩ := h
  exact ⟨A, xs, c, a, s, h1, h2, by omega, h4⟩
theorem SrcAt.below {w w' : World} {B b k L : Nat} (h : SrcAt w B b k) (hb : Below L w w') (hL : b < L) : SrcAt w' B b k := by
  obtain ⟨A, xs, c, a, s, h1, h2, h3, h4, h5, h6, h7, h8, h9⟩ := h
  refine ⟨A, xs, c, a, s, rangeAt_below h1 hb hL, there_below h2 hb hL, h3, h4, h5, h6, CellsAt.below h7 (hb.mono (by omega)), h8, by have := hb.size; omega⟩
theorem SrcAt.lt {w : World} {B b k : Nat} (h : SrcAt w B b k) : b < w.heap.size := by
  obtain ⟨A, xs, c, a, s, h1, h2, h3, h4, h5, h6, h7, h8, h9⟩ := h
  exact h9
/-- What a draw does to the world. -/
def Drew (B b k : Nat) (w w' : World) : Prop := SrcAt w' B b k ∧ w.grownBy w' (some b)
/-- A number comes back for which p holds. -/
def DrawI (B b k : Nat) (p : Int → Prop) (w : World) : Ending → World → Prop := fun e w' => ∃ v, e = .returned (.int .i64 v) ∧ p v ∧ Drew B b k w w'
theorem Drew.go {B b k k' : Nat} {w w1 w2 : World} (h : Drew B b k w w1) (h2 : Drew B b k' w1 w2) : Drew B b k' w w2 := ⟨h2.1, grown_trans h.2 h2.2⟩
theorem u64_in (n : Int) : 0 ≤ IntKind.u64.wrap n ∧ IntKind.u64.wrap n < 18446744073709551616 := by
  rw [IntKind.wrap_u64]; omega
end Go.Proofs.YtngondeaeipcfaaDoor

namespace Go.Proofs.YtngondeaeipcfaaDoor
open Go Go.RowKit

/-- What the source is behind a draw. -/
theorem and255 {s : Int} (h0 : 0 ≤ s) (h1 : s < 18446744073709551616) : 0 ≤ wrap64 (bits .and .u64 s 255) ∧ wrap64 (bits .and .u64 s 255) ≤ 255 := by
  obtain ⟨n, rfl⟩ : ∃ n : Nat, s = (n : Int) := ⟨s.toNat, by omega⟩
  have h := bits_and_u64_nat n 255 (by omega) (by decide)
  have hle : n &&& 255 ≤ 255 := Nat.and_le_right
  rw [show bits .and .u64 (n : Int) 255 = ((n &&& 255 : Nat) : Int) from h]
  simp only [wrap64]
  omega
theorem src_drew {w : World} {B b k : Nat} {A : Option Addr} {xs : List Int} {c a : Nat} {seed : Int} (hr : w.rangeAt b 0 [.slice A xs.length c, .int .i64 a, .int .u64 seed]) (ht : w.there b 0 3) (hak : a ≤ k)
    (hxn : xs.length ≤ 3000) (hx8 : u8s xs) (hA : U8At w B A xs) (hBb : B ≤ b) (hbl : b < w.heap.size) (n m : Nat) (s : Int) (hs : 0 ≤ s ∧ s < 18446744073709551616) (v : Value) (hv : v = .int .i64 ((a : Int) + 1)) :
    Drew B b (k + 1) w ((((w.drewN n).setCell ⟨b, 1, none⟩ v).setCell ⟨b, 2, none⟩ (.int .u64 s)).drewN m) := by
  subst hv
  have hbw : Below w.heap.size w (w.drewN n) := below_drewN (Below.refl _ _) n
  have hg : w.grownBy (((w.drewN n).setCell ⟨b, 1, none⟩ (.int .i64 ((a : Int) + 1))).setCell ⟨b, 2, none⟩ (.int .u64 s)) (some b) := grown_set (grown_set (grown_below hbw) 1 _) 2 _
  have hg2 : w.grownBy ((((w.drewN n).setCell ⟨b, 1, none⟩ (.int .i64 ((a : Int) + 1))).setCell ⟨b, 2, none⟩ (.int .u64 s)).drewN m) (some b) := grown_trans hg (grown_below (below_drewN (Below.refl _ _) m))
  refine ⟨⟨A, xs, c, a + 1, s, ?_, ?_, by omega, hs, hxn, hx8, CellsAt.below hA (grown_toBelow hg2 (by omega) (fun k hk => by injection hk with hk; omega)), hBb, Nat.lt_of_lt_of_le hbl hg2.size⟩, hg2⟩
  · have h1 : (w.drewN n).rangeAt b 0 [.slice A xs.length c, .int .i64 a, .int .u64 seed] := hr
    have h2 := rangeAt_set h1 1 (.int .i64 ((a : Int) + 1)) (by simp)
    have h3 := rangeAt_set h2 2 (.int .u64 s) (by simp)
    exact h3
  · exact there_set (there_set (show (w.drewN n).there b 0 3 from ht) _ _) _ _

set_option maxRecDepth 100000 in
set_option maxHeartbeats 8000000 in
theorem next_any (B b k : Nat) (w : World) (h : SrcAt w B b k) (hk : k < 1000000) :
    Calls Tryd.prog 176 #[.pointer (some ⟨b, 0, none⟩)] w (DrawI B b (k + 1) (fun v => 0 ≤ v ∧ v ≤ 255) w) := by
  obtain ⟨A, xs, c, a, seed, hr, ht, hak, hs, hxn, hx8, hA, hBb, hbl⟩ := h
  have HD := hide (fun n m s hs v hv => src_drew hr ht hak hxn hx8 hA hBb hbl n m s hs v hv)
  have c0 : w.cell? ⟨b, 0, none⟩ = some (.slice A xs.length c) := by simpa using hr 0 _ rfl
  have c1 : w.cell? ⟨b, 1, none⟩ = some (.int .i64 a) := by simpa using hr 1 _ rfl
  have c2 : w.cell? ⟨b, 2, none⟩ = some (.int .u64 seed) := by simpa using hr 2 _ rfl
  have f1 : w.frozen? ⟨b, 1, none⟩ = false := by simpa using (ht 1 (by omega)).2
  have f2 : w.frozen? ⟨b, 2, none⟩ = false := by simpa using (ht 2 (by omega)).2
  have hw1 := IntWalk.i64_in ((a : Int) + 1) ⟨by omega, by omega⟩
  have h0 : (0 : Int) ≤ a := by omega
  have HK1 := hide (fun (n : Nat) v s => show ((((w.drewN n).setCell ⟨b, 1, none⟩ v).setCell ⟨b, 2, none⟩ s)).cell? ⟨b, 1, none⟩ = some v from by
    rw [World.cell?_setCell_other _ _ _ _ (by simp)]
    exact World.cell?_setCell_same' _ _ _ (by show (w.cell? _).isSome = true; rw [c1]; rfl))
  have HK0 := hide (fun (n : Nat) v s => show ((((w.drewN n).setCell ⟨b, 1, none⟩ v).setCell ⟨b, 2, none⟩ s)).cell? ⟨b, 0, none⟩ = some (.slice A xs.length c) from by
    rw [World.cell?_setCell_other _ _ _ _ (by simp), World.cell?_setCell_other _ _ _ _ (by simp)]; exact c0)
  have HK2 := hide (fun (n : Nat) v s => show ((((w.drewN n).setCell ⟨b, 1, none⟩ v).setCell ⟨b, 2, none⟩ s)).cell? ⟨b, 2, none⟩ = some s from by
    exact World.cell?_setCell_same' _ _ _ (by rw [World.cell?_setCell_other _ _ _ _ (by simp)]; show (w.cell? ⟨b, 2, none⟩).isSome = true; rw [c2]; rfl))
  by_cases hlt : a < xs.length
  · have hi : (a : Int) < xs.length := by omega
    obtain ⟨x, hx⟩ : ∃ x, xs[a]? = some x := ⟨xs[a], List.getElem?_eq_getElem hlt⟩
    obtain ⟨ba, oa, rfl, hba, hcs⟩ := hA (by intro e; rw [List.map_eq_nil_iff] at e; rw [e] at hlt; simp at hlt)
    have cx : w.cell? ⟨ba, oa + a, none⟩ = some (.int .u8 x) := hcs a _ (by rw [List.getElem?_map, hx]; rfl)
    have hxb := hx8 x (List.mem_of_getElem? hx)
    have hle : (a : Int) + 1 ≤ xs.length := by omega
    clear hx hcs hA hr ht
    go_enter Tryd.func176, Tryd.ntmps176
    go_wp2
    go_quiet (fail)
    obtain ⟨n1, hn1⟩ : ∃ n1 : Nat, n1 = nq := ⟨_, rfl⟩
    subst hn1
    go_wp2
    go_quiet (fail)
    obtain ⟨n3, hn3⟩ : ∃ n3 : Nat, n3 = nq := ⟨_, rfl⟩
    subst hn3
    go_wp2
    obtain ⟨n2, hn2⟩ : ∃ n2 : Nat, n2 = n1 + n3 := ⟨_, rfl⟩
    rw [← hn2]
    have hsd := u64_in (IntKind.u64.wrap (IntKind.u64.wrap (seed * 6364136223846793005) + x) + 1442695040888963407)
    generalize IntKind.u64.wrap (IntKind.u64.wrap (IntKind.u64.wrap (seed * 6364136223846793005) + x) + 1442695040888963407) = s2 at *
    have d1 := HK1.out n2 (.int .i64 ((a : Int) + 1)) (.int .u64 s2)
    have d0 := HK0.out n2 (.int .i64 ((a : Int) + 1)) (.int .u64 s2)
    have HDD := hide (fun m => HD.out n2 m s2 hsd _ rfl)
    generalize ((w.drewN n2).setCell ⟨b, 1, none⟩ (.int .i64 ((a : Int) + 1))).setCell ⟨b, 2, none⟩ (.int .u64 s2) = W2 at *
    clear c0 c1 c2 f1 f2 HK1 HK0 HK2 HD hn2
    go_quiet (fail)
    go_wp2
    go_ret
    exact ⟨x, rfl, ⟨hxb.1, hxb.2⟩, HDD.out _⟩
  · have hi : ¬ (a : Int) < xs.length := by omega
    have hle : ¬ (a : Int) + 1 ≤ xs.length := by omega
    clear hA hr ht
    go_enter Tryd.func176, Tryd.ntmps176
    go_wp2
    go_quiet (fail)
    obtain ⟨n1, hn1⟩ : ∃ n1 : Nat, n1 = nq := ⟨_, rfl⟩
    subst hn1
    go_wp2
    have hsd := u64_in (IntKind.u64.wrap (IntKind.u64.wrap (seed * 6364136223846793005)) + 1442695040888963407)
    generalize IntKind.u64.wrap (IntKind.u64.wrap (IntKind.u64.wrap (seed * 6364136223846793005)) + 1442695040888963407) = s2 at *
    have d1 := HK1.out n1 (.int .i64 ((a : Int) + 1)) (.int .u64 s2)
    have d0 := HK0.out n1 (.int .i64 ((a : Int) + 1)) (.int .u64 s2)
    have d2 := HK2.out n1 (.int .i64 ((a : Int) + 1)) (.int .u64 s2)
    have HDD := hide (fun m => HD.out n1 m s2 hsd _ rfl)
    generalize ((w.drewN n1).setCell ⟨b, 1, none⟩ (.int .i64 ((a : Int) + 1))).setCell ⟨b, 2, none⟩ (.int .u64 s2) = W2 at *
    clear c0 c1 c2 f1 f2 HK1 HK0 HK2 HD
    go_quiet (fail)
    go_wp2
    go_ret
    have hq := and255 (s := s2 / 1099511627776) (by omega) (by omega)
    exact ⟨_, rfl, hq, HDD.out _⟩

theorem Drew.src {B b k : Nat} {w w' : World} (h : Drew B b k w w') : SrcAt w' B b k := h.1
set_option maxRecDepth 100000 in
set_option maxHeartbeats 8000000 in
theorem pick_any (B b k : Nat) (n : Int) (w : World) (h : SrcAt w B b k) (hk : k < 900000) (hn : -1000000 ≤ n ∧ n ≤ 1000000) :
    Calls Tryd.prog 122 #[.pointer (some ⟨b, 0, none⟩), .int .i64 n] w (DrawI B b (k + 2) (fun v => 0 ≤ v ∧ (v < n ∨ v = 0)) w) := by
  have HN := hide (fun k w h hk => next_any B b k w h hk)
  unfold DrawI at HN
  by_cases h1 : n ≤ 1
  · have HS := hide (show Drew B b (k + 2) w w from ⟨h.more (by omega), grown_refl _ _⟩)
    clear h
    go_enter Tryd.func122, Tryd.ntmps122
    go_wp2
    go_ret
    exact ⟨0, rfl, ⟨Int.le_refl _, .inr rfl⟩, HS.out⟩
  · by_cases h2 : 200 < n
    · have HS := hide h
      go_enter Tryd.func122, Tryd.ntmps122
      go_wp2_with fail
      refine (HN.out k w HS.out (by omega)).mono ?_
      rintro e w1 ⟨v, rfl, hv, hd1⟩
      have hw1 := IntWalk.i64_in (v * 256) ⟨by omega, by omega⟩
      go_wp2_with fail
      refine (HN.out (k + 1) w1 hd1.src (by omega)).mono ?_
      rintro e w2 ⟨v2, rfl, hv2, hd2⟩
      have HD := hide (hd1.go hd2)
      have hw2 := IntWalk.i64_in (v * 256 + v2) ⟨by omega, by omega⟩
      have hn0 : n ≠ 0 := by omega
      have hnm : n ≠ -1 := by omega
      have hw3 := IntWalk.i64_in ((v * 256 + v2).tmod n) (by have := Int.tmod_lt_of_pos (v * 256 + v2) (show 0 < n by omega); have := Int.tmod_nonneg n (show 0 ≤ v * 256 + v2 by omega); omega)
      go_wp2
      go_ret
      exact ⟨_, rfl, ⟨Int.emod_nonneg _ (by omega), .inl (Int.emod_lt_of_pos _ (by omega))⟩, HD.out⟩
    · have HS := hide h
      go_enter Tryd.func122, Tryd.ntmps122
      go_wp2_with fail
      refine (HN.out k w HS.out (by omega)).mono ?_
      rintro e w1 ⟨v, rfl, hv, hd1⟩
      have hn0 : n ≠ 0 := by omega
      have hnm : n ≠ -1 := by omega
      have hw3 := IntWalk.i64_in (v.tmod n) (by have := Int.tmod_lt_of_pos v (show 0 < n by omega); have := Int.tmod_nonneg n (show 0 ≤ v by omega); omega)
      have HD := hide (show Drew B b (k + 2) w w1 from ⟨hd1.1.more (by omega), hd1.2⟩)
      go_wp2
      go_ret
      exact ⟨_, rfl, ⟨Int.emod_nonneg _ (by omega), .inl (Int.emod_lt_of_pos _ (by omega))⟩, HD.out⟩
set_option maxHeartbeats 2000000 in
theorem one_any (B b k : Nat) (n : Int) (w : World) (h : SrcAt w B b k) (hk : k < 900000) (hn : -1000000 ≤ n ∧ n ≤ 1000000) :
    Calls Tryd.prog 121 #[.pointer (some ⟨b, 0, none⟩), .int .i64 n] w fun e w' => ∃ v, e = .returned (.bool v) ∧ Drew B b (k + 2) w w' := by
  have HN := hide (pick_any B b k n w h hk hn)
  unfold DrawI at HN
  clear h
  go_enter Tryd.func121, Tryd.ntmps121
  go_wp2_with fail
  refine HN.out.mono ?_
  rintro e w1 ⟨v, rfl, hv, hd1⟩
  have HD := hide hd1
  clear hd1
  go_wp2
  go_ret
  exact ⟨_, rfl, HD.out⟩
set_option maxRecDepth 100000 in
set_option maxHeartbeats 2000000 in
theorem from_any (A : Option Addr) (xs : List Int) (c : Nat) (w : World) (hn : xs.length ≤ 3000) (hx : u8s xs) (hA : U8At w w.heap.size A xs) :
    Calls Tryd.prog 54 #[.slice A xs.length c] w fun e w' => e = .returned (.pointer (some ⟨w.heap.size, 0, none⟩)) ∧ SrcAt w' w.heap.size w.heap.size 0 ∧ Below w.heap.size w w' ∧ w'.heap.size = w.heap.size + 1 := by
  have HS := hide (show SrcAt (w.alloc (.cells #[.slice A xs.length c, .int .i64 0, .int .u64 0] 179)) w.heap.size w.heap.size 0 from
    ⟨A, xs, c, 0, 0, rangeAt_new w _ _, there_newg rfl rfl, Nat.le_refl _, by omega, hn, hx, CellsAt.below hA ((Below.refl _ _).alloc (Nat.le_refl _) _), Nat.le_refl _, by simp⟩)
  have HB := hide (show Below w.heap.size w (w.alloc (.cells #[.slice A xs.length c, .int .i64 0, .int .u64 0] 179)) from (Below.refl _ _).alloc (Nat.le_refl _) _)
  clear hA
  go_enter Tryd.func54, Tryd.ntmps54
  go_wp2
  go_ret
  exact ⟨rfl, HS.out, HB.out, by simp⟩
end Go.Proofs.YtngondeaeipcfaaDoor
