/- Lists of pairs of numbers in memory: as flat numbers; whether two are equal, their marks. -/
import Derived.Test.YtajlbfbpkafjfaaG2
import Derived.LoopTactic
namespace Go.Proofs.Ytajlbfbpkafjfaa
open Go.RowKit

abbrev Pr := Int × Int
/-- All numbers of the pairs, one behind the other. -/
def fl (ps : List Pr) : List Int := ps.flatMap fun p => [p.1, p.2]
theorem fl_len (ps : List Pr) : (fl ps).length = 2 * ps.length := by
  induction ps with
  | nil => rfl
  | cons p r ih => simp only [fl, List.flatMap_cons, List.length_append, List.length_cons] at *; rw [ih]; simp; omega
theorem fl_app (ps qs : List Pr) : fl (ps ++ qs) = fl ps ++ fl qs := by simp [fl]
theorem fl_one (x y : Int) : fl [(x, y)] = [x, y] := rfl
theorem fl_get : ∀ {ps : List Pr} {k : Nat} {x y : Int}, ps[k]? = some (x, y) → (fl ps)[2 * k]? = some x ∧ (fl ps)[2 * k + 1]? = some y
  | [], k, x, y, h => by simp at h
  | p :: r, 0, x, y, h => by
    simp at h; subst h; exact ⟨rfl, rfl⟩
  | p :: r, k + 1, x, y, h => by
    have := fl_get (ps := r) (k := k) (x := x) (y := y) (by simpa using h)
    have e : fl (p :: r) = p.1 :: p.2 :: fl r := rfl
    rw [e, show 2 * (k + 1) = 2 * k + 1 + 1 by omega]
    simpa using this
def P2At (w : World) (B : Nat) (A : Option Addr) (ps : List Pr) : Prop := IntsAt w B A (fl ps)
def P2In (w : World) (L : Nat) (A : Option Addr) (ps : List Pr) : Prop := IntsIn w L A (fl ps)
theorem P2In.at_ {w : World} {L : Nat} {A : Option Addr} {ps : List Pr} (h : P2In w L A ps) : P2At w w.heap.size A ps := IntsIn.at_ h
theorem P2In.go {w w' : World} {L : Nat} {A : Option Addr} {ps : List Pr} (h : P2In w L A ps) (hb : Below w.heap.size w w') : P2In w' L A ps := IntsIn.go h hb
theorem P2In.wider {w : World} {L L' : Nat} {A : Option Addr} {ps : List Pr} (h : P2In w L A ps) (hL : L' ≤ L) : P2In w L' A ps := IntsIn.wider h hL
theorem P2In.empty (w : World) (L : Nat) (A : Option Addr) : P2In w L A [] := fun h => (h rfl).elim
theorem P2At.below {w w' : World} {B : Nat} {A : Option Addr} {ps : List Pr} (h : P2At w B A ps) (hb : Below B w w') : P2At w' B A ps := IntsAt.below h hb
theorem P2At.mono {w : World} {B B' : Nat} {A : Option Addr} {ps : List Pr} (h : P2At w B A ps) (hB : B ≤ B') : P2At w B' A ps := IntsAt.mono h hB
theorem P2At.go {W w' : World} {A : Option Addr} {ps : List Pr} (h : P2At W W.heap.size A ps) (hb : Below W.heap.size W w') : P2At w' w'.heap.size A ps := IntsAt.go h hb
def blk2 (A : Option Addr) (ps : List Pr) : Option Nat := blkI A (fl ps)
theorem blk2_bd {w : World} {L : Nat} {A : Option Addr} {ps : List Pr} (h : P2In w L A ps) : ∀ k, blk2 A ps = some k → L ≤ k ∧ k < w.heap.size := blkI_bd h
theorem grown_p2In {w w' : World} {r : Option Nat} {L : Nat} (h : w.grownBy w' r) {A : Option Addr} {ps : List Pr} (hP : P2In w L A ps) (hne : ∀ b, blk2 A ps = some b → some b ≠ r) : P2In w' L A ps := grown_intsIn h hP hne
theorem grown_p2At {w w' : World} {r : Option Nat} {B : Nat} (h : w.grownBy w' r) {A : Option Addr} {ps : List Pr} (hP : P2At w B A ps) (hB : B ≤ w.heap.size) (hne : ∀ k, r = some k → B ≤ k) : P2At w' B A ps := grown_intsAt h hP hB hne
/-- A pair lies there. -/
theorem P2At.row {w : World} {B : Nat} {A : Option Addr} {ps : List Pr} (h : P2At w B A ps) {k : Nat} {x y : Int} (hk : ps[k]? = some (x, y)) :
    ∃ b o, A = some ⟨b, o, none⟩ ∧ b < B ∧ w.cell? ⟨b, o + k * 2, none⟩ = some (.int .i64 x) ∧ w.cell? ⟨b, o + k * 2 + 1, none⟩ = some (.int .i64 y) := by
  obtain ⟨h1, h2⟩ := fl_get hk
  obtain ⟨b, o, e, hb, hc⟩ := h (by intro e; rw [e] at h1; simp at h1)
  refine ⟨b, o, e, hb, ?_, ?_⟩
  · rw [show o + k * 2 = o + 2 * k by omega]; exact hc _ _ h1
  · rw [show o + k * 2 + 1 = o + (2 * k + 1) by omega]; exact hc _ _ h2
/-- A list of pairs and a code come back. -/
def P2Back (R : List Pr) (code : Int) (w : World) : Ending → World → Prop := fun e w' =>
  ∃ A c, e = .returned (.tuple #[.slice A R.length c, .int .i64 code]) ∧ P2In w' w.heap.size A R ∧ Below w.heap.size w w'
theorem p2In_of_own {w : World} {base e n : Nat} {v : Value} {ps : List Pr} (h : w.ownsRow base e 2 v n ((fl ps).map (.int .i64))) : ∃ A c, v = .slice A n c ∧ n ≤ c ∧ P2In w base A ps := by
  obtain ⟨A, c, h1, h2, h3⟩ := cellsIn_of_own h (by omega)
  exact ⟨A, c, h1, h2, IntsIn.of_cells h3⟩

set_option maxRecDepth 100000 in
set_option maxHeartbeats 2000000 in
theorem eqInt64A2_same (x y : Int) (w : World) :
    Calls Try.prog 92 #[.agg #[.int .i64 x, .int .i64 y], .agg #[.int .i64 x, .int .i64 y]] w fun e w' => e = .returned (.bool true) ∧ Below w.heap.size w w' := by
  have hb : Below w.heap.size w ((w.alloc (.cells #[.int .i64 x, .int .i64 y] 108)).alloc (.cells #[.int .i64 x, .int .i64 y] 108)) := ((Below.refl _ _).alloc (Nat.le_refl _) _).alloc (by simp) _
  have r1 := World.rangeAt_alloc (rangeAt_new' w #[.int .i64 x, .int .i64 y] 108) (.cells #[.int .i64 x, .int .i64 y] 108)
  have r2 := rangeAt_newg (w := w.alloc (.cells #[.int .i64 x, .int .i64 y] 108)) (cs := #[.int .i64 x, .int .i64 y]) (t := 108) (g := w.heap.size + 1) (l := [.int .i64 x, .int .i64 y]) (by simp) rfl
  go_enter Try.func92, Try.ntmps92
  go_wp2
  generalize ((w.alloc (.cells #[.int .i64 x, .int .i64 y] 108)).alloc (.cells #[.int .i64 x, .int .i64 y] 108)) = W0 at *
  go_loopw [5] (fun i wr => ∃ k n : Nat, k ≤ 2 ∧ i = .int .i64 k ∧ wr = W0.drewN n)
    (fun i _ => 2 - (intOf i).toNat)
  case atStart => exact ⟨0, 0, by omega, rfl, rfl⟩
  case round =>
    obtain ⟨k, n, hk, rfl, rfl⟩ := hrel
    have : k = 0 ∨ k = 1 ∨ k = 2 := by omega
    rcases this with rfl | rfl | rfl
    · have c1 : W0.cell? ⟨w.heap.size, 0, none⟩ = some (.int .i64 x) := r1 0 _ rfl
      have c2 : W0.cell? ⟨w.heap.size + 1, 0, none⟩ = some (.int .i64 x) := r2 0 _ rfl
      clear r1 r2
      go_wp2
      go_quiet (fail)
      go_wp2
      exact ⟨⟨1, n + nq, by omega, by go_num, rfl⟩, by simp [intOf]⟩
    · have c1 : W0.cell? ⟨w.heap.size, 1, none⟩ = some (.int .i64 y) := r1 1 _ rfl
      have c2 : W0.cell? ⟨w.heap.size + 1, 1, none⟩ = some (.int .i64 y) := r2 1 _ rfl
      clear r1 r2
      go_wp2
      go_quiet (fail)
      go_wp2
      exact ⟨⟨2, n + nq, by omega, by go_num, rfl⟩, by simp [intOf]⟩
    · go_wp2
      go_ret
      exact ⟨rfl, hb.trans ⟨rfl, rfl, rfl, Nat.le_refl _, fun _ _ => rfl⟩⟩

set_option maxHeartbeats 1000000 in
theorem eqInt64A2S_same (A A' : Option Addr) (ps : List Pr) (c c' : Nat) (w : World) (hn : ps.length ≤ maxLen) (hA : P2At w w.heap.size A ps) (hA' : P2At w w.heap.size A' ps) :
    Calls Try.prog 37 #[.slice A ps.length c, .slice A' ps.length c'] w fun e w' => e = .returned (.bool true) ∧ Below w.heap.size w w' := by
  unfold maxLen at hn
  generalize hL : ps.length = n at *
  have HL := hide hL
  clear hL
  go_enter Try.func37, Try.ntmps37
  go_wp2
  go_loopw [5] (fun i wr => ∃ k : Nat, k ≤ n ∧ i = .int .i64 k ∧ Below w.heap.size w wr)
    (fun i _ => n - (intOf i).toNat)
  case atStart => exact ⟨0, by omega, rfl, Below.refl _ _⟩
  case round =>
    obtain ⟨k, hk, rfl, hB⟩ := hrel
    by_cases hlt : k < n
    · obtain ⟨p, hp⟩ : ∃ p, ps[k]? = some p := ⟨ps[k]'(by rw [HL.out]; exact hlt), List.getElem?_eq_getElem _⟩
      obtain ⟨x, y⟩ := p
      obtain ⟨b, o, rfl, hb, e0, e1⟩ := hA.row hp
      obtain ⟨b', o', rfl, hb', f0, f1⟩ := hA'.row hp
      have hbs := hB.size
      have k0 : ∀ (b o : Nat) v, b < w.heap.size → w.cell? ⟨b, o, none⟩ = some v → ∀ w', Below wr.heap.size wr w' → w'.cell? ⟨b, o, none⟩ = some v := fun b o v hb h w' h' => (((hB.trans (h'.mono hbs))).cell (p := ⟨b, o, none⟩) hb).trans h
      have c0 := k0 b (o + k * 2) _ hb e0
      have c1 := k0 b (o + k * 2 + 1) _ hb e1
      have d0 := k0 b' (o' + k * 2) _ hb' f0
      have d1 := k0 b' (o' + k * 2 + 1) _ hb' f1
      have hi : (k : Int) < n := by omega
      have h0 : (0 : Int) ≤ k := by omega
      clear hA hA' k0 e0 e1 f0 f1 hp
      go_wp2
      go_region_held3 (fun w' => Below wr.heap.size wr w') (first | exact (Below.refl _ _).drew | (refine Below.trans (by assumption) (Below.mono (by assumption) ?_); exact Below.size (by assumption))) (first | (go_at_call 92; refine (eqInt64A2_same _ _ _).mono ?_; rintro e w1 ⟨rfl, hb1⟩))
      have hB1 : Below w.heap.size w w1 := hB.trans ((by assumption : Below wr.heap.size wr w1).mono hB.size)
      clear c0 c1 d0 d1
      go_wp2
      exact ⟨⟨k + 1, by omega, by go_num, hB1⟩, by simp [intOf]; omega⟩
    · go_wp2
      go_ret
      exact ⟨rfl, hB⟩

def marks2 (k n : Nat) : List Pr := (List.range n).map fun j => (((k + 2 * j : Nat) : Int), ((k + 2 * j + 1 : Nat) : Int))
theorem marks2_len (k n : Nat) : (marks2 k n).length = n := by simp [marks2]
theorem fl_marks2 (k : Nat) : ∀ n, fl (marks2 k n) = marksI k (2 * n)
  | 0 => rfl
  | n + 1 => by
    have ih := fl_marks2 k n
    have e1 : marks2 k (n + 1) = marks2 k n ++ [(((k + 2 * n : Nat) : Int), ((k + 2 * n + 1 : Nat) : Int))] := by simp [marks2, List.range_succ]
    have e2 : marksI k (2 * (n + 1)) = marksI k (2 * n) ++ [((k + 2 * n : Nat) : Int), ((k + 2 * n + 1 : Nat) : Int)] := by
      rw [show 2 * (n + 1) = 2 * n + 1 + 1 by omega]; simp [marksI, List.range_succ, Nat.add_assoc]
    rw [e1, e2, fl_app, ih, fl_one]

set_option maxRecDepth 100000 in
set_option maxHeartbeats 8000000 in
theorem mark21_any (A : Option Addr) (ps : List Pr) (c L : Nat) (w : World) (hn : ps.length ≤ 2097152) (hP : P2In w L A ps) :
    Calls Try.prog 38 #[.slice A ps.length c, .int .i64 1] w fun e w' => e = .returned (.int .i64 ((1 + 2 * ps.length : Nat) : Int)) ∧ w.grownBy w' (blk2 A ps) ∧ P2In w' L A (marks2 1 ps.length) := by
  have hfl := fl_len ps
  unfold P2In blk2 at *
  rw [fl_marks2]
  generalize hL : ps.length = n at *
  generalize fl ps = xs at *
  by_cases hne : xs = []
  · have hn0 : n = 0 := by rw [hne] at hfl; simp at hfl; omega
    subst hn0
    go_enter Try.func38, Try.ntmps38
    go_wp2
    go_loop [1, 5] (fun r i => r = .int .i64 1 ∧ i = .int .i64 0) (fun _ _ => 0)
    case atStart => exact ⟨rfl, rfl⟩
    case round =>
      obtain ⟨rfl, rfl⟩ := hrel
      go_wp2
      go_ret
      exact ⟨rfl, grown_refl _ _, fun h => (h rfl).elim⟩
  · obtain ⟨b, o, rfl, hLb, hlt, _, ht⟩ := hP hne
    rw [hfl] at ht
    rw [blkI_some hne]
    clear hP hL hfl hne
    go_enter Try.func38, Try.ntmps38
    go_wp2
    go_loopw [1, 5] (fun r i wr => ∃ j : Nat, j ≤ n ∧ i = .int .i64 j ∧ r = .int .i64 ((1 + 2 * j : Nat) : Int) ∧ w.grownBy wr (some b) ∧ wr.there b o (2 * n) ∧ (∀ i', i' < 2 * j → wr.cell? ⟨b, o + i', none⟩ = some (.int .i64 ((1 + i' : Nat) : Int))))
      (fun _ i _ => n - (intOf i).toNat)
    case atStart => exact ⟨0, by omega, rfl, rfl, grown_refl _ _, ht, fun i hi => by omega⟩
    case round =>
      obtain ⟨j, hj, rfl, rfl, hg, ht', hr⟩ := hrel
      have hbw : b < wr.heap.size := Nat.lt_of_lt_of_le hlt hg.size
      by_cases hjn : j < n
      · have hi : (j : Int) < n := by omega
        have hi0 : (0 : Int) ≤ j := by omega
        obtain ⟨W1, hW1⟩ : ∃ W1, W1 = wr := ⟨_, rfl⟩
        subst hW1
        clear ht
        go_wp2
        go_loopw [1, 6] (fun r i wr => ∃ q : Nat, q ≤ 2 ∧ i = .int .i64 q ∧ r = .int .i64 ((1 + 2 * j + q : Nat) : Int) ∧ w.grownBy wr (some b) ∧ wr.there b o (2 * n) ∧ (∀ i', i' < 2 * j + q → wr.cell? ⟨b, o + i', none⟩ = some (.int .i64 ((1 + i' : Nat) : Int))))
          (fun _ i _ => 2 - (intOf i).toNat)
        case atStart => exact ⟨0, by omega, rfl, rfl, hg, ht', hr⟩
        case round =>
          obtain ⟨q, hq, rfl, rfl, hg2, ht2, hr2⟩ := hrel
          clear ht' hr
          by_cases hq2 : q < 2
          · obtain ⟨v0, hv0, hf0⟩ := there_some ht2 (j := 2 * j + q) (by omega)
            rw [show o + (2 * j + q) = o + j * 2 + q by omega] at hv0 hf0
            have HR := hide hr2
            have hqi : (q : Int) < 2 := by omega
            have hq0 : (0 : Int) ≤ q := by omega
            clear hr2
            go_wp2
            refine ⟨⟨q + 1, by omega, by go_num, by congr 1 <;> omega, grown_set hg2 _ _, there_set ht2 _ _, ?_⟩, by simp [intOf]; omega⟩
            intro i' hi'
            by_cases e : i' = 2 * j + q
            · subst e
              rw [show o + (2 * j + q) = o + j * 2 + q by omega]
              rw [show 1 + (2 * j + q) = 1 + 2 * j + q by omega]
              exact World.cell?_setCell_same' _ _ _ (by rw [hv0]; rfl)
            · rw [World.cell?_setCell_other _ _ _ _ (by intro h; injection h with _ h; omega)]
              exact HR.out i' (by omega)
          · obtain rfl : q = 2 := by omega
            go_wp2
            exact ⟨⟨j + 1, by omega, by go_num, by congr 1 <;> omega, hg2, ht2, hr2⟩, by simp [intOf]; omega⟩
      · obtain rfl : j = n := by omega
        clear ht
        go_wp2
        go_ret
        refine ⟨rfl, hg, fun _ => ⟨b, o, rfl, hLb, hbw, fun i x hx => ?_, by rw [marksI_len]; exact ht'⟩⟩
        have hi := (List.getElem?_eq_some_iff.1 hx).1
        rw [marksI_len] at hi
        rw [marksI_get hi] at hx
        injection hx with hx
        subst hx
        exact hr i hi

set_option maxRecDepth 100000 in
set_option maxHeartbeats 8000000 in
theorem held21_any (A : Option Addr) (n c L : Nat) (w : World) (hn : n ≤ 2097152) (hP : P2In w L A (marks2 1 n)) :
    Calls Try.prog 39 #[.slice A n c, .int .i64 1] w fun e w' => e = .returned (.int .i64 ((1 + 2 * n : Nat) : Int)) ∧ Below w.heap.size w w' := by
  have hA := P2In.at_ hP
  unfold P2At at hA
  rw [fl_marks2] at hA
  clear hP
  go_enter Try.func39, Try.ntmps39
  go_wp2
  go_loopw [1, 5] (fun r i wr => ∃ j : Nat, j ≤ n ∧ i = .int .i64 j ∧ r = .int .i64 ((1 + 2 * j : Nat) : Int) ∧ wr = w)
    (fun _ i _ => n - (intOf i).toNat)
  case atStart => exact ⟨0, by omega, rfl, rfl, rfl⟩
  case round =>
    obtain ⟨j, hj, rfl, rfl, rfl⟩ := hrel
    by_cases hjn : j < n
    · obtain ⟨b, o, rfl, hb, hps⟩ := hA (by intro e; have := congrArg List.length e; rw [marksI_len] at this; simp at this; omega)
      have hi : (j : Int) < n := by omega
      have hi0 : (0 : Int) ≤ j := by omega
      have HP := hide hps
      clear hps
      go_wp2
      go_loopw [1, 6] (fun r i wr' => ∃ q : Nat, q ≤ 2 ∧ i = .int .i64 q ∧ r = .int .i64 ((1 + 2 * j + q : Nat) : Int) ∧ wr' = wr)
        (fun _ i _ => 2 - (intOf i).toNat)
      case atStart => exact ⟨0, by omega, rfl, rfl, rfl⟩
      case round =>
        obtain ⟨q, hq, rfl, rfl, rfl⟩ := hrel
        by_cases hq2 : q < 2
        · have c0 := HP.out (2 * j + q) _ (marksI_get (by omega))
          rw [show o + (2 * j + q) = o + j * 2 + q by omega, show 1 + (2 * j + q) = 1 + 2 * j + q by omega] at c0
          have hqi : (q : Int) < 2 := by omega
          have hq0 : (0 : Int) ≤ q := by omega
          go_wp2
          exact ⟨⟨q + 1, by omega, by go_num, by congr 1 <;> omega, by first | rfl | trivial⟩, by simp [intOf]; omega⟩
        · obtain rfl : q = 2 := by omega
          go_wp2
          exact ⟨⟨j + 1, by omega, by go_num, by congr 1 <;> omega, by first | rfl | trivial⟩, by simp [intOf]; omega⟩
    · obtain rfl : j = n := by omega
      go_wp2
      go_ret
      exact ⟨rfl, Below.refl _ _⟩
end Go.Proofs.Ytajlbfbpkafjfaa
