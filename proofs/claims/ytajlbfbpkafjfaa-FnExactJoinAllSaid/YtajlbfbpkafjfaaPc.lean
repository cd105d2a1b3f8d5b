/- Pieces in memory: their copies, how big they are, whether two lists are equal, marks. -/
import Derived.Test.YtajlbfbpkafjfaaLay
import Derived.Test.YtajlbfbpkafjfaaG6
namespace Go.Proofs.Ytajlbfbpkafjfaa
open Go.RowKit

abbrev Pcx := ByteArray × Int × Int
def pcx (p : Pcx) : List Value := [.string p.1, .int .u8 p.2.1, .int .u8 p.2.2]
def pxok (p : Pcx) : Prop := p.1.size ≤ maxLen ∧ u8ok p.2.1 ∧ u8ok p.2.2
abbrev PcAt := RowsAt 3 pcx
abbrev PcIn := RowsIn 3 pcx
theorem three_stored {w : World} {g i : Nat} {v0 v1 v2 : Value} (h0 : w.cell? ⟨g, i, none⟩ = some v0) (h1 : w.cell? ⟨g, i + 1, none⟩ = some v1) (h2 : w.cell? ⟨g, i + 2, none⟩ = some v2) (x y z : Value) :
    (((w.setCell ⟨g, i, none⟩ x).setCell ⟨g, i + 1, none⟩ y).setCell ⟨g, i + 2, none⟩ z).rangeAt g i [x, y, z] := by
  have a1 : (⟨g, i, none⟩ : Addr) ≠ ⟨g, i + 1, none⟩ := by intro h; injection h with _ h; omega
  have a2 : (⟨g, i, none⟩ : Addr) ≠ ⟨g, i + 2, none⟩ := by intro h; injection h with _ h; omega
  have a3 : (⟨g, i + 1, none⟩ : Addr) ≠ ⟨g, i + 2, none⟩ := by intro h; injection h with _ h; omega
  intro j u hu
  match j with
  | 0 =>
    obtain rfl : x = u := by simpa using hu
    simp only [Nat.add_zero]
    rw [World.cell?_setCell_other _ _ _ _ a2.symm, World.cell?_setCell_other _ _ _ _ a1.symm, World.cell?_setCell_same' _ _ _ (by rw [h0]; rfl)]
  | 1 =>
    obtain rfl : y = u := by simpa using hu
    rw [World.cell?_setCell_other _ _ _ _ a3.symm, World.cell?_setCell_same' _ _ _ (by rw [World.cell?_setCell_other _ _ _ _ a1, h1]; rfl)]
  | 2 =>
    obtain rfl : z = u := by simpa using hu
    rw [World.cell?_setCell_same' _ _ _ (by rw [World.cell?_setCell_other _ _ _ _ a3, World.cell?_setCell_other _ _ _ _ a2, h2]; rfl)]
  | j + 3 => simp at hu

set_option maxHeartbeats 1000000 in
theorem toPiece_any (s : ByteArray) (a b : Int) (w : World) :
    Calls Try.prog 110 #[.agg #[.string s, .int .u8 a, .int .u8 b]] w fun e w' => e = .returned (.agg #[.string s, .int .u8 a, .int .u8 b]) ∧ Below w.heap.size w w' := by
  go_enter Try.func110, Try.ntmps110
  go_wp2
  exact bodyPost_ret (v := .agg #[.string s, .int .u8 a, .int .u8 b]) (by simp [results, Try.results110, go_sem]) rfl ⟨rfl, (((Below.refl _ _).alloc (Nat.le_refl _) _).alloc (by simp) _).alloc (by simp only [World.size_alloc]; omega) _⟩

theorem Try.infoPiece : (Try.prog.info? 126).map (fun i => (i.zero, i.size, i.bytes)) = some (some (.agg #[.string ⟨#[]⟩, .int .u8 0, .int .u8 0]), 3, 24) := by kernel_rfl

set_option maxHeartbeats 2000000 in
theorem toPieceS_any (A : Option Addr) (ps : List Pcx) (c : Nat) (w : World) (hA : PcAt w w.heap.size A ps) (hn : ps.length ≤ 1048576) :
    Calls Try.prog 57 #[.slice A ps.length c] w fun e w' => ∃ A', e = .returned (.slice A' ps.length ps.length) ∧ PcIn w' w.heap.size A' ps ∧ Below w.heap.size w w' := by
  obtain ⟨i0, hi0, hz0, hz1, hz2⟩ := info_parts Try.infoPiece
  have hmk := fun W => run_make_rowN (P := Try.prog) 69 126 i0 _ Try.underlying69 hi0 hz0 .i64 .i64 ps.length ps.length (Nat.le_refl _) (by rw [hz2]; omega) (by omega) W
  generalize hL : ps.length = n at *
  have HL := hide hL
  clear hL
  go_enter Try.func57, Try.ntmps57
  go_wp2
  go_loopw [4] (fun i wr => ∃ k : Nat, k ≤ n ∧ i = .int .i64 k ∧ Below w.heap.size w wr ∧ w.heap.size < wr.heap.size ∧ wr.there w.heap.size 0 (n * 3) ∧ (∀ j p, j < k → ps[j]? = some p → wr.rangeAt w.heap.size (j * 3) (pcx p)))
    (fun i _ => n - (intOf i).toNat)
  case atStart =>
    refine ⟨0, by omega, rfl, (Below.refl _ _).alloc (Nat.le_refl _) _, by simp, there_newg rfl (by simp [madeCells]), fun j p hj => by omega⟩
  case round =>
    obtain ⟨k, hk, rfl, hB, hsz, ht, hr⟩ := hrel
    by_cases hlt : k < n
    · obtain ⟨b, o, rfl, hb, hps⟩ := hA (by intro e; rw [e] at HL; have := HL.out; simp at this; omega)
      obtain ⟨p, hp⟩ : ∃ p, ps[k]? = some p := ⟨ps[k]'(by rw [HL.out]; exact hlt), List.getElem?_eq_getElem _⟩
      have hcell := rangeAt_below (hps k p hp) hB hb
      obtain ⟨x, y, z⟩ := p
      have c0 := hcell 0 _ rfl
      have c1 := hcell 1 _ rfl
      have c2 := hcell 2 _ rfl
      simp only [Nat.add_zero] at c0
      clear hcell hps hmk
      go_wp2_with fail
      refine (toPiece_any _ _ _ _).mono ?_
      rintro e w1 ⟨rfl, hb1⟩
      have ht1 := there_below ht hb1 hsz
      obtain ⟨v0, hv0, hf0⟩ := there_some ht1 (j := k * 3) (by omega)
      obtain ⟨v1, hv1, hf1⟩ := there_some ht1 (j := k * 3 + 1) (by omega)
      obtain ⟨v2, hv2, hf2⟩ := there_some ht1 (j := k * 3 + 2) (by omega)
      simp only [Nat.zero_add, ← Nat.add_assoc] at hv0 hv1 hv2 hf0 hf1 hf2
      have hB1 := hB.trans (hb1.mono hB.size)
      clear c0 c1 c2
      go_wp2
      have hr1 : ∀ (j : Nat) (p : Pcx), j < k → ps[j]? = some p → w1.rangeAt w.heap.size (j * 3) (pcx p) := fun j p hj hq => rangeAt_below (hr j p hj hq) hb1 hsz
      refine ⟨⟨k + 1, by omega, by go_num, ((hB1.setCell (p := ⟨w.heap.size, k * 3, none⟩) (Nat.le_refl _) _).setCell (p := ⟨w.heap.size, k * 3 + 1, none⟩) (Nat.le_refl _) _).setCell (p := ⟨w.heap.size, k * 3 + 2, none⟩) (Nat.le_refl _) _, ?_, there_set (there_set (there_set ht1 _ _) _ _) _ _, ?_⟩, by simp [intOf]; omega⟩
      · have := hb1.size
        simp only [World.setCell, Array.size_modify]
        omega
      · intro j q hj hq
        by_cases e : j = k
        · subst e
          rw [hp] at hq
          injection hq with hq
          subst hq
          exact three_stored hv0 hv1 hv2 _ _ _
        · exact rangeAt_off (rangeAt_off (rangeAt_off (hr1 j q (by omega) hq) (by right; right; simp [pcx]; omega) _) (by right; right; simp [pcx]; omega) _) (by right; right; simp [pcx]; omega) _
    · have hk' : k = n := by omega
      subst hk'
      have hA' : PcIn wr w.heap.size (some ⟨w.heap.size, 0, none⟩) ps := fun hne => ⟨w.heap.size, 0, rfl, Nat.le_refl _, hsz, fun j p hp => by
        rw [Nat.zero_add]; exact hr j p (by have := (List.getElem?_eq_some_iff.1 hp).1; rw [HL.out] at this; exact this) hp, by rw [HL.out]; exact ht⟩
      clear hr ht
      go_wp2
      go_ret
      exact ⟨_, rfl, hA', hB⟩

def szp1 (p : Pcx) (l : Int) : Int := if l - p.1.size < 0 then -1 else l - p.1.size
theorem szp1_ok {p : Pcx} {l : Int} (h1 : l ≤ 1048576) (h : ¬ szp1 p l < 0) : p.1.size ≤ 1048576 ∧ 0 ≤ szp1 p l ∧ szp1 p l ≤ 1048576 := by
  unfold szp1 at h ⊢; split at h
  · omega
  · rw [if_neg (by assumption)]; omega
set_option maxHeartbeats 1000000 in
theorem szPiece_any (p : Pcx) (l : Int) (w : World) (h0 : 0 ≤ l) (h1 : l ≤ 1048576) (s1 : p.1.size ≤ maxLen) :
    Calls Try.prog 108 #[.agg #[.string p.1, .int .u8 p.2.1, .int .u8 p.2.2], .int .i64 l] w fun e w' => e = .returned (.int .i64 (szp1 p l)) ∧ Below w.heap.size w w' := by
  unfold maxLen at s1
  obtain ⟨a, b, c⟩ := p
  simp only at s1 ⊢
  have hs := fun o => (Below.refl w.heap.size w).alloc (Nat.le_refl _) o
  have e1 := IntWalk.i64_in (l - a.size) ⟨by omega, by omega⟩
  by_cases n1 : l - a.size < 0
  · go_enter Try.func108, Try.ntmps108
    go_wp2
    go_ret
    exact ⟨ret_int (by unfold szp1; rw [if_pos (by simp only; omega)]), hs _⟩
  · go_enter Try.func108, Try.ntmps108
    go_wp2
    go_ret
    exact ⟨ret_int (by unfold szp1; rw [if_neg (by simp only; omega)]), hs _⟩

set_option maxHeartbeats 2000000 in
theorem szPieceS_any (A : Option Addr) (ps : List Pcx) (c : Nat) (w : World) (hn : ps.length ≤ maxLen) (hx : ∀ p ∈ ps, p.1.size ≤ maxLen) (hA : PcAt w w.heap.size A ps) :
    Calls Try.prog 55 #[.slice A ps.length c, .int .i64 1048576] w fun e w' => ∃ v : Int, e = .returned (.int .i64 v) ∧ (¬ v < 0 → ps.length ≤ 1048576 ∧ ∀ p ∈ ps, p.1.size ≤ 1048576) ∧ Below w.heap.size w w' := by
  unfold maxLen at hn
  obtain ⟨n, hL⟩ : ∃ n, ps.length = n := ⟨_, rfl⟩
  have HL := hide hL
  have HXM := hide (fun k p (h : ps[k]? = some p) => hx p (List.mem_of_getElem? h))
  have HALL := hide (fun (h : ∀ j p, j < n → ps[j]? = some p → p.1.size ≤ 1048576) => show ∀ p ∈ ps, p.1.size ≤ 1048576 from fun p hp => by
    obtain ⟨j, hj⟩ := List.getElem?_of_mem hp
    exact h j p (by have := (List.getElem?_eq_some_iff.1 hj).1; omega) hj)
  rw [hL] at hn ⊢
  clear hL hx
  by_cases hbig : (1048576 : Int) - n < 0
  · have e1 := IntWalk.i64_in ((1048576 : Int) - n) ⟨by omega, by omega⟩
    go_enter Try.func55, Try.ntmps55
    go_wp2
    go_ret
    exact ⟨-1, rfl, fun h => absurd h (by decide), Below.refl _ _⟩
  · have e1 := IntWalk.i64_in ((1048576 : Int) - n) ⟨by omega, by omega⟩
    go_enter Try.func55, Try.ntmps55
    go_wp2
    go_loopw [1, 5] (fun l i wr => ∃ (k : Nat) (v : Int), k ≤ n ∧ i = .int .i64 k ∧ l = .int .i64 v ∧ 0 ≤ v ∧ v ≤ 1048576 ∧ (∀ j p, j < k → ps[j]? = some p → p.1.size ≤ 1048576) ∧ Below w.heap.size w wr)
      (fun _ i _ => n - (intOf i).toNat)
    case atStart => exact ⟨0, _, by omega, rfl, rfl, by omega, by omega, fun j p hj => absurd hj (by omega), Below.refl _ _⟩
    case round =>
      obtain ⟨k, v, hk, rfl, rfl, hv0, hv1, hall, hB⟩ := hrel
      have HG := hide hall
      clear hall
      by_cases hlt : k < n
      · obtain ⟨b, o, rfl, hb, hps⟩ := hA (by intro e; rw [e] at HL; have := HL.out; simp at this; omega)
        obtain ⟨p, hp⟩ : ∃ p, ps[k]? = some p := ⟨ps[k]'(by rw [HL.out]; exact hlt), List.getElem?_eq_getElem _⟩
        have hcell := rangeAt_below (hps k p hp) hB hb
        have c0 := hcell 0 _ rfl
        have c1 := hcell 1 _ rfl
        have c2 := hcell 2 _ rfl
        simp only [Nat.add_zero] at c0
        have s1 := HXM.out k p hp
        have HS := hide (szPiece_any p v wr hv0 hv1 s1)
        have HP := hide hp
        have HOK := hide (fun h => szp1_ok (p := p) hv1 h)
        have hi : (k : Int) < n := by omega
        have h00 : (0 : Int) ≤ k := by omega
        clear hcell hps hp s1
        generalize szp1 p v = v2 at *
        by_cases hneg : v2 < 0
        · go_wp2_with (go_at_call 108; refine HS.out.mono ?_; rintro e w1 ⟨rfl, hb1⟩)
          go_ret
          exact ⟨-1, rfl, fun h => absurd h (by decide), hB.trans (hb1.mono hB.size)⟩
        · obtain ⟨t1, t3, t4⟩ := HOK.out hneg
          go_wp2_with (go_at_call 108; refine HS.out.mono ?_; rintro e w1 ⟨rfl, hb1⟩)
          exact ⟨⟨k + 1, v2, by omega, by go_num, rfl, t3, t4, fun j q hj hq => by
            by_cases e : j = k
            · subst e; obtain rfl : p = q := Option.some.inj (HP.out.symm.trans hq); exact t1
            · exact HG.out j q (by omega) hq, hB.trans (hb1.mono hB.size)⟩, by simp [intOf]; omega⟩
      · obtain rfl : k = n := by omega
        go_wp2
        go_ret
        exact ⟨v, rfl, fun _ => ⟨by omega, fun a b c h => HALL.out HG.out (a, b, c) h⟩, hB⟩

set_option maxHeartbeats 1000000 in
theorem eqPiece_same (s : ByteArray) (a b : Int) (w : World) :
    Calls Try.prog 113 #[.agg #[.string s, .int .u8 a, .int .u8 b], .agg #[.string s, .int .u8 a, .int .u8 b]] w fun e w' => e = .returned (.bool true) ∧ Below w.heap.size w w' := by
  go_enter Try.func113, Try.ntmps113
  go_wp2
  go_ret
  exact ⟨rfl, ((Below.refl _ _).alloc (Nat.le_refl _) _).alloc (by simp) _⟩

set_option maxHeartbeats 1000000 in
theorem eqPieceS_same (A A' : Option Addr) (ps : List Pcx) (c c' : Nat) (w : World) (hn : ps.length ≤ maxLen) (hA : PcAt w w.heap.size A ps) (hA' : PcAt w w.heap.size A' ps) :
    Calls Try.prog 59 #[.slice A ps.length c, .slice A' ps.length c'] w fun e w' => e = .returned (.bool true) ∧ Below w.heap.size w w' := by
  unfold maxLen at hn
  generalize hL : ps.length = n at *
  have HL := hide hL
  clear hL
  go_enter Try.func59, Try.ntmps59
  go_wp2
  go_loopw [5] (fun i wr => ∃ k : Nat, k ≤ n ∧ i = .int .i64 k ∧ Below w.heap.size w wr)
    (fun i _ => n - (intOf i).toNat)
  case atStart => exact ⟨0, by omega, rfl, Below.refl _ _⟩
  case round =>
    obtain ⟨k, hk, rfl, hB⟩ := hrel
    by_cases hlt : k < n
    · have hne : ps ≠ [] := by intro e; rw [e] at HL; have := HL.out; simp at this; omega
      obtain ⟨b, o, rfl, hb, hps⟩ := hA hne
      obtain ⟨b', o', rfl, hb', hps'⟩ := hA' hne
      obtain ⟨p, hp⟩ : ∃ p, ps[k]? = some p := ⟨ps[k]'(by rw [HL.out]; exact hlt), List.getElem?_eq_getElem _⟩
      have hcell := rangeAt_below (hps k p hp) hB hb
      have hcell' := rangeAt_below (hps' k p hp) hB hb'
      obtain ⟨x, y, z⟩ := p
      have c0 : ∀ w', Below wr.heap.size wr w' → w'.cell? ⟨b, o + k * 3, none⟩ = some (.string x) := fun w' h => (rangeAt_below hcell h (Nat.lt_of_lt_of_le hb hB.size)) 0 _ rfl
      have c1 : ∀ w', Below wr.heap.size wr w' → w'.cell? ⟨b, o + k * 3 + 1, none⟩ = some (.int .u8 y) := fun w' h => (rangeAt_below hcell h (Nat.lt_of_lt_of_le hb hB.size)) 1 _ rfl
      have c2 : ∀ w', Below wr.heap.size wr w' → w'.cell? ⟨b, o + k * 3 + 2, none⟩ = some (.int .u8 z) := fun w' h => (rangeAt_below hcell h (Nat.lt_of_lt_of_le hb hB.size)) 2 _ rfl
      have d0 : ∀ w', Below wr.heap.size wr w' → w'.cell? ⟨b', o' + k * 3, none⟩ = some (.string x) := fun w' h => (rangeAt_below hcell' h (Nat.lt_of_lt_of_le hb' hB.size)) 0 _ rfl
      have d1 : ∀ w', Below wr.heap.size wr w' → w'.cell? ⟨b', o' + k * 3 + 1, none⟩ = some (.int .u8 y) := fun w' h => (rangeAt_below hcell' h (Nat.lt_of_lt_of_le hb' hB.size)) 1 _ rfl
      have d2 : ∀ w', Below wr.heap.size wr w' → w'.cell? ⟨b', o' + k * 3 + 2, none⟩ = some (.int .u8 z) := fun w' h => (rangeAt_below hcell' h (Nat.lt_of_lt_of_le hb' hB.size)) 2 _ rfl
      have hi : (k : Int) < n := by omega
      have h0 : (0 : Int) ≤ k := by omega
      clear hcell hcell' hps hps' hA hA'
      go_wp2
      go_region_held3 (fun w' => Below wr.heap.size wr w') (first | exact (Below.refl _ _).drew | (refine Below.trans (by assumption) (Below.mono (by assumption) ?_); exact Below.size (by assumption))) (first | (go_at_call 113; refine (eqPiece_same _ _ _ _).mono ?_; rintro e w1 ⟨rfl, hb1⟩))
      have hB1 : Below w.heap.size w w1 := hB.trans ((by assumption : Below wr.heap.size wr w1).mono hB.size)
      clear c0 c1 c2 d0 d1 d2
      go_wp2
      exact ⟨⟨k + 1, by omega, by go_num, hB1⟩, by simp [intOf]; omega⟩
    · go_wp2
      go_ret
      exact ⟨rfl, hB⟩

set_option maxRecDepth 100000 in
set_option maxHeartbeats 4000000 in
theorem markPieceS_any (A : Option Addr) (ps : List Pcx) (c L : Nat) (w : World) (hn : ps.length ≤ 1048576) (hP : PcIn w L A ps) (hL : L ≤ w.heap.size) :
    Calls Try.prog 62 #[.slice A ps.length c, .int .i64 1] w fun e w' => e = .returned (.int .i64 ((1 + 3 * ps.length : Nat) : Int)) ∧ Below L w w' ∧ (∀ b o cs, w.rangeAt b o cs → b < w.heap.size → some b ≠ blkR A ps → w'.rangeAt b o cs) ∧ w.grownBy w' (blkR A ps) := by
  generalize hLn : ps.length = n at *
  have HL := hide hLn
  clear hLn
  suffices h : Calls Try.prog 62 #[.slice A n c, .int .i64 1] w fun e w' => e = .returned (.int .i64 ((1 + 3 * n : Nat) : Int)) ∧ w.grownBy w' (blkR A ps) by
    refine h.mono fun e w' ⟨h1, h2⟩ => ⟨h1, grown_toBelow h2 hL (fun k hk => (hP.blk k hk).1), fun b o cs hr hb hne => grown_row h2 hr hb hne, h2⟩
  by_cases hne : ps = []
  · have hn0 : n = 0 := by rw [← HL.out, hne]; rfl
    subst hn0
    go_enter Try.func62, Try.ntmps62
    go_wp2
    go_loop [1, 5] (fun r i => r = .int .i64 1 ∧ i = .int .i64 0) (fun _ _ => 0)
    case atStart => exact ⟨rfl, rfl⟩
    case round =>
      obtain ⟨rfl, rfl⟩ := hrel
      go_wp2
      go_ret
      exact ⟨rfl, grown_refl _ _⟩
  · obtain ⟨b, o, rfl, hLb, hlt, _, ht⟩ := hP hne
    rw [HL.out] at ht
    rw [blkR_some hne]
    go_enter Try.func62, Try.ntmps62
    go_wp2
    go_loopw [1, 5] (fun r i wr => ∃ j : Nat, j ≤ n ∧ i = .int .i64 j ∧ r = .int .i64 ((1 + 3 * j : Nat) : Int) ∧ w.grownBy wr (some b) ∧ wr.there b o (n * 3))
      (fun _ i _ => n - (intOf i).toNat)
    case atStart => exact ⟨0, by omega, rfl, rfl, grown_refl _ _, ht⟩
    case round =>
      obtain ⟨j, hj, rfl, rfl, hg, ht'⟩ := hrel
      have hbw : b < wr.heap.size := Nat.lt_of_lt_of_le hlt hg.size
      by_cases hjn : j < n
      · have hi : (j : Int) < n := by omega
        have hi0 : (0 : Int) ≤ j := by omega
        have HMT := hide (fun W => markText_any (1 + 3 * j) W (by omega))
        have e1 := IntWalk.i64_in ((((1 + 3 * j : Nat) : Int)) + 1) ⟨by omega, by omega⟩
        have e2 := IntWalk.i64_in ((((1 + 3 * j : Nat) : Int)) + 1 + 1) ⟨by omega, by omega⟩
        have e3 := IntWalk.i64_in ((((1 + 3 * j : Nat) : Int)) + 1 + 1 + 1) ⟨by omega, by omega⟩
        have hR : (((1 + 3 * (j + 1) : Nat) : Int)) = (((1 + 3 * j : Nat) : Int)) + 1 + 1 + 1 := by omega
        have HR := hide hR
        clear hR
        generalize ((1 + 3 * j : Nat) : Int) = m at *
        go_wp2_with fail
        refine (HMT.out _).mono ?_
        rintro e w1 ⟨rfl, hb1⟩
        have ht1 := there_below ht' hb1 hbw
        have hg1 : w.grownBy w1 (some b) := grown_trans hg (grown_below hb1)
        obtain ⟨v0, hv0, hf0⟩ := there_some ht1 (j := j * 3) (by omega)
        obtain ⟨v1, hv1, hf1⟩ := there_some ht1 (j := j * 3 + 1) (by omega)
        obtain ⟨v2, hv2, hf2⟩ := there_some ht1 (j := j * 3 + 2) (by omega)
        simp only [← Nat.add_assoc] at hv0 hv1 hv2 hf0 hf1 hf2
        go_wp2
        exact ⟨⟨j + 1, by omega, by go_num, by rw [HR.out], grown_set (grown_set (grown_set hg1 _ _) _ _) _ _, there_set (there_set (there_set ht1 _ _) _ _) _ _⟩, by simp [intOf]; omega⟩
      · obtain rfl : j = n := by omega
        go_wp2
        go_ret
        exact ⟨rfl, hg⟩
end Go.Proofs.Ytajlbfbpkafjfaa
