/- Shorts in memory: their copies, how big they are, whether two lists are equal. -/
import Derived.Test.YtikmmeohmkjbeaaG2
namespace Go.Proofs.Ytikmmeohmkjbeaa
open Go.RowKit

abbrev Sh := ByteArray × ByteArray
def sc (p : Sh) : List Value := [.string p.1, .string p.2]
def ShsAt (w : World) (B : Nat) (A : Option Addr) (ps : List Sh) : Prop :=
  ps ≠ [] → ∃ b o, A = some ⟨b, o, none⟩ ∧ b < B ∧ ∀ k p, ps[k]? = some p → w.rangeAt b (o + k * 2) (sc p)
theorem ShsAt.below {w w' : World} {B : Nat} {A : Option Addr} {ps : List Sh} (h : ShsAt w B A ps) (hb : Below B w w') : ShsAt w' B A ps :=
  fun hn => by
    obtain ⟨b, o, e, hlt, hc⟩ := h hn
    exact ⟨b, o, e, hlt, fun k p hp => rangeAt_below (hc k p hp) hb hlt⟩
theorem ShsAt.mono {w : World} {B B' : Nat} {A : Option Addr} {ps : List Sh} (h : ShsAt w B A ps) (hB : B ≤ B') : ShsAt w B' A ps :=
  fun hn => by
    obtain ⟨b, o, e, hlt, hc⟩ := h hn
    exact ⟨b, o, e, by omega, hc⟩
theorem ShsAt.nil (w : World) (B : Nat) (A : Option Addr) : ShsAt w B A [] := fun h => (h rfl).elim
theorem ShsAt.go {W w' : World} {A : Option Addr} {xs : List Sh} (h : ShsAt W W.heap.size A xs) (hb : Below W.heap.size W w') : ShsAt w' w'.heap.size A xs := (h.below hb).mono hb.size
def ShsIn (w : World) (L : Nat) (A : Option Addr) (ps : List Sh) : Prop :=
  ps ≠ [] → ∃ b o, A = some ⟨b, o, none⟩ ∧ L ≤ b ∧ b < w.heap.size ∧ (∀ k p, ps[k]? = some p → w.rangeAt b (o + k * 2) (sc p)) ∧ w.there b o (ps.length * 2)
theorem ShsIn.at_ {w : World} {L : Nat} {A : Option Addr} {ps : List Sh} (h : ShsIn w L A ps) : ShsAt w w.heap.size A ps :=
  fun hn => by obtain ⟨b, o, e, _, h2, h3, _⟩ := h hn; exact ⟨b, o, e, h2, h3⟩
theorem ShsIn.go {w w' : World} {L : Nat} {A : Option Addr} {xs : List Sh} (h : ShsIn w L A xs) (hb : Below w.heap.size w w') : ShsIn w' L A xs := fun hn => by
  obtain ⟨b, o, e, h1, h2, h3, h4⟩ := h hn
  exact ⟨b, o, e, h1, Nat.lt_of_lt_of_le h2 hb.size, fun k x hx => rangeAt_below (h3 k x hx) hb h2, grown_there (r := none) (grown_below hb) h4 h2 (by simp)⟩

theorem sh_stored {w : World} {g i : Nat} {v0 v1 : Value} (h0 : w.cell? ⟨g, i, none⟩ = some v0) (h1 : w.cell? ⟨g, i + 1, none⟩ = some v1) (x y : ByteArray) :
    ((w.setCell ⟨g, i, none⟩ (.string x)).setCell ⟨g, i + 1, none⟩ (.string y)).rangeAt g i (sc (x, y)) := by
  have a1 : (⟨g, i, none⟩ : Addr) ≠ ⟨g, i + 1, none⟩ := by intro h; injection h with _ h; omega
  intro j u hu
  match j with
  | 0 =>
    obtain rfl : Value.string x = u := by simpa [sc] using hu
    simp only [Nat.add_zero]
    rw [World.cell?_setCell_other _ _ _ _ a1.symm, World.cell?_setCell_same' _ _ _ (by rw [h0]; rfl)]
  | 1 =>
    obtain rfl : Value.string y = u := by simpa [sc] using hu
    rw [World.cell?_setCell_same' _ _ _ (by rw [World.cell?_setCell_other _ _ _ _ a1, h1]; rfl)]
  | j + 2 => simp [sc] at hu

set_option maxHeartbeats 1000000 in
theorem toShort_any (a b : ByteArray) (w : World) :
    Calls Try.prog 106 #[.agg #[.string a, .string b]] w fun e w' => e = .returned (.agg #[.string a, .string b]) ∧ Below w.heap.size w w' := by
  go_enter Try.func106, Try.ntmps106
  go_wp2
  exact bodyPost_ret (v := .agg #[.string a, .string b]) (by simp [results, Try.results106, go_sem]) rfl ⟨rfl, (((Below.refl _ _).alloc (Nat.le_refl _) _).alloc (by simp) _).alloc (by simp only [World.size_alloc]; omega) _⟩

theorem Try.infoShort : (Try.prog.info? 132).map (fun i => (i.zero, i.size, i.bytes)) = some (some (.agg #[.string ⟨#[]⟩, .string ⟨#[]⟩]), 2, 32) := by kernel_rfl

set_option maxHeartbeats 1000000 in
theorem toShortS_any (A : Option Addr) (ps : List Sh) (c : Nat) (w : World) (hA : ShsAt w w.heap.size A ps) (hn : ps.length ≤ 1048576) :
    Calls Try.prog 44 #[.slice A ps.length c] w fun e w' => ∃ A', e = .returned (.slice A' ps.length ps.length) ∧ ShsIn w' w.heap.size A' ps ∧ Below w.heap.size w w' := by
  obtain ⟨i0, hi0, hz0, hz1, hz2⟩ := info_parts Try.infoShort
  have hmk := fun W => run_make_rowN (P := Try.prog) 58 132 i0 _ Try.underlying58 hi0 hz0 .i64 .i64 ps.length ps.length (Nat.le_refl _) (by rw [hz2]; omega) (by omega) W
  generalize hL : ps.length = n at *
  have HL := hide hL
  clear hL
  go_enter Try.func44, Try.ntmps44
  go_wp2
  go_loopw [4] (fun i wr => ∃ k : Nat, k ≤ n ∧ i = .int .i64 k ∧ Below w.heap.size w wr ∧ w.heap.size < wr.heap.size ∧ wr.there w.heap.size 0 (n * 2) ∧ (∀ j p, j < k → ps[j]? = some p → wr.rangeAt w.heap.size (j * 2) (sc p)))
    (fun i _ => n - (intOf i).toNat)
  case atStart =>
    refine ⟨0, by omega, rfl, (Below.refl _ _).alloc (Nat.le_refl _) _, by simp, there_newg rfl (by simp [madeCells]), fun j p hj => by omega⟩
  case round =>
    obtain ⟨k, hk, rfl, hB, hsz, ht, hr⟩ := hrel
    by_cases hlt : k < n
    · obtain ⟨b, o, rfl, hb, hps⟩ := hA (by intro e; rw [e] at HL; have := HL.out; simp at this; omega)
      obtain ⟨p, hp⟩ : ∃ p, ps[k]? = some p := ⟨ps[k]'(by rw [HL.out]; exact hlt), List.getElem?_eq_getElem _⟩
      have hcell := rangeAt_below (hps k p hp) hB hb
      obtain ⟨x, y⟩ := p
      have c0 := hcell 0 _ rfl
      have c1 := hcell 1 _ rfl
      simp only [Nat.add_zero] at c0
      clear hcell hps hmk
      go_wp2_with fail
      refine (toShort_any _ _ _).mono ?_
      rintro e w1 ⟨rfl, hb1⟩
      have ht1 := there_below ht hb1 hsz
      obtain ⟨v0, hv0, hf0⟩ := there_some ht1 (j := k * 2) (by omega)
      obtain ⟨v1, hv1, hf1⟩ := there_some ht1 (j := k * 2 + 1) (by omega)
      simp only [Nat.zero_add, ← Nat.add_assoc] at hv0 hv1 hf0 hf1
      have hB1 := hB.trans (hb1.mono hB.size)
      clear c0 c1
      go_wp2
      have hr1 : ∀ (j : Nat) (p : Sh), j < k → ps[j]? = some p → w1.rangeAt w.heap.size (j * 2) (sc p) := fun j p hj hq => rangeAt_below (hr j p hj hq) hb1 hsz
      refine ⟨⟨k + 1, by omega, by go_num, (hB1.setCell (p := ⟨w.heap.size, k * 2, none⟩) (Nat.le_refl _) _).setCell (p := ⟨w.heap.size, k * 2 + 1, none⟩) (Nat.le_refl _) _, ?_, there_set (there_set ht1 _ _) _ _, ?_⟩, by simp [intOf]; omega⟩
      · have := hb1.size
        simp only [World.setCell, Array.size_modify]
        omega
      · intro j q hj hq
        by_cases e : j = k
        · subst e
          rw [hp] at hq
          injection hq with hq
          subst hq
          exact sh_stored hv0 hv1 _ _
        · exact rangeAt_off (rangeAt_off (hr1 j q (by omega) hq) (by right; right; simp [sc]; omega) _) (by right; right; simp [sc]; omega) _
    · have hk' : k = n := by omega
      subst hk'
      have hA' : ShsIn wr w.heap.size (some ⟨w.heap.size, 0, none⟩) ps := fun hne => ⟨w.heap.size, 0, rfl, Nat.le_refl _, hsz, fun j p hp => by
        rw [Nat.zero_add]; exact hr j p (by have := (List.getElem?_eq_some_iff.1 hp).1; rw [HL.out] at this; exact this) hp, by rw [HL.out]; exact ht⟩
      clear hr ht
      go_wp2
      go_ret
      exact ⟨_, rfl, hA', hB⟩

def sz1 (p : Sh) (l : Int) : Int := if l - p.1.size < 0 then -1 else if l - p.1.size - p.2.size < 0 then -1 else l - p.1.size - p.2.size
theorem sz1_ok {p : Sh} {l : Int} (h1 : l ≤ 1048576) (h : ¬ sz1 p l < 0) : p.1.size ≤ 1048576 ∧ p.2.size ≤ 1048576 ∧ 0 ≤ sz1 p l ∧ sz1 p l ≤ 1048576 := by
  unfold sz1 at h ⊢; split at h
  · omega
  · rw [if_neg (by assumption)]; split at h
    · omega
    · rw [if_neg (by assumption)]; omega
set_option maxHeartbeats 1000000 in
theorem szShort_any (p : Sh) (l : Int) (w : World) (h0 : 0 ≤ l) (h1 : l ≤ 1048576) (s1 : p.1.size ≤ maxLen) (s2 : p.2.size ≤ maxLen) :
    Calls Try.prog 104 #[.agg #[.string p.1, .string p.2], .int .i64 l] w fun e w' => e = .returned (.int .i64 (sz1 p l)) ∧ Below w.heap.size w w' := by
  unfold maxLen at s1 s2
  obtain ⟨a, b⟩ := p
  simp only at s1 s2 ⊢
  have hs := fun o => (Below.refl w.heap.size w).alloc (Nat.le_refl _) o
  have e1 := IntWalk.i64_in (l - a.size) ⟨by omega, by omega⟩
  by_cases n1 : l - a.size < 0
  · go_enter Try.func104, Try.ntmps104
    go_wp2
    go_ret
    exact ⟨ret_int (by unfold sz1; rw [if_pos (by simp only; omega)]), hs _⟩
  · have e2 := IntWalk.i64_in (l - a.size - b.size) ⟨by omega, by omega⟩
    by_cases n2 : l - a.size - b.size < 0
    · go_enter Try.func104, Try.ntmps104
      go_wp2
      go_ret
      exact ⟨ret_int (by unfold sz1; rw [if_neg (by simp only; omega), if_pos (by simp only; omega)]), hs _⟩
    · go_enter Try.func104, Try.ntmps104
      go_wp2
      go_ret
      exact ⟨ret_int (by unfold sz1; rw [if_neg (by simp only; omega), if_neg (by simp only; omega)]), hs _⟩

set_option maxHeartbeats 2000000 in
theorem szShortS_any (A : Option Addr) (ps : List Sh) (c : Nat) (w : World) (hn : ps.length ≤ maxLen) (hx : ∀ p ∈ ps, p.1.size ≤ maxLen ∧ p.2.size ≤ maxLen) (hA : ShsAt w w.heap.size A ps) :
    Calls Try.prog 42 #[.slice A ps.length c, .int .i64 1048576] w fun e w' => ∃ v : Int, e = .returned (.int .i64 v) ∧ (¬ v < 0 → ps.length ≤ 1048576 ∧ ∀ p ∈ ps, p.1.size ≤ 1048576 ∧ p.2.size ≤ 1048576) ∧ Below w.heap.size w w' := by
  unfold maxLen at hn
  obtain ⟨n, hL⟩ : ∃ n, ps.length = n := ⟨_, rfl⟩
  have HL := hide hL
  have HXM := hide (fun k p (h : ps[k]? = some p) => hx p (List.mem_of_getElem? h))
  have HALL := hide (fun (h : ∀ j p, j < n → ps[j]? = some p → p.1.size ≤ 1048576 ∧ p.2.size ≤ 1048576) => show ∀ p ∈ ps, p.1.size ≤ 1048576 ∧ p.2.size ≤ 1048576 from fun p hp => by
    obtain ⟨j, hj⟩ := List.getElem?_of_mem hp
    exact h j p (by have := (List.getElem?_eq_some_iff.1 hj).1; omega) hj)
  rw [hL] at hn ⊢
  clear hL hx
  by_cases hbig : (1048576 : Int) - n < 0
  · have e1 := IntWalk.i64_in ((1048576 : Int) - n) ⟨by omega, by omega⟩
    go_enter Try.func42, Try.ntmps42
    go_wp2
    go_ret
    exact ⟨-1, rfl, fun h => absurd h (by decide), Below.refl _ _⟩
  · have e1 := IntWalk.i64_in ((1048576 : Int) - n) ⟨by omega, by omega⟩
    go_enter Try.func42, Try.ntmps42
    go_wp2
    go_loopw [1, 5] (fun l i wr => ∃ (k : Nat) (v : Int), k ≤ n ∧ i = .int .i64 k ∧ l = .int .i64 v ∧ 0 ≤ v ∧ v ≤ 1048576 ∧ (∀ j p, j < k → ps[j]? = some p → p.1.size ≤ 1048576 ∧ p.2.size ≤ 1048576) ∧ Below w.heap.size w wr)
      (fun _ i _ => n - (intOf i).toNat)
    case atStart => exact ⟨0, _, by omega, rfl, rfl, by omega, by omega, fun j p hj => absurd hj (by omega), Below.refl _ _⟩
    case round =>
      obtain ⟨k, v, hk, rfl, rfl, hv0, hv1, hall, hB⟩ := hrel
      have HG := hide hall
      clear hall
      by_cases hlt : k < n
      · obtain ⟨b, o, rfl, hb, hps⟩ := hA (by intro e; rw [e] at HL; have := HL.out; simp at this; omega)
        obtain ⟨p, hp⟩ : ∃ p, ps[k]? = some p := ⟨ps[k]'(by rw [HL.out]; exact hlt), List.getElem?_eq_getElem _⟩
        have hcell := rangeAt_below (hps k p hp) hB hb
        have c0 := hcell 0 _ rfl
        have c1 := hcell 1 _ rfl
        simp only [Nat.add_zero] at c0
        obtain ⟨s1, s2⟩ := HXM.out k p hp
        have HS := hide (szShort_any p v wr hv0 hv1 s1 s2)
        have HP := hide hp
        have HOK := hide (fun h => sz1_ok (p := p) hv1 h)
        have hi : (k : Int) < n := by omega
        have h00 : (0 : Int) ≤ k := by omega
        clear hcell hps hp s1 s2
        generalize sz1 p v = v2 at *
        by_cases hneg : v2 < 0
        · go_wp2_with (go_at_call 104; refine HS.out.mono ?_; rintro e w1 ⟨rfl, hb1⟩)
          go_ret
          exact ⟨-1, rfl, fun h => absurd h (by decide), hB.trans (hb1.mono hB.size)⟩
        · obtain ⟨t1, t2, t3, t4⟩ := HOK.out hneg
          go_wp2_with (go_at_call 104; refine HS.out.mono ?_; rintro e w1 ⟨rfl, hb1⟩)
          exact ⟨⟨k + 1, v2, by omega, by go_num, rfl, t3, t4, fun j q hj hq => by
            by_cases e : j = k
            · subst e; obtain rfl : p = q := Option.some.inj (HP.out.symm.trans hq); exact ⟨t1, t2⟩
            · exact HG.out j q (by omega) hq, hB.trans (hb1.mono hB.size)⟩, by simp [intOf]; omega⟩
      · obtain rfl : k = n := by omega
        go_wp2
        go_ret
        exact ⟨v, rfl, fun _ => ⟨by omega, fun a b hab => HALL.out HG.out (a, b) hab⟩, hB⟩

set_option maxHeartbeats 1000000 in
theorem eqShort_same (a b : ByteArray) (w : World) :
    Calls Try.prog 108 #[.agg #[.string a, .string b], .agg #[.string a, .string b]] w fun e w' => e = .returned (.bool true) ∧ Below w.heap.size w w' := by
  go_enter Try.func108, Try.ntmps108
  go_wp2
  go_ret
  exact ⟨rfl, ((Below.refl _ _).alloc (Nat.le_refl _) _).alloc (by simp) _⟩

set_option maxHeartbeats 1000000 in
theorem eqShortS_same (A A' : Option Addr) (ps : List Sh) (c c' : Nat) (w : World) (hn : ps.length ≤ maxLen) (hA : ShsAt w w.heap.size A ps) (hA' : ShsAt w w.heap.size A' ps) :
    Calls Try.prog 46 #[.slice A ps.length c, .slice A' ps.length c'] w fun e w' => e = .returned (.bool true) ∧ Below w.heap.size w w' := by
  unfold maxLen at hn
  generalize hL : ps.length = n at *
  have HL := hide hL
  clear hL
  go_enter Try.func46, Try.ntmps46
  go_wp2
  go_loopw [5] (fun i wr => ∃ k : Nat, k ≤ n ∧ i = .int .i64 k ∧ Below w.heap.size w wr)
    (fun i _ => n - (intOf i).toNat)
  case atStart => exact ⟨0, by omega, rfl, Below.refl _ _⟩
  case round =>
    obtain ⟨k, hk, rfl, hB⟩ := hrel
    by_cases hlt : k < n
    · have hne : ps ≠ [] := by intro e; rw [e] at HL; have := HL.out; simp at this; omega
      obtain ⟨b, o, rfl, hb, hps⟩ := hA hne
      obtain ⟨b', o', rfl, hb', hps'⟩ := hA' hne
      obtain ⟨p, hp⟩ : ∃ p, ps[k]? = some p := ⟨ps[k]'(by rw [HL.out]; exact hlt), List.getElem?_eq_getElem _⟩
      have hcell := rangeAt_below (hps k p hp) hB hb
      have hcell' := rangeAt_below (hps' k p hp) hB hb'
      obtain ⟨x, y⟩ := p
      have c0 : ∀ w', Below wr.heap.size wr w' → w'.cell? ⟨b, o + k * 2, none⟩ = some (.string x) := fun w' h => (rangeAt_below hcell h (Nat.lt_of_lt_of_le hb hB.size)) 0 _ rfl
      have c1 : ∀ w', Below wr.heap.size wr w' → w'.cell? ⟨b, o + k * 2 + 1, none⟩ = some (.string y) := fun w' h => (rangeAt_below hcell h (Nat.lt_of_lt_of_le hb hB.size)) 1 _ rfl
      have d0 : ∀ w', Below wr.heap.size wr w' → w'.cell? ⟨b', o' + k * 2, none⟩ = some (.string x) := fun w' h => (rangeAt_below hcell' h (Nat.lt_of_lt_of_le hb' hB.size)) 0 _ rfl
      have d1 : ∀ w', Below wr.heap.size wr w' → w'.cell? ⟨b', o' + k * 2 + 1, none⟩ = some (.string y) := fun w' h => (rangeAt_below hcell' h (Nat.lt_of_lt_of_le hb' hB.size)) 1 _ rfl
      have hi : (k : Int) < n := by omega
      have h0 : (0 : Int) ≤ k := by omega
      clear hcell hcell' hps hps' hA hA'
      go_wp2
      go_region_held3 (fun w' => Below wr.heap.size wr w') (first | exact (Below.refl _ _).drew | (refine Below.trans (by assumption) (Below.mono (by assumption) ?_); exact Below.size (by assumption))) (first | (go_at_call 108; refine (eqShort_same _ _ _).mono ?_; rintro e w1 ⟨rfl, hb1⟩))
      have hB1 : Below w.heap.size w w1 := hB.trans ((by assumption : Below wr.heap.size wr w1).mono hB.size)
      clear c0 c1 d0 d1
      go_wp2
      exact ⟨⟨k + 1, by omega, by go_num, hB1⟩, by simp [intOf]; omega⟩
    · go_wp2
      go_ret
      exact ⟨rfl, hB⟩
end Go.Proofs.Ytikmmeohmkjbeaa
