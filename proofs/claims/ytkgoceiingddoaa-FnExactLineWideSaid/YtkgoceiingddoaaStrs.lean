/- Lists of texts in memory: how big they are, their copies, and whether two are equal. -/
import Derived.Test.YtkgoceiingddoaaFace0
import Derived.Test.YtkgoceiingddoaaJoinP
import Derived.Deep.QuietTactic
import Derived.BigQuiet
import Derived.LoopTactic
namespace Go.Proofs.Ytkgoceiingddoaa
open Go.RowKit

/-- The texts xs lie at A, in a block below B. -/
def StrsAt (w : World) (B : Nat) (A : Option Addr) (xs : List ByteArray) : Prop :=
  xs ≠ [] → ∃ b o, A = some ⟨b, o, none⟩ ∧ b < B ∧ ∀ k x, xs[k]? = some x → w.cell? ⟨b, o + k, none⟩ = some (.string x)
theorem StrsAt.below {w w' : World} {B : Nat} {A : Option Addr} {xs : List ByteArray} (h : StrsAt w B A xs) (hb : Below B w w') : StrsAt w' B A xs :=
  fun hn => by obtain ⟨b, o, e, hlt, hc⟩ := h hn; exact ⟨b, o, e, hlt, fun k x hx => (hb.cell (p := ⟨b, o + k, none⟩) hlt).trans (hc k x hx)⟩
theorem StrsAt.mono {w : World} {B B' : Nat} {A : Option Addr} {xs : List ByteArray} (h : StrsAt w B A xs) (hB : B ≤ B') : StrsAt w B' A xs :=
  fun hn => by obtain ⟨b, o, e, hlt, hc⟩ := h hn; exact ⟨b, o, e, by omega, hc⟩
theorem StrsAt.nil (w : World) (B : Nat) (A : Option Addr) : StrsAt w B A [] := fun h => (h rfl).elim
theorem StrsAt.go {W w' : World} {A : Option Addr} {xs : List ByteArray} (h : StrsAt W W.heap.size A xs) (hb : Below W.heap.size W w') : StrsAt w' w'.heap.size A xs := (h.below hb).mono hb.size
/-- The texts xs lie at A, in a block from L on, and may be written there. -/
def StrsIn (w : World) (L : Nat) (A : Option Addr) (xs : List ByteArray) : Prop :=
  xs ≠ [] → ∃ b o, A = some ⟨b, o, none⟩ ∧ L ≤ b ∧ b < w.heap.size ∧ (∀ k x, xs[k]? = some x → w.cell? ⟨b, o + k, none⟩ = some (.string x)) ∧ w.there b o xs.length
theorem StrsIn.at_ {w : World} {L : Nat} {A : Option Addr} {xs : List ByteArray} (h : StrsIn w L A xs) : StrsAt w w.heap.size A xs :=
  fun hn => by obtain ⟨b, o, e, _, h2, h3, _⟩ := h hn; exact ⟨b, o, e, h2, h3⟩

/-- What a size leaves. -/
def szLoop (l : Int) : List ByteArray → Int
  | [] => l
  | x :: xs => if l - x.size < 0 then -1 else szLoop (l - x.size) xs
def szS (l : Int) (xs : List ByteArray) : Int := if l - xs.length < 0 then -1 else szLoop (l - xs.length) xs
theorem szLoop_ge : ∀ (xs : List ByteArray) (l : Int), 0 ≤ szLoop l xs → sumL (xs.map byts) ≤ l
  | [], l, h => by simpa [szLoop, sumL] using h
  | x :: xs, l, h => by
    unfold szLoop at h
    split at h
    · omega
    · have ih := szLoop_ge xs _ h
      have hx : (byts x).length = x.size := by simp [byts]
      simp only [sumL, List.map_cons, List.sum_cons] at ih ⊢
      omega
theorem szS_ge {xs : List ByteArray} {l : Int} (h : 0 ≤ szS l xs) (hl : 0 ≤ l) : (xs.length : Int) ≤ l ∧ sumL (xs.map byts) ≤ l := by
  unfold szS at h
  split at h
  · omega
  · have := szLoop_ge _ _ h; omega
theorem byts_len (x : ByteArray) : (byts x).length = x.size := by simp [byts]
theorem sum_mem {xs : List ByteArray} {x : ByteArray} (h : x ∈ xs) : x.size ≤ sumL (xs.map byts) := by
  induction xs with
  | nil => cases h
  | cons y r ih =>
    simp only [sumL, List.map_cons, List.sum_cons, List.mem_cons, byts_len] at *
    rcases h with rfl | h
    · omega
    · have := ih h; omega

set_option maxHeartbeats 1000000 in
theorem szStringS_any (A : Option Addr) (xs : List ByteArray) (c : Nat) (l : Int) (w : World) (h0 : 0 ≤ l) (h1 : l ≤ 1048576) (hn : xs.length ≤ maxLen) (hx : ∀ x ∈ xs, x.size ≤ maxLen) (hA : StrsAt w w.heap.size A xs) :
    Calls Try.prog 35 #[.slice A xs.length c, .int .i64 l] w fun e w' => e = .returned (.int .i64 (szS l xs)) ∧ w = w' := by
  unfold maxLen at hn
  generalize hS : szS l xs = S
  have HS := hide hS
  clear hS
  by_cases hbig : l - xs.length < 0
  · have hd : decide (l - (xs.length : Int) < 0) = true := by simp; omega
    have hS2 : S = -1 := by rw [← HS.out]; unfold szS; rw [if_pos hbig]
    have HS2 := hide hS2
    clear hS2 hbig
    go_enter Try.func35, Try.ntmps35
    go_wp2
    go_ret
    exact ⟨ret_int HS2.out.symm, rfl⟩
  · have hd : decide (l - (xs.length : Int) < 0) = false := by simp; omega
    have hS2 : szLoop (l - xs.length) xs = S := by rw [← HS.out]; unfold szS; rw [if_neg hbig]
    have HS2 := hide hS2
    have hl0 : 0 ≤ l - (xs.length : Int) := by omega
    clear hS2 hbig
    go_enter Try.func35, Try.ntmps35
    go_wp2
    go_loop [1, 5] (fun r i => ∃ (k : Nat) (z : Int), k ≤ xs.length ∧ i = .int .i64 k ∧ r = .int .i64 z ∧ 0 ≤ z ∧ z ≤ 1048576 ∧ Hid (szLoop z (xs.drop k) = S))
      (fun _ i => xs.length - (intOf i).toNat)
    case atStart => exact ⟨0, _, by omega, rfl, rfl, hl0, by omega, HS2.out⟩
    case round =>
      obtain ⟨k, z, hk, rfl, rfl, z0, z1, hg⟩ := hrel
      by_cases hlt : k < xs.length
      · obtain ⟨b, o, rfl, hb, hxs⟩ := hA (by intro e; rw [e] at hlt; simp at hlt)
        obtain ⟨x, hxk⟩ : ∃ x, xs[k]? = some x := ⟨xs[k]'hlt, List.getElem?_eq_getElem _⟩
        have hc := hxs k x hxk
        have hxm := hx x (List.mem_of_getElem? hxk)
        unfold maxLen at hxm
        have hi : (k : Int) < xs.length := by omega
        have h0 : (0 : Int) ≤ k := by omega
        have hdr : xs.drop k = x :: xs.drop (k + 1) := by rw [List.drop_eq_getElem_cons hlt]; rw [List.getElem?_eq_getElem hlt] at hxk; injection hxk with hxk; rw [hxk]
        have hst : (if z - x.size < 0 then -1 else szLoop (z - x.size) (xs.drop (k + 1))) = S := by have := hg.out; rw [hdr] at this; exact this
        have HST := hide hst
        clear hxs hg hdr hst
        by_cases hneg : z - x.size < 0
        · have hd2 : decide (z - (x.size : Int) < 0) = true := by simp; omega
          have HN := hide hneg
          clear hneg
          go_wp2
          go_ret
          exact ⟨ret_int (by rw [← HST.out, if_pos HN.out]), rfl⟩
        · have hd2 : decide (z - (x.size : Int) < 0) = false := by simp; omega
          have hz : 0 ≤ z - (x.size : Int) := by omega
          have HN := hide hneg
          clear hneg
          go_wp2
          exact ⟨⟨k + 1, _, by omega, by go_num, rfl, hz, by omega, hide (by rw [← HST.out, if_neg HN.out])⟩, by simp [intOf]; omega⟩
      · obtain rfl : k = xs.length := by omega
        have hz : z = S := by have := hg.out; rw [List.drop_length] at this; exact this
        have HZ := hide hz
        clear hz
        go_wp2
        go_ret
        exact ⟨ret_int HZ.out, rfl⟩

theorem Try.infoString : (Try.prog.info? 9).map (fun i => (i.zero, i.size, i.bytes)) = some (some (.string ⟨#[]⟩), 1, 16) := by kernel_rfl

set_option maxHeartbeats 1000000 in
theorem toStringS_any (A : Option Addr) (xs : List ByteArray) (c : Nat) (w : World) (hA : StrsAt w w.heap.size A xs) (hn : xs.length ≤ 1048576) :
    Calls Try.prog 37 #[.slice A xs.length c] w fun e w' => ∃ A', e = .returned (.slice A' xs.length xs.length) ∧ StrsIn w' w.heap.size A' xs ∧ Below w.heap.size w w' := by
  obtain ⟨i0, hi0, hz0, hz1, hz2⟩ := info_parts Try.infoString
  have hmk := fun W => run_make_rowN (P := Try.prog) 39 9 i0 _ Try.underlying39 hi0 hz0 .i64 .i64 xs.length xs.length (Nat.le_refl _) (by rw [hz2]; omega) (by omega) W
  generalize hL : xs.length = n at *
  have HL := hide hL
  clear hL
  go_enter Try.func37, Try.ntmps37
  go_wp2
  go_loopw [4] (fun i wr => ∃ k : Nat, k ≤ n ∧ i = .int .i64 k ∧ Below w.heap.size w wr ∧ w.heap.size < wr.heap.size ∧ wr.there w.heap.size 0 n ∧ (∀ j x, j < k → xs[j]? = some x → wr.cell? ⟨w.heap.size, j, none⟩ = some (.string x)))
    (fun i _ => n - (intOf i).toNat)
  case atStart =>
    refine ⟨0, by omega, rfl, (Below.refl _ _).alloc (Nat.le_refl _) _, by simp, there_newg rfl (by simp [madeCells]), fun j p hj => by omega⟩
  case round =>
    obtain ⟨k, hk, rfl, hB, hsz, ht, hr⟩ := hrel
    by_cases hlt : k < n
    · obtain ⟨b, o, rfl, hb, hxs⟩ := hA (by intro e; rw [e] at HL; have := HL.out; simp at this; omega)
      obtain ⟨x, hx⟩ : ∃ x, xs[k]? = some x := ⟨xs[k]'(by rw [HL.out]; exact hlt), List.getElem?_eq_getElem _⟩
      have c0 : wr.cell? ⟨b, o + k, none⟩ = some (.string x) := (hB.cell (p := ⟨b, o + k, none⟩) hb).trans (hxs k x hx)
      obtain ⟨v0, hv0, hf0⟩ := there_some ht (j := k) hlt
      simp only [Nat.zero_add] at hv0 hf0
      have hi : (k : Int) < n := by omega
      have h0 : (0 : Int) ≤ k := by omega
      clear hxs hmk
      go_wp2
      refine ⟨⟨k + 1, by omega, by go_num, hB.setCell (p := ⟨w.heap.size, k, none⟩) (Nat.le_refl _) _, by rw [size_setCell]; exact hsz, there_set ht _ _, ?_⟩, by simp [intOf]; omega⟩
      intro j y hj hy
      by_cases e : j = k
      · subst e
        have hxy : x = y := Option.some.inj (hx.symm.trans hy)
        rw [← hxy]
        rw [World.cell?_setCell_same' _ _ _ (by rw [hv0]; rfl)]
      · rw [World.cell?_setCell_other _ _ _ _ (by intro h; injection h with _ h; exact e h.symm)]
        exact hr j y (by omega) hy
    · obtain rfl : k = n := by omega
      go_wp2
      go_ret
      refine ⟨_, rfl, fun hne => ⟨w.heap.size, 0, rfl, Nat.le_refl _, hsz, fun j x hx => ?_, by rw [HL.out]; exact ht⟩, hB⟩
      rw [Nat.zero_add]
      exact hr j x (by rw [← HL.out]; exact (List.getElem?_eq_some_iff.1 hx).1) hx

set_option maxHeartbeats 1000000 in
theorem eqStringS_same (A A' : Option Addr) (xs : List ByteArray) (c c' : Nat) (w : World) (hn : xs.length ≤ maxLen) (hA : StrsAt w w.heap.size A xs) (hA' : StrsAt w w.heap.size A' xs) :
    Calls Try.prog 32 #[.slice A xs.length c, .slice A' xs.length c'] w fun e w' => e = .returned (.bool true) ∧ Below w.heap.size w w' := by
  unfold maxLen at hn
  generalize hL : xs.length = n at *
  have HL := hide hL
  clear hL
  go_enter Try.func32, Try.ntmps32
  go_wp2
  go_loopw [5] (fun i wr => ∃ k m : Nat, k ≤ n ∧ i = .int .i64 k ∧ wr = w.drewN m)
    (fun i _ => n - (intOf i).toNat)
  case atStart => exact ⟨0, 0, by omega, rfl, rfl⟩
  case round =>
    obtain ⟨k, m, hk, rfl, rfl⟩ := hrel
    by_cases hlt : k < n
    · have hne : xs ≠ [] := by intro e; rw [e] at HL; have := HL.out; simp at this; omega
      obtain ⟨b, o, rfl, hb, hxs⟩ := hA hne
      obtain ⟨b', o', rfl, hb', hxs'⟩ := hA' hne
      obtain ⟨x, hx⟩ : ∃ x, xs[k]? = some x := ⟨xs[k]'(by rw [HL.out]; exact hlt), List.getElem?_eq_getElem _⟩
      have c0 := hxs k x hx
      have d0 := hxs' k x hx
      have hi : (k : Int) < n := by omega
      have h0 : (0 : Int) ≤ k := by omega
      clear hxs hxs' hA hA'
      go_wp2
      go_quiet (fail)
      go_wp2
      exact ⟨⟨k + 1, _, by omega, by go_num, rfl⟩, by simp [intOf]; omega⟩
    · go_wp2
      go_ret
      exact ⟨rfl, ⟨rfl, rfl, rfl, Nat.le_refl _, fun _ _ => rfl⟩⟩
end Go.Proofs.Ytkgoceiingddoaa
