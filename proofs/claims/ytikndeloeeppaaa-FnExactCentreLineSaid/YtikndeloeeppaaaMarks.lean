/- Marks are laid into a face's pairs, and are found there. -/
import Derived.Test.YtikndeloeeppaaaFace0
import Derived.Laws.AppendOwn
import Derived.LoopTactic
namespace Go.Proofs.Ytikndeloeeppaaa
open Go.RowKit

/-- The mark of the pair at place j, from number k on. -/
def mkP (k : Int) (j : Nat) : Int × Int × Int := ((k + 3 * j) % 256, (k + 3 * j + 1) % 256, IntKind.i8.wrap (k + 3 * j + 1 + 1))
def marks (k : Int) (n : Nat) : List (Int × Int × Int) := (List.range n).map (mkP k)
theorem marks_len (k : Int) (n : Nat) : (marks k n).length = n := by simp [marks]
theorem marks_get {k : Int} {n j : Nat} (h : j < n) : (marks k n)[j]? = some (mkP k j) := by simp [marks, List.getElem?_range h]
/-- Nothing has changed but one block, and what is new. -/
def blkP (A : Option Addr) (ps : List (Int × Int × Int)) : Option Nat := match ps with
  | [] => none
  | _ :: _ => A.map (·.block)
theorem blkP_bd {w : World} {L : Nat} {A : Option Addr} {ps : List (Int × Int × Int)} (h : PairsIn w L A ps) : ∀ k, blkP A ps = some k → L ≤ k ∧ k < w.heap.size := by
  intro k hk
  cases ps with
  | nil => cases hk
  | cons p r =>
    obtain ⟨b, o, e, h1, h2, _⟩ := h (by simp)
    subst e
    have : b = k := by simpa [blkP] using hk
    omega
theorem blkP_some {b o : Nat} {ps : List (Int × Int × Int)} (h : ps ≠ []) : blkP (some ⟨b, o, none⟩) ps = some b := by
  cases ps with
  | nil => exact (h rfl).elim
  | cons p r => rfl
theorem grown_refl (w : World) (r : Option Nat) : w.grownBy w r := ⟨rfl, rfl, rfl, Nat.le_refl _, fun _ _ _ => rfl⟩
theorem grown_trans {a b c : World} {r : Option Nat} (h : a.grownBy b r) (k : b.grownBy c r) : a.grownBy c r :=
  ⟨k.os.trans h.os, k.tape.trans h.tape, k.output.trans h.output, Nat.le_trans h.size k.size, fun i hi hr => (k.block i (Nat.lt_of_lt_of_le hi h.size) hr).trans (h.block i hi hr)⟩
theorem grown_below {a b : World} {r : Option Nat} (h : Below a.heap.size a b) : a.grownBy b r := ⟨h.os, h.tape, h.output, h.size, fun i hi _ => h.block i hi⟩
theorem grown_set {a b : World} {r : Nat} (h : a.grownBy b (some r)) (o : Nat) (v : Value) : a.grownBy (b.setCell ⟨r, o, none⟩ v) (some r) :=
  ⟨h.os, h.tape, h.output, by rw [size_setCell]; exact h.size, fun i hi hr => (Below.heap_setCell _ _ _ _ (by show i ≠ r; intro e; subst e; exact hr rfl)).trans (h.block i hi hr)⟩
theorem grown_row {w w' : World} {r : Option Nat} (h : w.grownBy w' r) {b o : Nat} {cs : List Value} (hr : w.rangeAt b o cs) (hb : b < w.heap.size) (hne : some b ≠ r) : w'.rangeAt b o cs :=
  fun j v hv => by rw [World.cell?_of_block (a := ⟨b, o + j, none⟩) (h.block b hb hne)]; exact hr j v hv
theorem grown_there {w w' : World} {r : Option Nat} (h : w.grownBy w' r) {b o n : Nat} (hr : w.there b o n) (hb : b < w.heap.size) (hne : some b ≠ r) : w'.there b o n :=
  fun j hj => by
    rw [World.cell?_of_block (a := ⟨b, o + j, none⟩) (h.block b hb hne), World.frozen?_of_block (a := ⟨b, o + j, none⟩) (h.block b hb hne)]; exact hr j hj
theorem grown_pairsAt {w w' : World} {r : Option Nat} {B : Nat} (h : w.grownBy w' r) {A : Option Addr} {ps : List (Int × Int × Int)} (hP : PairsAt w B A ps) (hB : B ≤ w.heap.size) (hne : ∀ k, r = some k → B ≤ k) : PairsAt w' B A ps :=
  fun hn => by
    obtain ⟨b, o, e, hlt, hc⟩ := hP hn
    exact ⟨b, o, e, hlt, fun k p hp => grown_row h (hc k p hp) (by omega) (fun e => by have := hne b e.symm; omega)⟩
theorem grown_pairsIn {w w' : World} {r : Option Nat} {L : Nat} (h : w.grownBy w' r) {A : Option Addr} {ps : List (Int × Int × Int)} (hP : PairsIn w L A ps) (hne : ∀ b, blkP A ps = some b → some b ≠ r) : PairsIn w' L A ps :=
  fun hn => by
    obtain ⟨b, o, e, hl, hlt, hc, ht⟩ := hP hn
    have hb : some b ≠ r := hne b (by rw [e]; exact blkP_some hn)
    exact ⟨b, o, e, hl, Nat.lt_of_lt_of_le hlt h.size, fun k p hp => grown_row h (hc k p hp) hlt hb, grown_there h ht hlt hb⟩
theorem grown_toBelow {w w' : World} {r : Option Nat} {B : Nat} (h : w.grownBy w' r) (hB : B ≤ w.heap.size) (hr : ∀ k, r = some k → B ≤ k) : Below B w w' :=
  ⟨h.os, h.tape, h.output, h.size, fun i hi => h.block i (by omega) (fun e => by have := hr i e.symm; omega)⟩

set_option maxRecDepth 100000 in
set_option maxHeartbeats 4000000 in
theorem markPairS_any (A : Option Addr) (ps : List (Int × Int × Int)) (c : Nat) (k : Int) (L : Nat) (w : World) (h0 : 0 ≤ k) (h1 : k ≤ 8) (hn : ps.length ≤ 2097152) (hP : PairsIn w L A ps) :
    Calls Try.prog 93 #[.slice A ps.length c, .int .i64 k] w fun e w' => e = .returned (.int .i64 (k + 3 * ps.length)) ∧ w.grownBy w' (blkP A ps) ∧ PairsIn w' L A (marks k ps.length) := by
  generalize hL : ps.length = n at *
  have HL := hide hL
  clear hL
  by_cases hne : ps = []
  · have hn0 : n = 0 := by rw [← HL.out, hne]; rfl
    subst hn0
    go_enter Try.func93, Try.ntmps93
    go_wp2
    go_loop [1, 5] (fun r i => r = .int .i64 k ∧ i = .int .i64 0) (fun _ _ => 0)
    case atStart => exact ⟨rfl, rfl⟩
    case round =>
      obtain ⟨rfl, rfl⟩ := hrel
      go_wp2
      go_ret
      exact ⟨ret_int (by simp), grown_refl _ _, fun h => (h rfl).elim⟩
  · obtain ⟨b, o, rfl, hLb, hlt, _, ht⟩ := hP hne
    rw [HL.out] at ht
    rw [blkP_some hne]
    go_enter Try.func93, Try.ntmps93
    go_wp2
    go_loopw [1, 5] (fun r i wr => ∃ j : Nat, j ≤ n ∧ i = .int .i64 j ∧ r = .int .i64 (k + 3 * j) ∧ w.grownBy wr (some b) ∧ wr.there b o (n * 3) ∧ (∀ i', i' < j → wr.rangeAt b (o + i' * 3) (pc (mkP k i'))))
      (fun _ i _ => n - (intOf i).toNat)
    case atStart => exact ⟨0, by omega, rfl, by simp, grown_refl _ _, ht, fun i hi => by omega⟩
    case round =>
      obtain ⟨j, hj, rfl, rfl, hg, ht', hr⟩ := hrel
      by_cases hjn : j < n
      · obtain ⟨v0, hv0, hf0⟩ := there_some ht' (j := j * 3) (by omega)
        obtain ⟨v1, hv1, hf1⟩ := there_some ht' (j := j * 3 + 1) (by omega)
        obtain ⟨v2, hv2, hf2⟩ := there_some ht' (j := j * 3 + 2) (by omega)
        simp only [← Nat.add_assoc] at hv0 hv1 hv2 hf0 hf1 hf2
        have hi : (j : Int) < n := by omega
        have hi0 : (0 : Int) ≤ j := by omega
        go_wp2
        refine ⟨⟨j + 1, by omega, by go_num, by congr 1; omega, grown_set (grown_set (grown_set hg _ _) _ _) _ _, there_set (there_set (there_set ht' _ _) _ _) _ _, ?_⟩, by simp [intOf]; omega⟩
        intro i' hi'
        by_cases e : i' = j
        · subst e
          exact pair_stored hv0 hv1 hv2 _ _ _
        · refine rangeAt_off (rangeAt_off (rangeAt_off (hr i' (by omega)) ?_ _) ?_ _) ?_ _ <;> (right; right; simp [pc]; omega)
      · obtain rfl : j = n := by omega
        go_wp2
        go_ret
        refine ⟨rfl, hg, fun _ => ⟨b, o, rfl, hLb, Nat.lt_of_lt_of_le hlt hg.size, fun i p hp => ?_, by rw [marks_len]; exact ht'⟩⟩
        have hi := (List.getElem?_eq_some_iff.1 hp).1
        rw [marks_len] at hi
        rw [marks_get hi] at hp
        injection hp with hp
        subst hp
        exact hr i hi

set_option maxRecDepth 100000 in
set_option maxHeartbeats 4000000 in
theorem heldPairS_any (A : Option Addr) (n : Nat) (c : Nat) (k : Int) (w : World) (h0 : 0 ≤ k) (h1 : k ≤ 8) (hn : n ≤ 2097152) (hP : PairsAt w w.heap.size A (marks k n)) :
    Calls Try.prog 94 #[.slice A n c, .int .i64 k] w fun e w' => e = .returned (.int .i64 (k + 3 * n)) ∧ w = w' := by
  go_enter Try.func94, Try.ntmps94
  go_wp2
  go_loop [1, 5] (fun r i => ∃ j : Nat, j ≤ n ∧ i = .int .i64 j ∧ r = .int .i64 (k + 3 * j))
    (fun _ i => n - (intOf i).toNat)
  case atStart => exact ⟨0, by omega, rfl, by simp⟩
  case round =>
    obtain ⟨j, hj, rfl, rfl⟩ := hrel
    by_cases hjn : j < n
    · obtain ⟨b, o, rfl, hb, hps⟩ := hP (by intro e; have := congrArg List.length e; rw [marks_len] at this; simp at this; omega)
      have hr := hps j _ (marks_get hjn)
      have c0 : w.cell? ⟨b, o + j * 3, none⟩ = some (.int .u8 ((k + 3 * j) % 256)) := hr 0 _ rfl
      have c1 : w.cell? ⟨b, o + j * 3 + 1, none⟩ = some (.int .u8 ((k + 3 * j + 1) % 256)) := hr 1 _ rfl
      have c2 : w.cell? ⟨b, o + j * 3 + 2, none⟩ = some (.int .i8 (IntKind.i8.wrap (k + 3 * j + 1 + 1))) := hr 2 _ rfl
      have hi : (j : Int) < n := by omega
      have hi0 : (0 : Int) ≤ j := by omega
      clear hps hr
      go_wp2
      exact ⟨⟨j + 1, by omega, by go_num, by congr 1; omega⟩, by simp [intOf]; omega⟩
    · obtain rfl : j = n := by omega
      go_wp2
      go_ret
      exact ⟨rfl, rfl⟩

set_option maxRecDepth 100000 in
set_option maxHeartbeats 4000000 in
theorem markFace_any (F : Fc) (hF : F.ok) (A : Option Addr) (c : Nat) (L : Nat) (w : World) (hn : F.ps.length ≤ 2097152) (hP : PairsIn w L A F.ps) :
    Calls Try.prog 29 #[.agg (fc F (.slice A F.ps.length c)).toArray, .int .i64 1] w fun e w' => e = .returned (.int .i64 (1 + 3 * F.ps.length)) ∧ w.grownBy w' (blkP A F.ps) ∧ PairsIn w' L A (marks 1 F.ps.length) := by
  have hW := hide hF.len
  have hr := rangeAt_new w (fc F (.slice A F.ps.length c)) 32
  have hb0 : Below w.heap.size w (w.alloc (.cells (fc F (.slice A F.ps.length c)).toArray 32)) := (Below.refl _ _).alloc (Nat.le_refl _) _
  have x28 := rangeAt_cell hr (fc_sl hW.out _)
  have H := hide (markPairS_any A F.ps c 1 L _ (by omega) (by omega) hn (hP.below hb0 (Nat.le_refl _)))
  clear hr hP
  go_enter Try.func29, Try.ntmps29
  go_wp2_with fail
  refine H.out.mono ?_
  rintro e w1 ⟨rfl, hg, hP1⟩
  go_wp2
  go_ret
  exact ⟨rfl, grown_trans (grown_below hb0) hg, hP1⟩

set_option maxRecDepth 100000 in
set_option maxHeartbeats 4000000 in
theorem heldFace_any (F : Fc) (hF : F.ok) (A : Option Addr) (c : Nat) (w : World) (hn : F.ps.length ≤ 2097152) (hP : PairsAt w w.heap.size A (marks 1 F.ps.length)) :
    Calls Try.prog 30 #[.agg (fc F (.slice A F.ps.length c)).toArray, .int .i64 1] w fun e w' => e = .returned (.int .i64 (1 + 3 * F.ps.length)) ∧ Below w.heap.size w w' := by
  have hW := hide hF.len
  have hr := rangeAt_new w (fc F (.slice A F.ps.length c)) 32
  have hb0 : Below w.heap.size w (w.alloc (.cells (fc F (.slice A F.ps.length c)).toArray 32)) := (Below.refl _ _).alloc (Nat.le_refl _) _
  have x28 := rangeAt_cell hr (fc_sl hW.out _)
  have H := hide (heldPairS_any A F.ps.length c 1 _ (by omega) (by omega) hn ((hP.below hb0).mono hb0.size))
  have hd : decide ((1 : Int) + 3 * F.ps.length < 0) = false := by simp; omega
  clear hr hP
  go_enter Try.func30, Try.ntmps30
  go_wp2_with (go_at_call 94; refine H.out.mono ?_; rintro e w1 ⟨rfl, rfl⟩)
  go_ret
  exact ⟨rfl, hb0⟩
end Go.Proofs.Ytikndeloeeppaaa
