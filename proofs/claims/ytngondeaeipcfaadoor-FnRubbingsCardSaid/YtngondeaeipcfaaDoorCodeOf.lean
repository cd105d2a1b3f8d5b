/- Errors that are numbers, and the code of the first one. -/
import Derived.Test.YtngondeaeipcfaaDoorAsD
import Derived.LoopTactic
namespace Go.Proofs.YtngondeaeipcfaaDoor
open Go Go.RowKit

/-- An error: none, a stray gap, a number out of its range, too many. -/
inductive Er where
  | none : Er
  | S (n : Int) : Er
  | R (n : Int) : Er
  | M (n : Int) : Er
def erV : Er → Value
  | .none => .nilIface
  | .S n => .iface 191 (.int .i64 n)
  | .R n => .iface 192 (.int .i64 n)
  | .M n => .iface 193 (.int .i64 n)
def erK : Er → Int
  | .none => 0
  | .S _ => 1
  | .R _ => 2
  | .M _ => 3
def erC : List Er → Int
  | [] => 0
  | e :: r => if erK e = 0 then erC r else erK e
def ErsAt (w : World) (B : Nat) (A : Option Addr) (es : List Er) : Prop :=
  es ≠ [] → ∃ b o, A = some ⟨b, o, Option.none⟩ ∧ b < B ∧ ∀ k x, es[k]? = some x → w.cell? ⟨b, o + k, Option.none⟩ = some (erV x)
theorem erC_drop {es : List Er} {k : Nat} {x : Er} (h : es[k]? = some x) : erC (es.drop k) = if erK x = 0 then erC (es.drop (k + 1)) else erK x := by
  have hk : k < es.length := by
    rcases Nat.lt_or_ge k es.length with h1 | h1
    · exact h1
    · rw [List.getElem?_eq_none h1] at h; cases h
  rw [List.drop_eq_getElem_cons hk, erC]
  rw [List.getElem?_eq_getElem hk] at h
  injection h with h
  rw [h]

set_option maxRecDepth 100000 in
set_option maxHeartbeats 8000000 in
theorem codeOf_any (A : Option Addr) (es : List Er) (c : Nat) (w : World) (hn : es.length ≤ 8) (hE : ErsAt w w.heap.size A es) (hg : ErrT w) :
    Calls Tryd.prog 75 #[.slice A es.length c] w fun e w' => e = .returned (.int .i64 (erC es)) ∧ Below w.heap.size w w' := by
  have HE := hide hE
  have HDR := hide (fun k x => @erC_drop es k x)
  have hb0 : Below w.heap.size w (((w.alloc (.cells #[.int .i64 0] 191)).alloc (.cells #[.int .i64 0] 192)).alloc (.cells #[.int .i64 0] 193)) := (((Below.refl _ _).alloc (Nat.le_refl _) _).alloc (by simp) _).alloc (by simp <;> omega) _
  have s0 : (((w.alloc (.cells #[.int .i64 0] 191)).alloc (.cells #[.int .i64 0] 192)).alloc (.cells #[.int .i64 0] 193)).heap.size = w.heap.size + 1 + 1 + 1 := by simp
  have t3 : (((w.alloc (.cells #[.int .i64 0] 191)).alloc (.cells #[.int .i64 0] 192)).alloc (.cells #[.int .i64 0] 193)).there w.heap.size 0 1 := World.there_alloc (World.there_alloc (there_newg rfl rfl) _) _
  have t4 : (((w.alloc (.cells #[.int .i64 0] 191)).alloc (.cells #[.int .i64 0] 192)).alloc (.cells #[.int .i64 0] 193)).there (w.heap.size + 1) 0 1 := World.there_alloc (there_newg (by simp) rfl) _
  have t5 : (((w.alloc (.cells #[.int .i64 0] 191)).alloc (.cells #[.int .i64 0] 192)).alloc (.cells #[.int .i64 0] 193)).there (w.heap.size + 1 + 1) 0 1 := there_newg (by simp) rfl
  have hg0 := hide (hg.below hb0)
  have HB0 := hide hb0
  obtain ⟨n, hN⟩ : ∃ n, es.length = n := ⟨_, rfl⟩
  have HN := hide hN
  have HZ : Hid (erC es = erC (es.drop 0)) := hide (by rw [List.drop_zero])
  have HEND : Hid (erC (es.drop n) = 0) := hide (by rw [← hN, List.drop_length]; rfl)
  rw [hN] at hn ⊢
  rw [HZ.out]
  clear hE hg hb0 hN HZ
  go_enter Tryd.func75, Tryd.ntmps75
  go_wp2
  generalize (((w.alloc (.cells #[.int .i64 0] 191)).alloc (.cells #[.int .i64 0] 192)).alloc (.cells #[.int .i64 0] 193)) = W0 at *
  obtain ⟨u3, g3, f3⟩ := there_some t3 (j := 0) (by omega)
  obtain ⟨u4, g4, f4⟩ := there_some t4 (j := 0) (by omega)
  obtain ⟨u5, g5, f5⟩ := there_some t5 (j := 0) (by omega)
  simp only [Nat.zero_add] at g3 g4 g5 f3 f4 f5
  have G3 := hide (And.intro g3 f3)
  clear g3 f3
  go_loop [10] (fun i => ∃ k : Nat, k ≤ n ∧ i = .int .i64 k ∧ Hid (erC (es.drop 0) = erC (es.drop k))) (fun i => n - (intOf i).toNat)
  case atStart => exact ⟨0, Nat.zero_le _, rfl, hide rfl⟩
  case round =>
    obtain ⟨k, hk, rfl, HQ⟩ := hrel
    by_cases hlt : k < n
    · obtain ⟨b, o, rfl, hb, hxs⟩ := HE.out (by intro e; rw [e] at HN; have := HN.out; simp at this; omega)
      obtain ⟨x, hxk⟩ : ∃ x, es[k]? = some x := ⟨es[k]'(by rw [HN.out]; exact hlt), List.getElem?_eq_getElem _⟩
      have hc : W0.cell? ⟨b, o + k, Option.none⟩ = some (erV x) := (HB0.out.cell (p := ⟨b, o + k, Option.none⟩) hb).trans (hxs k x hxk)
      have HD := hide (HDR.out k x hxk)
      have hi : (k : Int) < n := by omega
      have h0 : (0 : Int) ≤ k := by omega
      clear hxs hxk
      cases x with
      | none =>
        have HQ2 : Hid (erC (es.drop 0) = erC (es.drop (k + 1))) := hide (HQ.out.trans (HD.out.trans (if_pos rfl)))
        change W0.cell? ⟨b, o + k, Option.none⟩ = some .nilIface at hc
        go_wp2_with (go_at_call 133; refine (as_nil _ _).mono ?_; rintro e w1 ⟨rfl, rfl⟩)
        exact ⟨⟨k + 1, by omega, by go_num, HQ2⟩, by simp [intOf]; omega⟩
      | S m =>
        have HQ2 : Hid (erC (es.drop 0) = 1) := hide (HQ.out.trans (HD.out.trans (if_neg (by simp [erK]))))
        have HC := hide (errorsAs_hit_S m ⟨w.heap.size, 0, Option.none⟩ u3 W0 hg0.out G3.out.1 G3.out.2)
        change W0.cell? ⟨b, o + k, Option.none⟩ = some (.iface 191 (.int .i64 m)) at hc
        go_wp2_with (go_at_call 133; refine HC.out.mono ?_; rintro e w1 ⟨rfl, hb1⟩)
        go_ret
        exact ⟨ret_int HQ2.out.symm, HB0.out.trans hb1⟩
      | R m =>
        have HQ2 : Hid (erC (es.drop 0) = 2) := hide (HQ.out.trans (HD.out.trans (if_neg (by simp [erK]))))
        have HC := hide (errorsAs_miss_RS m ⟨w.heap.size, 0, Option.none⟩ W0 hg0.out)
        have HC2 := hide (fun W u hg ht hf => errorsAs_hit_R m ⟨w.heap.size + 1, 0, Option.none⟩ u W hg ht hf)
        change W0.cell? ⟨b, o + k, Option.none⟩ = some (.iface 192 (.int .i64 m)) at hc
        go_wp2_with fail
        refine HC.out.mono ?_
        rintro e w1 ⟨rfl, hb1⟩
        have c4 := (hb1.cell (p := ⟨w.heap.size + 1, 0, Option.none⟩) (show w.heap.size + 1 < W0.heap.size by omega)).trans g4
        have q4 := (there_below t4 hb1 (by omega) 0 (by omega)).2
        have HCC := hide (HC2.out w1 _ (hg0.out.below hb1) c4 q4)
        clear c4 q4
        go_wp2_with (go_at_call 133; refine HCC.out.mono ?_; rintro e w2 ⟨rfl, hb2⟩)
        go_ret
        exact ⟨ret_int HQ2.out.symm, HB0.out.trans ((hb1.mono (by omega)).trans (hb2.mono (show w.heap.size ≤ w.heap.size + 1 by omega)))⟩
      | M m =>
        have HQ2 : Hid (erC (es.drop 0) = 3) := hide (HQ.out.trans (HD.out.trans (if_neg (by simp [erK]))))
        have HC := hide (errorsAs_miss_MS m ⟨w.heap.size, 0, Option.none⟩ W0 hg0.out)
        have HC2 := hide (fun W hg => errorsAs_miss_MR m ⟨w.heap.size + 1, 0, Option.none⟩ W hg)
        have HC3 := hide (fun W u hg ht hf => errorsAs_hit_M m ⟨w.heap.size + 1 + 1, 0, Option.none⟩ u W hg ht hf)
        change W0.cell? ⟨b, o + k, Option.none⟩ = some (.iface 193 (.int .i64 m)) at hc
        go_wp2_with fail
        refine HC.out.mono ?_
        rintro e w1 ⟨rfl, hb1⟩
        have HCC := hide (HC2.out w1 (hg0.out.below hb1))
        go_wp2_with fail
        refine HCC.out.mono ?_
        rintro e w2 ⟨rfl, hb2⟩
        have hb12 := hb1.trans (hb2.mono hb1.size)
        have c5 := (hb12.cell (p := ⟨w.heap.size + 1 + 1, 0, Option.none⟩) (show w.heap.size + 1 + 1 < W0.heap.size by omega)).trans g5
        have q5 := (there_below t5 hb12 (by omega) 0 (by omega)).2
        have HCD := hide (HC3.out w2 _ (hg0.out.below hb12) c5 q5)
        clear c5 q5
        go_wp2_with (go_at_call 133; refine HCD.out.mono ?_; rintro e w3 ⟨rfl, hb3⟩)
        go_ret
        exact ⟨ret_int HQ2.out.symm, HB0.out.trans ((hb12.mono (by omega)).trans (hb3.mono (show w.heap.size ≤ w.heap.size + 1 + 1 by omega)))⟩
    · obtain rfl : k = n := by omega
      have HQ2 : Hid (erC (es.drop 0) = 0) := hide (HQ.out.trans HEND.out)
      go_wp2
      go_ret
      exact ⟨ret_int HQ2.out.symm, HB0.out⟩

/-- The error of a number in no range. -/
def rgE (x lo hi : Int) : Er := if inB x lo hi = true then .none else .R x
set_option maxHeartbeats 1000000 in
theorem rangeError_any (x lo hi : Int) (w : World) :
    Calls Tryd.prog 76 #[.int .i64 x, .int .i64 lo, .int .i64 hi] w fun e w' => e = .returned (erV (rgE x lo hi)) ∧ w = w' := by
  unfold rgE
  cases h : inB x lo hi
  · go_enter Tryd.func76, Tryd.ntmps76
    go_wp2_with (go_at_call 124; refine (between_any _ _ _ _).mono ?_; rintro e w' ⟨rfl, rfl⟩; simp only [h])
    go_ret
    exact ⟨rfl, rfl⟩
  · go_enter Tryd.func76, Tryd.ntmps76
    go_wp2_with (go_at_call 124; refine (between_any _ _ _ _).mono ?_; rintro e w' ⟨rfl, rfl⟩; simp only [h])
    go_ret
    exact ⟨rfl, rfl⟩
end Go.Proofs.YtngondeaeipcfaaDoor
