/- The program's iterator over the words of a text: its contract, and slices.Collect of it. -/
import Derived.RangeFuncNested
import Derived.RangeFuncBound
import Derived.RangeFuncCalls
import Derived.RangeFuncLeaves
import Derived.Shelf.Abstract
import Derived.Shelf.RegionOpen
import Derived.WalkKit
import Derived.OwnWalkIn
import Derived.TacticsInMore
import Derived.LoopNIn
import Derived.LoopIn
import Derived.Sort.EncStr
import Derived.Test.YtikndeloeeppaaaWordsP
import Derived.Test.YtikndeloeeppaaaCut
namespace Go.Proofs.Ytikndeloeeppaaa
open Go Go.RowKit Go.Shelf Go.Sort
attribute [local go_sem] Oper.semAt_some

theorem grown_drewN (w : World) (k : Nat) : w.grownBy (w.drewN k) none := ⟨rfl, rfl, rfl, Nat.le_refl _, fun _ _ _ => rfl⟩

set_option maxRecDepth 100000 in
set_option maxHeartbeats 2000000 in
/-- The words of the text come, each once, in their order. -/
theorem wordsIter_in {α : Type} (f : α → List UInt8) (s : ByteArray) (xs : List α) (hxs : xs.map f = itW s.data.toList) (hs : s.size ≤ 1048576) (n : Nat) (hn : 1 ≤ n) (l Bm : Nat) (J Jx : List α → World → Prop)
    (hY : ∀ pre x W, J pre W → pre.length < xs.length → YieldAt Fence.wide (n - 1) Try.prog l #[encStr (f x)] W fun e W' =>
      (e = .returned (.bool true) ∧ J (pre ++ [x]) W' ∧ KeepsWalks W W') ∨ (e = .returned (.bool false) ∧ Jx (pre ++ [x]) W'))
    (W : World) (hJ : AbidesFrom W.heap.size J) (hm : W.cell? ⟨Bm, 0, none⟩ = some (.string s)) (h0 : J [] W) :
    CallsIn Fence.wide n Try.prog 171 #[.func (.yield l) #[] #[], .pointer (some ⟨Bm, 0, none⟩)] W fun e W' => (∃ v, e = .returned v) ∧
      ((∃ ys, ys = xs ∧ J ys W') ∨ (∃ pre, pre <+: xs ∧ Jx pre W')) := by
  refine callsIn_of_wp Try.func171 rfl trivial ?_ rfl
  simp only [Try.ntmps171, List.size_toArray, List.length_cons, List.length_nil, Nat.reduceAdd, Nat.reduceSub, Array.replicate_succ, Array.replicate_zero, List.push_toArray, List.append_toArray, List.nil_append, List.cons_append]
  have e32 : (⟨#[32]⟩ : ByteArray) = ⟨#[(32 : UInt8)]⟩ := rfl
  gi_wp2
  gi_loopw [3] (fun p wr => ∃ (pre rest : List α) (t : ByteArray), p = .string t ∧ xs = pre ++ rest ∧ rest.map f = itW t.data.toList ∧ t.size ≤ s.size ∧ J pre wr)
    (fun p _ => match p with | .string t => t.size | _ => 0)
  case atStart =>
    exact ⟨[], xs, s, rfl, rfl, hxs, Nat.le_refl _, h0⟩
  case round =>
    obtain ⟨pre, rest, t, rfl, hx, hl, ht, hJs⟩ := hrel
    by_cases h0 : t.size = 0
    · have hte := toList_nil h0
      have he : t.data.toList = [] := List.length_eq_zero_iff.1 (by simpa using h0)
      gi_wp2
      go_end0
      rw [he, itW_nil] at hl
      exact ⟨⟨_, rfl⟩, .inl ⟨pre, by simp [hx, List.map_eq_nil_iff.1 hl], hJs⟩⟩
    · have hte := toList_cons h0
      have hne : t.data.toList ≠ [] := fun e => h0 (by have := congrArg List.length e; simpa using this)
      have hl2 := hl
      rw [itW_step hne] at hl2
      have hcl := cut_len hne
      have hCut := fun w => cut_one t 32 w (by omega)
      obtain ⟨b, hb⟩ : ∃ b, (Lib.cut t.data.toList [32]).2.1 = b := ⟨_, rfl⟩
      obtain ⟨fl, hfl⟩ : ∃ b, (Lib.cut t.data.toList [32]).2.2 = b := ⟨_, rfl⟩
      cases rest with
      | nil => simp at hl2
      | cons x rest =>
        simp only [List.map_cons, List.cons.injEq] at hl2
        obtain ⟨hfx, hrest⟩ := hl2
        rw [← hfx, hb, hfl] at hCut
        rw [hb] at hrest hcl
        have HC := hide hCut
        have hlen : pre.length < xs.length := by rw [hx]; simp
        have hbs : (⟨b.toArray⟩ : ByteArray).size < t.size := by
          have e1 : (⟨b.toArray⟩ : ByteArray).size = b.length := by simp [ByteArray.size]
          have e2 : t.data.toList.length = t.size := by simp
          omega
        have hJk : ∀ k, J pre (wr.drewN k) := fun k => hJ pre wr _ none hJs (grown_drewN wr k) (fun r e => by cases e)
        have hXX := hide hx
        have HF := hide (show True ∧ Lib.cut t.data.toList [32] = Lib.cut t.data.toList [32] from ⟨trivial, rfl⟩)
        clear hCut hx hl hfx hcl hb hfl h0 hne
        gi_wp2_with (refine ⟨trivial, ?_⟩; gi_at_call 172; refine (callsIn_wide.2 (HC.out _)).mono ?_; rintro e w2 ⟨rfl, k, rfl⟩; obtain ⟨fn, tmps, assign, body, hy, hR⟩ := hY pre x _ (hJk k) hlen)
        refine hR.mono ?_
        rintro e W3 (⟨rfl, hJ3, hk3⟩ | ⟨rfl, hJx3⟩)
        · gi_wp2
          go_roundw
          case rel => exact ⟨pre ++ [x], rest, ⟨b.toArray⟩, rfl, by rw [hXX.out]; simp, by rw [hrest], by omega, hJ3⟩
          case measure => exact hbs
        · gi_wp2
          refine bodyPost_ret (results_none rfl _ _ _) rfl ?_
          exact ⟨⟨_, rfl⟩, .inr ⟨pre ++ [x], ⟨rest, by rw [hXX.out]; simp⟩, hJx3⟩⟩

/-- The iterator's contract for a loop that goes through all. -/
theorem wordsIter_gives (s : ByteArray) (hs : s.size ≤ 1048576) (n : Nat) (hn : 1 ≤ n) (Bm : Nat) (w : World) (hB : Bm < w.heap.size) (hm : w.cell? ⟨Bm, 0, none⟩ = some (.string s)) :
    SeqGives Fence.wide n Try.prog 171 #[.pointer (some ⟨Bm, 0, none⟩)] encStr (fun ss => ss = itW s.data.toList) (itW s.data.toList).length w := fun l J W hW hJ hY h0 => by
  refine (wordsIter_in (fun x => x) s (itW s.data.toList) (by simp) hs n hn l Bm J (fun _ _ => False) (fun pre x W1 h1 h2 => ?_) W hJ ((hW.cell (p := ⟨Bm, 0, none⟩) hB).trans hm) h0).mono ?_
  · obtain ⟨fn, tmps, assign, body, hy, hR⟩ := hY pre x W1 h1 h2
    exact ⟨fn, tmps, assign, body, hy, hR.mono fun e W' h => .inl h⟩
  · rintro e W' ⟨hv, (⟨ys, rfl, hJ'⟩ | ⟨pre, _, h⟩)⟩
    · exact ⟨hv, _, rfl, hJ'⟩
    · exact h.elim
end Go.Proofs.Ytikndeloeeppaaa
