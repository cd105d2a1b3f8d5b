/- strings.Cut at one byte. · The program's iterator over the words of a text: its contract, and slices.Collect of it. · slices.Collect of the words of a text, and WordsOf of the program. · WordsOf of the model and of the program. · LineWide of the model. -/
import Derived.Test.YtngondeaeipcfaaDoorShelf
import Derived.Test.YtngondeaeipcfaaDoorG3
import Derived.Lib.CutLaws
import Derived.Lib.IndexLaws
import Derived.Lib.IndexBytes
import Derived.RangeFuncNested
import Derived.RangeFuncBound
import Derived.RangeFuncCalls
import Derived.RangeFuncLeaves
import Derived.Shelf.Abstract
import Derived.Shelf.RegionOpen
import Derived.WalkKit
import Derived.OwnWalkIn
import Derived.TacticsInMore
import Derived.LoopNIn
import Derived.LoopIn
import Derived.Sort.EncStr
import Derived.Shelf.SlIter.Collect
import Derived.Test.YtngondeaeipcfaaDoorG5
import Derived.Test.YtngondeaeipcfaaDoorG6
import Derived.Test.YtngondeaeipcfaaDoorG4

namespace Go.Proofs.YtngondeaeipcfaaDoor
open Go.RowKit

set_option maxHeartbeats 2000000 in
set_option maxRecDepth 100000 in
theorem cutLite_one (s : ByteArray) (c : UInt8) (w : World) (hs : s.size ≤ 1048576) :
    Calls Tryd.prog 253 #[.string s, .string ⟨#[c]⟩] w fun e w' => e = .returned (.tuple #[.string ⟨(Lib.cut s.data.toList [c]).1.toArray⟩, .string ⟨(Lib.cut s.data.toList [c]).2.1.toArray⟩, .bool (Lib.cut s.data.toList [c]).2.2]) ∧ ∃ n, w' = w.drewN n := by
  have e0 : (⟨#[c]⟩ : ByteArray).data.toList = [c] := rfl
  rcases Lib.indexB_cases s ⟨#[c]⟩ with hix | ⟨i, hix, hroom⟩
  · obtain ⟨e1, e2, e3⟩ := Lib.cutB_miss s ⟨#[c]⟩ hix
    rw [e0] at e1 e2 e3
    rw [e1, e2, e3]
    have hi' : Lib.indexByte s.data.toList c = -1 := by rw [← Lib.index_one]; exact hix
    have HI := hide hi'
    clear hix hi' e1 e2 e3
    go_enter Tryd.func253, Tryd.ntmps253
    go_wp2_with (go_at_call 265; refine (Tryd.stringslite_Index_one s c _).mono ?_; rintro e w' ⟨rfl, rfl⟩; rw [HI.out])
    go_ret3
    exact ⟨rfl, 0, rfl⟩
  · obtain ⟨e1, e2, e3⟩ := Lib.cutB_hit s ⟨#[c]⟩ i hix
    rw [e0] at e1 e2 e3
    rw [e1, e2, e3]
    have hsz : (⟨#[c]⟩ : ByteArray).size = 1 := rfl
    rw [hsz] at hroom
    rw [hsz]
    have c1 : (0 : Int) ≤ ↑i := by omega
    have c2 : (↑i : Int) ≤ ↑s.size := by omega
    have c3 : (0 : Int) ≤ ↑i + 1 := by omega
    have c4 : (↑i + 1 : Int) ≤ ↑s.size := by omega
    have c5 := IntWalk.i64_in ((i : Int) + 1) ⟨by omega, by omega⟩
    have mixed : Tryd.prog.follows .mixedOrders = true := by kernel_rfl
    have hi' : Lib.indexByte s.data.toList c = i := by rw [← Lib.index_one]; exact hix
    have HI := hide hi'
    clear hix hi' e1 e2 e3
    go_enter Tryd.func253, Tryd.ntmps253
    go_wp2_with (go_at_call 265; refine (Tryd.stringslite_Index_one s c _).mono ?_; rintro e w' ⟨rfl, rfl⟩; rw [HI.out])
    go_region_o
    go_wp2
    go_ret3
    exact ⟨rfl, 1, rfl⟩

set_option maxHeartbeats 1000000 in
theorem cut_one (s : ByteArray) (c : UInt8) (w : World) (hs : s.size ≤ 1048576) :
    Calls Tryd.prog 227 #[.string s, .string ⟨#[c]⟩] w fun e w' => e = .returned (.tuple #[.string ⟨(Lib.cut s.data.toList [c]).1.toArray⟩, .string ⟨(Lib.cut s.data.toList [c]).2.1.toArray⟩, .bool (Lib.cut s.data.toList [c]).2.2]) ∧ ∃ n, w' = w.drewN n := by
  go_enter Tryd.func227, Tryd.ntmps227
  go_wp2_with (go_at_call 253; refine (cutLite_one s c _ hs).mono ?_; rintro e w' ⟨rfl, n, rfl⟩)
  go_ret3
  exact ⟨rfl, n, rfl⟩
end Go.Proofs.YtngondeaeipcfaaDoor

namespace Go.Proofs.YtngondeaeipcfaaDoor
open Go Go.RowKit Go.Shelf Go.Sort
attribute [local go_sem] Oper.semAt_some

theorem grown_drewN (w : World) (k : Nat) : w.grownBy (w.drewN k) none := ⟨rfl, rfl, rfl, Nat.le_refl _, fun _ _ _ => rfl⟩

set_option maxRecDepth 100000 in
set_option maxHeartbeats 2000000 in
/-- The words of the text come, each once, in their order. -/
theorem wordsIter_in {α : Type} (f : α → List UInt8) (s : ByteArray) (xs : List α) (hxs : xs.map f = itW s.data.toList) (hs : s.size ≤ 1048576) (n : Nat) (hn : 1 ≤ n) (l Bm : Nat) (J Jx : List α → World → Prop)
    (hY : ∀ pre x W, J pre W → pre.length < xs.length → YieldAt Fence.wide (n - 1) Tryd.prog l #[encStr (f x)] W fun e W' =>
      (e = .returned (.bool true) ∧ J (pre ++ [x]) W' ∧ KeepsWalks W W') ∨ (e = .returned (.bool false) ∧ Jx (pre ++ [x]) W'))
    (W : World) (hJ : AbidesFrom W.heap.size J) (hm : W.cell? ⟨Bm, 0, none⟩ = some (.string s)) (h0 : J [] W) :
    CallsIn Fence.wide n Tryd.prog 226 #[.func (.yield l) #[] #[], .pointer (some ⟨Bm, 0, none⟩)] W fun e W' => (∃ v, e = .returned v) ∧
      ((∃ ys, ys = xs ∧ J ys W') ∨ (∃ pre, pre <+: xs ∧ Jx pre W')) := by
  refine callsIn_of_wp Tryd.func226 rfl trivial ?_ rfl
  simp only [Tryd.ntmps226, List.size_toArray, List.length_cons, List.length_nil, Nat.reduceAdd, Nat.reduceSub, Array.replicate_succ, Array.replicate_zero, List.push_toArray, List.append_toArray, List.nil_append, List.cons_append]
  have e32 : (⟨#[32]⟩ : ByteArray) = ⟨#[(32 : UInt8)]⟩ := rfl
  gi_wp2
  gi_loopw [3] (fun p wr => ∃ (pre rest : List α) (t : ByteArray), p = .string t ∧ xs = pre ++ rest ∧ rest.map f = itW t.data.toList ∧ t.size ≤ s.size ∧ J pre wr)
    (fun p _ => match p with | .string t => t.size | _ => 0)
  case atStart =>
    exact ⟨[], xs, s, rfl, rfl, hxs, Nat.le_refl _, h0⟩
  case round =>
    obtain ⟨pre, rest, t, rfl, hx, hl, ht, hJs⟩ := hrel
    by_cases h0 : t.size = 0
    · have hte := toList_nil h0
      have he : t.data.toList = [] := List.length_eq_zero_iff.1 (by simpa using h0)
      gi_wp2
      go_end0
      rw [he, itW_nil] at hl
      exact ⟨⟨_, rfl⟩, .inl ⟨pre, by simp [hx, List.map_eq_nil_iff.1 hl], hJs⟩⟩
    · have hte := toList_cons h0
      have hne : t.data.toList ≠ [] := fun e => h0 (by have := congrArg List.length e; simpa using this)
      have hl2 := hl
      rw [itW_step hne] at hl2
      have hcl := cut_len hne
      have hCut := fun w => cut_one t 32 w (by omega)
      obtain ⟨b, hb⟩ : ∃ b, (Lib.cut t.data.toList [32]).2.1 = b := ⟨_, rfl⟩
      obtain ⟨fl, hfl⟩ : ∃ b, (Lib.cut t.data.toList [32]).2.2 = b := ⟨_, rfl⟩
      cases rest with
      | nil => simp at hl2
      | cons x rest =>
        simp only [List.map_cons, List.cons.injEq] at hl2
        obtain ⟨hfx, hrest⟩ := hl2
        rw [← hfx, hb, hfl] at hCut
        rw [hb] at hrest hcl
        have HC := hide hCut
        have hlen : pre.length < xs.length := by rw [hx]; simp
        have hbs : (⟨b.toArray⟩ : ByteArray).size < t.size := by
          have e1 : (⟨b.toArray⟩ : ByteArray).size = b.length := by simp [ByteArray.size]
          have e2 : t.data.toList.length = t.size := by simp
          omega
        have hJk : ∀ k, J pre (wr.drewN k) := fun k => hJ pre wr _ none hJs (grown_drewN wr k) (fun r e => by cases e)
        have hXX := hide hx
        have HF := hide (show True ∧ Lib.cut t.data.toList [32] = Lib.cut t.data.toList [32] from ⟨trivial, rfl⟩)
        clear hCut hx hl hfx hcl hb hfl h0 hne
        gi_wp2_with (refine ⟨trivial, ?_⟩; gi_at_call 227; refine (callsIn_wide.2 (HC.out _)).mono ?_; rintro e w2 ⟨rfl, k, rfl⟩; obtain ⟨fn, tmps, assign, body, hy, hR⟩ := hY pre x _ (hJk k) hlen)
        refine hR.mono ?_
        rintro e W3 (⟨rfl, hJ3, hk3⟩ | ⟨rfl, hJx3⟩)
        · gi_wp2
          go_roundw
          case rel => exact ⟨pre ++ [x], rest, ⟨b.toArray⟩, rfl, by rw [hXX.out]; simp, by rw [hrest], by omega, hJ3⟩
          case measure => exact hbs
        · gi_wp2
          refine bodyPost_ret (results_none rfl _ _ _) rfl ?_
          exact ⟨⟨_, rfl⟩, .inr ⟨pre ++ [x], ⟨rest, by rw [hXX.out]; simp⟩, hJx3⟩⟩

/-- The iterator's contract for a loop that goes through all. -/
theorem wordsIter_gives (s : ByteArray) (hs : s.size ≤ 1048576) (n : Nat) (hn : 1 ≤ n) (Bm : Nat) (w : World) (hB : Bm < w.heap.size) (hm : w.cell? ⟨Bm, 0, none⟩ = some (.string s)) :
    SeqGives Fence.wide n Tryd.prog 226 #[.pointer (some ⟨Bm, 0, none⟩)] encStr (fun ss => ss = itW s.data.toList) (itW s.data.toList).length w := fun l J W hW hJ hY h0 => by
  refine (wordsIter_in (fun x => x) s (itW s.data.toList) (by simp) hs n hn l Bm J (fun _ _ => False) (fun pre x W1 h1 h2 => ?_) W hJ ((hW.cell (p := ⟨Bm, 0, none⟩) hB).trans hm) h0).mono ?_
  · obtain ⟨fn, tmps, assign, body, hy, hR⟩ := hY pre x W1 h1 h2
    exact ⟨fn, tmps, assign, body, hy, hR.mono fun e W' h => .inl h⟩
  · rintro e W' ⟨hv, (⟨ys, rfl, hJ'⟩ | ⟨pre, _, h⟩)⟩
    · exact ⟨hv, _, rfl, hJ'⟩
    · exact h.elim
end Go.Proofs.YtngondeaeipcfaaDoor

namespace Go.Proofs
open Go Go.RowKit Go.Shelf Go.Sort
namespace YtngondeaeipcfaaDoor
end YtngondeaeipcfaaDoor
end Go.Proofs

namespace Go.Proofs.YtngondeaeipcfaaDoor
open Go Go.RowKit Go.Shelf Go.Sort

abbrev bas (ss : List (List UInt8)) : List ByteArray := ss.map fun x => ⟨x.toArray⟩
/-- Texts and a code come back, the texts in memory of the call's own. -/
def StrsBack (xs : List ByteArray) (code : Int) (w : World) : Ending → World → Prop := fun e w' =>
  ∃ A c, e = .returned (.tuple #[.slice A xs.length c, .int .i64 code]) ∧ StrsIn w' w.heap.size A xs ∧ Below w.heap.size w w'
noncomputable def woX (L : List UInt8) : List ByteArray := if vtext L = true then bas (wordsL L) else []
noncomputable def woC (L : List UInt8) : Int := if vtext L = true then 0 else 1
theorem wo_no {L : List UInt8} (h : vtext L = false) : woX L = [] ∧ woC L = 1 := by
  unfold woX woC; rw [h]; exact ⟨rfl, rfl⟩
theorem wo_ok {L : List UInt8} (h : vtext L = true) : woX L = bas (wordsL L) ∧ woC L = 0 := by
  unfold woX woC; rw [if_pos h, if_pos h]; exact ⟨rfl, rfl⟩
theorem StrsIn.wider {w : World} {L L' : Nat} {A : Option Addr} {xs : List ByteArray} (h : StrsIn w L A xs) (hL : L' ≤ L) : StrsIn w L' A xs :=
  fun hn => by obtain ⟨b, o, e, h1, h2⟩ := h hn; exact ⟨b, o, e, by omega, h2⟩
theorem StrsIn.go {w w' : World} {L : Nat} {A : Option Addr} {xs : List ByteArray} (h : StrsIn w L A xs) (hb : Below w.heap.size w w') : StrsIn w' L A xs := fun hn => by
  obtain ⟨b, o, e, h1, h2, h3, h4⟩ := h hn
  exact ⟨b, o, e, h1, Nat.lt_of_lt_of_le h2 hb.size, fun k x hx => (hb.cell (p := ⟨b, o + k, none⟩) h2).trans (h3 k x hx), grown_there (r := none) (grown_below hb) h4 h2 (by simp)⟩
theorem StrsIn.empty (w : World) (L : Nat) (A : Option Addr) : StrsIn w L A [] := fun h => (h rfl).elim

set_option maxRecDepth 100000 in
set_option maxHeartbeats 2000000 in
theorem l01Words_any (s : ByteArray) (w : World) (hs : s.size ≤ 1048576) :
    Calls Tryd.prog 170 #[.string s] w fun e w' => ∃ A c, e = .returned (.slice A (bas (wordsL s.data.toList)).length c) ∧ StrsIn w' w.heap.size A (bas (wordsL s.data.toList)) ∧ Below w.heap.size w w' := by
  have hsp := l01Split_any s w hs
  by_cases h0 : s.size = 0
  · have hte := toList_nil h0
    have he : s.data.toList = [] := List.length_eq_zero_iff.1 (by simpa using h0)
    have hw : wordsL s.data.toList = [] := by rw [he]; rfl
    rw [hw]
    clear he hw hsp h0
    go_enter Tryd.func170, Tryd.ntmps170
    go_wp2
    go_ret
    exact ⟨_, _, rfl, StrsIn.empty _ _ _, (Below.refl _ _).alloc (Nat.le_refl _) _⟩
  · have hte := toList_cons h0
    have hne : s.data.toList ≠ [] := fun e => h0 (by have := congrArg List.length e; simpa using this)
    have hw : wordsL s.data.toList = splitL s.data.toList := by unfold wordsL; rw [if_neg hne]
    rw [hw]
    have HSP := hide hsp
    clear hne hw hsp h0
    go_enter Tryd.func170, Tryd.ntmps170
    go_wp2_with (go_at_call 202; refine HSP.out.mono ?_; rintro e w1 ⟨A, c, rfl, hc, hP, hb⟩)
    go_ret
    exact ⟨A, c, by rw [List.length_map]; rfl, hP, hb⟩

theorem wordsIn_any (s : ByteArray) (w : World) :
    Calls Tryd.prog 206 #[.string s] w fun e w' => e = .returned (.func (.func 226) #[] #[.pointer (some ⟨w.heap.size, 0, none⟩)]) ∧ Hid (w.heap.size < w'.heap.size ∧ w'.cell? ⟨w.heap.size, 0, none⟩ = some (.string s)) ∧ Below w.heap.size w w' := by
  go_enter Tryd.func206, Tryd.ntmps206
  go_wp2
  go_ret
  exact ⟨rfl, ⟨by simp, by simp⟩, (Below.refl _ _).alloc (Nat.le_refl _) _⟩

theorem wordsL_len (L : List UInt8) : (wordsL L).length ≤ L.length + 1 := by
  unfold wordsL; split
  · simp
  · exact splitL_len L
theorem woX_len (L : List UInt8) : (woX L).length ≤ L.length + 1 := by
  unfold woX; split
  · rw [List.length_map]; exact wordsL_len L
  · simp

end Go.Proofs.YtngondeaeipcfaaDoor

namespace Go.Proofs.YtngondeaeipcfaaDoor
open Go Go.RowKit

theorem bas_get {ws : List (List UInt8)} {k : Nat} (hk : k < ws.length) : (bas ws)[k]? = some ⟨(ws.getD k []).toArray⟩ := by
  rw [List.getElem?_map, List.getD_eq_getElem?_getD, List.getElem?_eq_getElem hk]; rfl

theorem lineTo_succ (F : Fc) (ws : List (List UInt8)) (k : Nat) : lineTo F ws (k + 1) = lineTo F ws k + wideL F (ws.getD k []) + (if k = 0 then 0 else F.sp) := rfl

noncomputable def askC (F : Fc) (L : List UInt8) (fine : Bool) : Int := if vface F = true ∧ vtext L = true then (if fine = true then 0 else 2) else 1
theorem ask_no {F : Fc} {L : List UInt8} {fine : Bool} (h : ¬ (vface F = true ∧ vtext L = true)) : askC F L fine = 1 := by unfold askC; rw [if_neg h]
theorem ask_ok {F : Fc} {L : List UInt8} {fine : Bool} (h1 : vface F = true) (h2 : vtext L = true) : askC F L fine = if fine = true then 0 else 2 := by unfold askC; rw [if_pos ⟨h1, h2⟩]

noncomputable def lnV (F : Fc) (L : List UInt8) : Int := if vface F = true ∧ vtext L = true then lineL F (wordsL L) else 0
noncomputable def lnC (F : Fc) (L : List UInt8) : Int := if vface F = true ∧ vtext L = true then 0 else 1
theorem ln_no {F : Fc} {L : List UInt8} (h : ¬ (vface F = true ∧ vtext L = true)) : lnV F L = 0 ∧ lnC F L = 1 ∧ askC F L true = 1 := by unfold lnV lnC askC; rw [if_neg h, if_neg h, if_neg h]; exact ⟨rfl, rfl, rfl⟩
theorem ln_ok {F : Fc} {L : List UInt8} (h1 : vface F = true) (h2 : vtext L = true) : lnV F L = lineL F (wordsL L) ∧ lnC F L = 0 ∧ askC F L true = 0 := by
  unfold lnV lnC askC; rw [if_pos ⟨h1, h2⟩, if_pos ⟨h1, h2⟩, if_pos ⟨h1, h2⟩]; exact ⟨rfl, rfl, rfl⟩

end Go.Proofs.YtngondeaeipcfaaDoor
