/- strings.Cut at one byte. · The program's iterator over the words of a text: its contract, and slices.Collect of it. · slices.Collect of the words of a text, and WordsOf of the program. · WordsOf of the model and of the program. · LineWide of the model. -/
import Derived.Test.YtngondeaeipcfaaGreatDoorShelf
import Derived.Test.YtngondeaeipcfaaGreatDoorG3
import Derived.Lib.CutLaws
import Derived.Lib.IndexLaws
import Derived.Lib.IndexBytes
import Derived.RangeFuncNested
import Derived.RangeFuncBound
import Derived.RangeFuncCalls
import Derived.RangeFuncLeaves
import Derived.Shelf.Abstract
import Derived.Shelf.RegionOpen
import Derived.WalkKit
import Derived.OwnWalkIn
import Derived.TacticsInMore
import Derived.LoopNIn
import Derived.LoopIn
import Derived.Sort.EncStr
import Derived.Shelf.SlIter.Collect
import Derived.Test.YtngondeaeipcfaaGreatDoorG5
import Derived.Test.YtngondeaeipcfaaGreatDoorG6
import Derived.Test.YtngondeaeipcfaaGreatDoorG4

namespace Go.Proofs.YtngondeaeipcfaaGreatDoor
open Go.RowKit

set_option maxHeartbeats 2000000 in
set_option maxRecDepth 100000 in
theorem cutLite_one (s : ByteArray) (c : UInt8) (w : World) (hs : s.size ≤ 1048576) :
    Calls Tryz.prog 262 #[.string s, .string ⟨#[c]⟩] w fun e w' => e = .returned (.tuple #[.string ⟨(Lib.cut s.data.toList [c]).1.toArray⟩, .string ⟨(Lib.cut s.data.toList [c]).2.1.toArray⟩, .bool (Lib.cut s.data.toList [c]).2.2]) ∧ ∃ n, w' = w.drewN n := by
  have e0 : (⟨#[c]⟩ : ByteArray).data.toList = [c] := rfl
  rcases Lib.indexB_cases s ⟨#[c]⟩ with hix | ⟨i, hix, hroom⟩
  · obtain ⟨e1, e2, e3⟩ := Lib.cutB_miss s ⟨#[c]⟩ hix
    rw [e0] at e1 e2 e3
    rw [e1, e2, e3]
    have hi' : Lib.indexByte s.data.toList c = -1 := by rw [← Lib.index_one]; exact hix
    have HI := hide hi'
    clear hix hi' e1 e2 e3
    go_enter Tryz.func262, Tryz.ntmps262
    go_wp2_with (go_at_call 263; refine (Tryz.stringslite_Index_one s c _).mono ?_; rintro e w' ⟨rfl, rfl⟩; rw [HI.out])
    go_ret3
    exact ⟨rfl, 0, rfl⟩
  · obtain ⟨e1, e2, e3⟩ := Lib.cutB_hit s ⟨#[c]⟩ i hix
    rw [e0] at e1 e2 e3
    rw [e1, e2, e3]
    have hsz : (⟨#[c]⟩ : ByteArray).size = 1 := rfl
    rw [hsz] at hroom
    rw [hsz]
    have c1 : (0 : Int) ≤ ↑i := by omega
    have c2 : (↑i : Int) ≤ ↑s.size := by omega
    have c3 : (0 : Int) ≤ ↑i + 1 := by omega
    have c4 : (↑i + 1 : Int) ≤ ↑s.size := by omega
    have c5 := IntWalk.i64_in ((i : Int) + 1) ⟨by omega, by omega⟩
    have mixed : Tryz.prog.follows .mixedOrders = true := by kernel_rfl
    have hi' : Lib.indexByte s.data.toList c = i := by rw [← Lib.index_one]; exact hix
    have HI := hide hi'
    clear hix hi' e1 e2 e3
    go_enter Tryz.func262, Tryz.ntmps262
    go_wp2_with (go_at_call 263; refine (Tryz.stringslite_Index_one s c _).mono ?_; rintro e w' ⟨rfl, rfl⟩; rw [HI.out])
    go_region_o
    go_wp2
    go_ret3
    exact ⟨rfl, 1, rfl⟩

set_option maxHeartbeats 1000000 in
theorem cut_one (s : ByteArray) (c : UInt8) (w : World) (hs : s.size ≤ 1048576) :
    Calls Tryz.prog 215 #[.string s, .string ⟨#[c]⟩] w fun e w' => e = .returned (.tuple #[.string ⟨(Lib.cut s.data.toList [c]).1.toArray⟩, .string ⟨(Lib.cut s.data.toList [c]).2.1.toArray⟩, .bool (Lib.cut s.data.toList [c]).2.2]) ∧ ∃ n, w' = w.drewN n := by
  go_enter Tryz.func215, Tryz.ntmps215
  go_wp2_with (go_at_call 262; refine (cutLite_one s c _ hs).mono ?_; rintro e w' ⟨rfl, n, rfl⟩)
  go_ret3
  exact ⟨rfl, n, rfl⟩
end Go.Proofs.YtngondeaeipcfaaGreatDoor

namespace Go.Proofs.YtngondeaeipcfaaGreatDoor
open Go Go.RowKit Go.Shelf Go.Sort
attribute [local go_sem] Oper.semAt_some

theorem grown_drewN (w : World) (k : Nat) : w.grownBy (w.drewN k) none := ⟨rfl, rfl, rfl, Nat.le_refl _, fun _ _ _ => rfl⟩

set_option maxRecDepth 100000 in
set_option maxHeartbeats 2000000 in
/-- The words of the text come, each once, in their order. -/
theorem wordsIter_in {α : Type} (f : α → List UInt8) (s : ByteArray) (xs : List α) (hxs : xs.map f = itW s.data.toList) (hs : s.size ≤ 1048576) (n : Nat) (hn : 1 ≤ n) (l Bm : Nat) (J Jx : List α → World → Prop)
    (hY : ∀ pre x W, J pre W → pre.length < xs.length → YieldAt Fence.wide (n - 1) Tryz.prog l #[encStr (f x)] W fun e W' =>
      (e = .returned (.bool true) ∧ J (pre ++ [x]) W' ∧ KeepsWalks W W') ∨ (e = .returned (.bool false) ∧ Jx (pre ++ [x]) W'))
    (W : World) (hJ : AbidesFrom W.heap.size J) (hm : W.cell? ⟨Bm, 0, none⟩ = some (.string s)) (h0 : J [] W) :
    CallsIn Fence.wide n Tryz.prog 214 #[.func (.yield l) #[] #[], .pointer (some ⟨Bm, 0, none⟩)] W fun e W' => (∃ v, e = .returned v) ∧
      ((∃ ys, ys = xs ∧ J ys W') ∨ (∃ pre, pre <+: xs ∧ Jx pre W')) := by
  refine callsIn_of_wp Tryz.func214 rfl trivial ?_ rfl
  simp only [Tryz.ntmps214, List.size_toArray, List.length_cons, List.length_nil, Nat.reduceAdd, Nat.reduceSub, Array.replicate_succ, Array.replicate_zero, List.push_toArray, List.append_toArray, List.nil_append, List.cons_append]
  have e32 : (⟨#[32]⟩ : ByteArray) = ⟨#[(32 : UInt8)]⟩ := rfl
  gi_wp2
  gi_loopw [3] (fun p wr => ∃ (pre rest : List α) (t : ByteArray), p = .string t ∧ xs = pre ++ rest ∧ rest.map f = itW t.data.toList ∧ t.size ≤ s.size ∧ J pre wr)
    (fun p _ => match p with | .string t => t.size | _ => 0)
  case atStart =>
    exact ⟨[], xs, s, rfl, rfl, hxs, Nat.le_refl _, h0⟩
  case round =>
    obtain ⟨pre, rest, t, rfl, hx, hl, ht, hJs⟩ := hrel
    by_cases h0 : t.size = 0
    · have hte := toList_nil h0
      have he : t.data.toList = [] := List.length_eq_zero_iff.1 (by simpa using h0)
      gi_wp2
      go_end0
      rw [he, itW_nil] at hl
      exact ⟨⟨_, rfl⟩, .inl ⟨pre, by simp [hx, List.map_eq_nil_iff.1 hl], hJs⟩⟩
    · have hte := toList_cons h0
      have hne : t.data.toList ≠ [] := fun e => h0 (by have := congrArg List.length e; simpa using this)
      have hl2 := hl
      rw [itW_step hne] at hl2
      have hcl := cut_len hne
      have hCut := fun w => cut_one t 32 w (by omega)
      obtain ⟨b, hb⟩ : ∃ b, (Lib.cut t.data.toList [32]).2.1 = b := ⟨_, rfl⟩
      obtain ⟨fl, hfl⟩ : ∃ b, (Lib.cut t.data.toList [32]).2.2 = b := ⟨_, rfl⟩
      cases rest with
      | nil => simp at hl2
      | cons x rest =>
        simp only [List.map_cons, List.cons.injEq] at hl2
        obtain ⟨hfx, hrest⟩ := hl2
        rw [← hfx, hb, hfl] at hCut
        rw [hb] at hrest hcl
        have HC := hide hCut
        have hlen : pre.length < xs.length := by rw [hx]; simp
        have hbs : (⟨b.toArray⟩ : ByteArray).size < t.size := by
          have e1 : (⟨b.toArray⟩ : ByteArray).size = b.length := by simp [ByteArray.size]
          have e2 : t.data.toList.length = t.size := by simp
          omega
        have hJk : ∀ k, J pre (wr.drewN k) := fun k => hJ pre wr _ none hJs (grown_drewN wr k) (fun r e => by cases e)
        have hXX := hide hx
        have HF := hide (show True ∧ Lib.cut t.data.toList [32] = Lib.cut t.data.toList [32] from ⟨trivial, rfl⟩)
        clear hCut hx hl hfx hcl hb hfl h0 hne
        gi_wp2_with (refine ⟨trivial, ?_⟩; gi_at_call 215; refine (callsIn_wide.2 (HC.out _)).mono ?_; rintro e w2 ⟨rfl, k, rfl⟩; obtain ⟨fn, tmps, assign, body, hy, hR⟩ := hY pre x _ (hJk k) hlen)
        refine hR.mono ?_
        rintro e W3 (⟨rfl, hJ3, hk3⟩ | ⟨rfl, hJx3⟩)
        · gi_wp2
          go_roundw
          case rel => exact ⟨pre ++ [x], rest, ⟨b.toArray⟩, rfl, by rw [hXX.out]; simp, by rw [hrest], by omega, hJ3⟩
          case measure => exact hbs
        · gi_wp2
          refine bodyPost_ret (results_none rfl _ _ _) rfl ?_
          exact ⟨⟨_, rfl⟩, .inr ⟨pre ++ [x], ⟨rest, by rw [hXX.out]; simp⟩, hJx3⟩⟩

/-- The iterator's contract for a loop that goes through all. -/
theorem wordsIter_gives (s : ByteArray) (hs : s.size ≤ 1048576) (n : Nat) (hn : 1 ≤ n) (Bm : Nat) (w : World) (hB : Bm < w.heap.size) (hm : w.cell? ⟨Bm, 0, none⟩ = some (.string s)) :
    SeqGives Fence.wide n Tryz.prog 214 #[.pointer (some ⟨Bm, 0, none⟩)] encStr (fun ss => ss = itW s.data.toList) (itW s.data.toList).length w := fun l J W hW hJ hY h0 => by
  refine (wordsIter_in (fun x => x) s (itW s.data.toList) (by simp) hs n hn l Bm J (fun _ _ => False) (fun pre x W1 h1 h2 => ?_) W hJ ((hW.cell (p := ⟨Bm, 0, none⟩) hB).trans hm) h0).mono ?_
  · obtain ⟨fn, tmps, assign, body, hy, hR⟩ := hY pre x W1 h1 h2
    exact ⟨fn, tmps, assign, body, hy, hR.mono fun e W' h => .inl h⟩
  · rintro e W' ⟨hv, (⟨ys, rfl, hJ'⟩ | ⟨pre, _, h⟩)⟩
    · exact ⟨hv, _, rfl, hJ'⟩
    · exact h.elim
end Go.Proofs.YtngondeaeipcfaaGreatDoor

namespace Go.Proofs
open Go Go.RowKit Go.Shelf Go.Sort
namespace YtngondeaeipcfaaGreatDoor
end YtngondeaeipcfaaGreatDoor
end Go.Proofs

namespace Go.Proofs.YtngondeaeipcfaaGreatDoor
open Go Go.RowKit Go.Shelf Go.Sort

abbrev bas (ss : List (List UInt8)) : List ByteArray := ss.map fun x => ⟨x.toArray⟩
/-- Texts and a code come back, the texts in memory of the call's own. -/
def StrsBack (xs : List ByteArray) (code : Int) (w : World) : Ending → World → Prop := fun e w' =>
  ∃ A c, e = .returned (.tuple #[.slice A xs.length c, .int .i64 code]) ∧ StrsIn w' w.heap.size A xs ∧ Below w.heap.size w w'
noncomputable def woX (L : List UInt8) : List ByteArray := if vtext L = true then bas (wordsL L) else []
noncomputable def woC (L : List UInt8) : Int := if vtext L = true then 0 else 1
theorem wo_no {L : List UInt8} (h : vtext L = false) : woX L = [] ∧ woC L = 1 := by
  unfold woX woC; rw [h]; exact ⟨rfl, rfl⟩
theorem wo_ok {L : List UInt8} (h : vtext L = true) : woX L = bas (wordsL L) ∧ woC L = 0 := by
  unfold woX woC; rw [if_pos h, if_pos h]; exact ⟨rfl, rfl⟩
theorem StrsIn.wider {w : World} {L L' : Nat} {A : Option Addr} {xs : List ByteArray} (h : StrsIn w L A xs) (hL : L' ≤ L) : StrsIn w L' A xs :=
  fun hn => by obtain ⟨b, o, e, h1, h2⟩ := h hn; exact ⟨b, o, e, by omega, h2⟩
theorem StrsIn.go {w w' : World} {L : Nat} {A : Option Addr} {xs : List ByteArray} (h : StrsIn w L A xs) (hb : Below w.heap.size w w') : StrsIn w' L A xs := fun hn => by
  obtain ⟨b, o, e, h1, h2, h3, h4⟩ := h hn
  exact ⟨b, o, e, h1, Nat.lt_of_lt_of_le h2 hb.size, fun k x hx => (hb.cell (p := ⟨b, o + k, none⟩) h2).trans (h3 k x hx), grown_there (r := none) (grown_below hb) h4 h2 (by simp)⟩
theorem StrsIn.empty (w : World) (L : Nat) (A : Option Addr) : StrsIn w L A [] := fun h => (h rfl).elim

set_option maxRecDepth 100000 in
set_option maxHeartbeats 2000000 in
theorem l01Words_any (s : ByteArray) (w : World) (hs : s.size ≤ 1048576) :
    Calls Tryz.prog 109 #[.string s] w fun e w' => ∃ A c, e = .returned (.slice A (bas (wordsL s.data.toList)).length c) ∧ StrsIn w' w.heap.size A (bas (wordsL s.data.toList)) ∧ Below w.heap.size w w' := by
  have hsp := l01Split_any s w hs
  by_cases h0 : s.size = 0
  · have hte := toList_nil h0
    have he : s.data.toList = [] := List.length_eq_zero_iff.1 (by simpa using h0)
    have hw : wordsL s.data.toList = [] := by rw [he]; rfl
    rw [hw]
    clear he hw hsp h0
    go_enter Tryz.func109, Tryz.ntmps109
    go_wp2
    go_ret
    exact ⟨_, _, rfl, StrsIn.empty _ _ _, (Below.refl _ _).alloc (Nat.le_refl _) _⟩
  · have hte := toList_cons h0
    have hne : s.data.toList ≠ [] := fun e => h0 (by have := congrArg List.length e; simpa using this)
    have hw : wordsL s.data.toList = splitL s.data.toList := by unfold wordsL; rw [if_neg hne]
    rw [hw]
    have HSP := hide hsp
    clear hne hw hsp h0
    go_enter Tryz.func109, Tryz.ntmps109
    go_wp2_with (go_at_call 208; refine HSP.out.mono ?_; rintro e w1 ⟨A, c, rfl, hc, hP, hb⟩)
    go_ret
    exact ⟨A, c, by rw [List.length_map]; rfl, hP, hb⟩

set_option maxRecDepth 100000 in
set_option maxHeartbeats 2000000 in
theorem specWordsOf_any (s : ByteArray) (w : World) (hs : s.size ≤ 1048576) :
    Calls Tryz.prog 15 #[.string s] w (StrsBack (woX s.data.toList) (woC s.data.toList) w) := by
  have HT := hide (l01Text_any s w (by unfold maxLen; omega))
  have HW := hide (l01Words_any s w hs)
  cases hv : vtext s.data.toList
  · obtain ⟨e1, e2⟩ := wo_no hv
    rw [hv] at HT
    rw [e1, e2]
    clear e1 e2 hv HW
    go_enter Tryz.func15, Tryz.ntmps15
    go_wp2_with (go_at_call 112; refine HT.out.mono ?_; rintro e w' ⟨rfl, rfl⟩)
    go_ret2
    exact ⟨_, _, rfl, StrsIn.empty _ _ _, (Below.refl _ _).alloc (Nat.le_refl _) _⟩
  · obtain ⟨e1, e2⟩ := wo_ok hv
    rw [hv] at HT
    rw [e1, e2]
    clear e1 e2 hv
    go_enter Tryz.func15, Tryz.ntmps15
    go_wp2_with (first | (go_at_call 112; refine HT.out.mono ?_; rintro e w' ⟨rfl, rfl⟩) | (go_at_call 109; refine HW.out.mono ?_; rintro e w1 ⟨A, c, rfl, hP, hb⟩))
    go_ret2
    exact ⟨A, c, by rw [List.length_map]; rfl, hP, hb⟩

theorem wordsIn_any (s : ByteArray) (w : World) :
    Calls Tryz.prog 120 #[.string s] w fun e w' => e = .returned (.func (.func 214) #[] #[.pointer (some ⟨w.heap.size, 0, none⟩)]) ∧ Hid (w.heap.size < w'.heap.size ∧ w'.cell? ⟨w.heap.size, 0, none⟩ = some (.string s)) ∧ Below w.heap.size w w' := by
  go_enter Tryz.func120, Tryz.ntmps120
  go_wp2
  go_ret
  exact ⟨rfl, ⟨by simp, by simp⟩, (Below.refl _ _).alloc (Nat.le_refl _) _⟩

theorem wordsL_len (L : List UInt8) : (wordsL L).length ≤ L.length + 1 := by
  unfold wordsL; split
  · simp
  · exact splitL_len L
theorem woX_len (L : List UInt8) : (woX L).length ≤ L.length + 1 := by
  unfold woX; split
  · rw [List.length_map]; exact wordsL_len L
  · simp

end Go.Proofs.YtngondeaeipcfaaGreatDoor

namespace Go.Proofs.YtngondeaeipcfaaGreatDoor
open Go Go.RowKit

theorem bas_get {ws : List (List UInt8)} {k : Nat} (hk : k < ws.length) : (bas ws)[k]? = some ⟨(ws.getD k []).toArray⟩ := by
  rw [List.getElem?_map, List.getD_eq_getElem?_getD, List.getElem?_eq_getElem hk]; rfl

theorem lineTo_succ (F : Fc) (ws : List (List UInt8)) (k : Nat) : lineTo F ws (k + 1) = lineTo F ws k + wideL F (ws.getD k []) + (if k = 0 then 0 else F.sp) := rfl

set_option maxRecDepth 100000 in
set_option maxHeartbeats 4000000 in
theorem l01Line_any (F : Fc) (hF : F.ok) (b : Nat) (A : Option Addr) (c : Nat) (ws : List (List UInt8)) (A2 : Option Addr) (c2 : Nat) (w : World) (hv : vface F = true) (hw : ∀ x ∈ ws, x.length ≤ 60 ∧ allCap x) (hn : ws.length ≤ 61)
    (hr : w.rangeAt b 0 (fc F (.slice A F.ps.length c))) (hb : b < w.heap.size) (hA : PairsAt w w.heap.size A F.ps) (hS : StrsAt w w.heap.size A2 (bas ws)) :
    Calls Tryz.prog 108 #[.pointer (some ⟨b, 0, none⟩), .slice A2 ws.length c2] w fun e w' => e = .returned (.int .i64 (lineL F ws)) ∧ Below w.heap.size w w' := by
  have hW := hide hF.len
  have x26 := rangeAt_cell hr (fc_sp hW.out _)
  have HBD := hide (fun k hk => lineTo_bd hF hv hw k hk)
  obtain ⟨sp1, sp2⟩ := sp_bd hv
  have HWB := hide (fun (k : Nat) (hk : k < ws.length) => wideL_bd hF hv (hw _ (getD_mem hk)).2 (hw _ (getD_mem hk)).1)
  have HL1 := hide (fun (k : Nat) (hk : k < ws.length) (W : World) (hB : Below w.heap.size w W) => l01Wide_any F hF b A c ⟨(ws.getD k []).toArray⟩ W hv (hw _ (getD_mem hk)).2 (by simpa [ByteArray.size] using (hw _ (getD_mem hk)).1) (rangeAt_below hr hB hb) ((hA.below hB).mono hB.size))
  have HLL := hide (show lineL F ws = lineTo F ws ws.length from rfl)
  have HBG := hide (fun (k : Nat) (hk : k < ws.length) => bas_get hk)
  generalize hL : ws.length = n at *
  clear hA hw hL
  go_enter Tryz.func108, Tryz.ntmps108
  go_wp2
  go_loopw [5, 6] (fun t i wr => ∃ k : Nat, k ≤ n ∧ i = .int .i64 k ∧ t = .int .i64 (lineTo F ws k) ∧ Below w.heap.size w wr)
    (fun _ i _ => n - (intOf i).toNat)
  case atStart => exact ⟨0, by omega, rfl, rfl, Below.refl _ _⟩
  case round =>
    obtain ⟨k, hk, rfl, rfl, hB⟩ := hrel
    by_cases hlt : k < n
    · have hi : (k : Int) < n := by omega
      have h0 : (0 : Int) ≤ k := by omega
      have hne : bas ws ≠ [] := by intro e; have := HBG.out k hlt; rw [e] at this; cases this
      obtain ⟨b2, o2, rfl, hb2, hps⟩ := hS hne
      have cw : wr.cell? ⟨b2, o2 + k, none⟩ = some (.string ⟨(ws.getD k []).toArray⟩) := (hB.cell (p := ⟨b2, o2 + k, none⟩) hb2).trans (hps k _ (HBG.out k hlt))
      have cs : wr.cell? ⟨b, 0 + 26, none⟩ = some (.int .i8 F.sp) := (hB.cell (p := ⟨b, 0 + 26, none⟩) hb).trans x26
      obtain ⟨l1, l2⟩ := HWB.out k hlt
      obtain ⟨t1, t2⟩ := HBD.out k (by omega)
      have e2 := IntWalk.i64_in (lineTo F ws k + wideL F (ws.getD k [])) ⟨by omega, by omega⟩
      have e3 := IntWalk.i64_in (lineTo F ws k + wideL F (ws.getD k []) + F.sp) ⟨by omega, by omega⟩
      have e4 := IntWalk.i64_in F.sp ⟨by omega, by omega⟩
      have HW1 := hide (HL1.out k hlt wr hB)
      clear hps hne
      have hst := lineTo_succ F ws k
      generalize ws.getD k [] = x at cw l1 l2 e2 e3 HW1 hst
      by_cases hk0 : k = 0
      · have hd : decide ((0 : Int) < k) = false := by simp; omega
        have hd' : decide (0 < k) = false := by simp; omega
        rw [if_pos hk0, Int.add_zero] at hst
        have HT := hide hst
        clear hst hk0 l1 l2 t1 t2 e3 e4
        go_wp2_with (go_at_call 122; refine HW1.out.mono ?_; rintro e w1 ⟨rfl, hb1⟩)
        exact ⟨⟨k + 1, by omega, by go_num, by rw [HT.out], hB.trans (hb1.mono hB.size)⟩, by simp [intOf]; omega⟩
      · have hd : decide ((0 : Int) < k) = true := by simp; omega
        have hd' : decide (0 < k) = true := by simp; omega
        rw [if_neg hk0] at hst
        have HT := hide hst
        have hbs := hB.size
        clear hst hk0 l1 l2 t1 t2
        go_wp2_with (go_at_call 122; refine HW1.out.mono ?_; rintro e w1 ⟨rfl, hb1⟩; have cs1 := (hb1.cell (p := ⟨b, 0 + 26, none⟩) (Nat.lt_of_lt_of_le hb hbs)).trans cs; simp only [Nat.zero_add] at cs1)
        exact ⟨⟨k + 1, by omega, by go_num, by rw [HT.out], hB.trans (hb1.mono hB.size)⟩, by simp [intOf]; omega⟩
    · obtain rfl : k = n := by omega
      have hz := HLL.out
      have HZ := hide hz.symm
      clear hz
      go_wp2
      go_ret
      exact ⟨ret_int HZ.out, hB⟩

noncomputable def askC (F : Fc) (L : List UInt8) (fine : Bool) : Int := if vface F = true ∧ vtext L = true then (if fine = true then 0 else 2) else 1
theorem ask_no {F : Fc} {L : List UInt8} {fine : Bool} (h : ¬ (vface F = true ∧ vtext L = true)) : askC F L fine = 1 := by unfold askC; rw [if_neg h]
theorem ask_ok {F : Fc} {L : List UInt8} {fine : Bool} (h1 : vface F = true) (h2 : vtext L = true) : askC F L fine = if fine = true then 0 else 2 := by unfold askC; rw [if_pos ⟨h1, h2⟩]

set_option maxRecDepth 100000 in
set_option maxHeartbeats 4000000 in
theorem l01Asked_any (F : Fc) (hF : F.ok) (b : Nat) (A : Option Addr) (c : Nat) (s : ByteArray) (fine : Bool) (w : World) (hs : s.size ≤ maxLen) (hr : w.rangeAt b 0 (fc F (.slice A F.ps.length c))) (hA : PairsAt w w.heap.size A F.ps) :
    Calls Tryz.prog 107 #[.pointer (some ⟨b, 0, none⟩), .string s, .bool fine] w fun e w' => e = .returned (.int .i64 (askC F s.data.toList fine)) ∧ Below w.heap.size w w' := by
  have HC := hide (l01Face_any F hF _ A c _ hr hA)
  have HT := hide (fun w => l01Text_any s w hs)
  generalize hR : askC F s.data.toList fine = R
  have HR := hide hR
  clear hR hA hr
  cases hv : vface F
  · have HP := hide (ask_no (F := F) (L := s.data.toList) (fine := fine) (fun e => by rw [hv] at e; cases e.1))
    go_enter Tryz.func107, Tryz.ntmps107
    go_wp2_with (go_at_call 124; refine HC.out.mono ?_; rintro e w1 ⟨rfl, hb1⟩; simp only [hv])
    go_ret
    exact ⟨ret_int (HP.out.symm.trans HR.out), hb1⟩
  · cases ht : vtext s.data.toList
    · have HP := hide (ask_no (F := F) (L := s.data.toList) (fine := fine) (fun e => by rw [ht] at e; cases e.2))
      go_enter Tryz.func107, Tryz.ntmps107
      go_wp2_with (first | (go_at_call 124; refine HC.out.mono ?_; rintro e w1 ⟨rfl, hb1⟩; simp only [hv]) | (go_at_call 112; refine (HT.out _).mono ?_; rintro e w' ⟨rfl, rfl⟩; simp only [ht]))
      go_ret
      exact ⟨ret_int (HP.out.symm.trans HR.out), hb1⟩
    · have HP := hide (ask_ok (fine := fine) hv ht)
      cases fine
      · go_enter Tryz.func107, Tryz.ntmps107
        go_wp2_with (first | (go_at_call 124; refine HC.out.mono ?_; rintro e w1 ⟨rfl, hb1⟩; simp only [hv]) | (go_at_call 112; refine (HT.out _).mono ?_; rintro e w' ⟨rfl, rfl⟩; simp only [ht]))
        go_ret
        exact ⟨ret_int (HP.out.symm.trans HR.out), hb1⟩
      · go_enter Tryz.func107, Tryz.ntmps107
        go_wp2_with (first | (go_at_call 124; refine HC.out.mono ?_; rintro e w1 ⟨rfl, hb1⟩; simp only [hv]) | (go_at_call 112; refine (HT.out _).mono ?_; rintro e w' ⟨rfl, rfl⟩; simp only [ht]))
        go_ret
        exact ⟨ret_int (HP.out.symm.trans HR.out), hb1⟩

noncomputable def lnV (F : Fc) (L : List UInt8) : Int := if vface F = true ∧ vtext L = true then lineL F (wordsL L) else 0
noncomputable def lnC (F : Fc) (L : List UInt8) : Int := if vface F = true ∧ vtext L = true then 0 else 1
theorem ln_no {F : Fc} {L : List UInt8} (h : ¬ (vface F = true ∧ vtext L = true)) : lnV F L = 0 ∧ lnC F L = 1 ∧ askC F L true = 1 := by unfold lnV lnC askC; rw [if_neg h, if_neg h, if_neg h]; exact ⟨rfl, rfl, rfl⟩
theorem ln_ok {F : Fc} {L : List UInt8} (h1 : vface F = true) (h2 : vtext L = true) : lnV F L = lineL F (wordsL L) ∧ lnC F L = 0 ∧ askC F L true = 0 := by
  unfold lnV lnC askC; rw [if_pos ⟨h1, h2⟩, if_pos ⟨h1, h2⟩, if_pos ⟨h1, h2⟩]; exact ⟨rfl, rfl, rfl⟩

set_option maxRecDepth 100000 in
set_option maxHeartbeats 4000000 in
theorem specLineWide_any (F : Fc) (hF : F.ok) (A : Option Addr) (c : Nat) (s : ByteArray) (hs : s.size ≤ maxLen) (w : World) (hA : PairsAt w w.heap.size A F.ps) :
    Calls Tryz.prog 12 #[.agg (fc F (.slice A F.ps.length c)).toArray, .string s] w fun e w' => e = .returned (.tuple #[.int .i64 (lnV F s.data.toList), .int .i64 (lnC F s.data.toList)]) ∧ Below w.heap.size w w' := by
  have hr := rangeAt_new w (fc F (.slice A F.ps.length c)) 28
  have hb : Below w.heap.size w (w.alloc (.cells (fc F (.slice A F.ps.length c)).toArray 28)) := (Below.refl _ _).alloc (Nat.le_refl _) _
  have hs0 : w.heap.size < (w.alloc (.cells (fc F (.slice A F.ps.length c)).toArray 28)).heap.size := by simp
  have BA := hA.below hb
  have HC := hide (l01Asked_any F hF _ A c s true _ hs hr (BA.mono hb.size))
  generalize hv1 : lnV F s.data.toList = V
  generalize hv2 : lnC F s.data.toList = C
  have H1 := hide hv1
  have H2 := hide hv2
  clear hA hv1 hv2
  by_cases hok : vface F = true ∧ vtext s.data.toList = true
  · obtain ⟨p1, p2, p3⟩ := ln_ok hok.1 hok.2
    rw [p3] at HC
    have HP := hide (p1.symm.trans H1.out)
    have HP2 := hide (p2.symm.trans H2.out)
    have hwl := words_len hok.2
    have hs60 : s.size ≤ 1048576 := by have := (vtext_true.1 hok.2).1; simp at this; omega
    have HW := hide (fun w => l01Words_any s w hs60)
    clear hs60
    have HL := hide (fun b A2 c2 w => l01Line_any F hF b A c (wordsL s.data.toList) A2 c2 w hok.1 (fun x hx => words_mem hok.2 hx) hwl)
    clear p1 p2 p3 hok
    go_enter Tryz.func12, Tryz.ntmps12
    go_wp2_with fail
    refine HC.out.mono ?_
    rintro e w1 ⟨rfl, hb1⟩
    have hB1 := hb.trans (hb1.mono hb.size)
    go_wp2_with fail
    refine (HW.out w1).mono ?_
    rintro e w2 ⟨A2, c2, rfl, hP2, hb2⟩
    have hB2 := hB1.trans (hb2.mono hB1.size)
    have hb12 := hb1.trans (hb2.mono hb1.size)
    have hlb : (bas (wordsL s.data.toList)).length = (wordsL s.data.toList).length := List.length_map _
    rw [hlb]
    go_wp2_with fail
    refine (HL.out w.heap.size A2 _ w2 (rangeAt_below hr hb12 hs0) (Nat.lt_of_lt_of_le hs0 hb12.size) ((BA.below (hb12.mono hb.size)).mono hB2.size) hP2.at_).mono ?_
    rintro e w3 ⟨rfl, hb3⟩
    go_wp2
    go_ret2
    exact ⟨ret_ii HP.out HP2.out, hB2.trans (hb3.mono hB2.size)⟩
  · obtain ⟨p1, p2, p3⟩ := ln_no hok
    rw [p3] at HC
    have HP := hide (p1.symm.trans H1.out)
    have HP2 := hide (p2.symm.trans H2.out)
    clear p1 p2 p3 hok
    go_enter Tryz.func12, Tryz.ntmps12
    go_wp2_with fail
    refine HC.out.mono ?_
    rintro e w1 ⟨rfl, hb1⟩
    go_wp2
    go_ret2
    exact ⟨ret_ii HP.out HP2.out, hb.trans (hb1.mono hb.size)⟩
end Go.Proofs.YtngondeaeipcfaaGreatDoor
