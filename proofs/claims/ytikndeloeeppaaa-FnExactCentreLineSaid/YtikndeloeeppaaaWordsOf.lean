/- WordsOf of the model and of the program. -/
import Derived.Test.YtikndeloeeppaaaSplit
import Derived.Test.YtikndeloeeppaaaCollect
namespace Go.Proofs.Ytikndeloeeppaaa
open Go Go.RowKit Go.Shelf Go.Sort

abbrev bas (ss : List (List UInt8)) : List ByteArray := ss.map fun x => ⟨x.toArray⟩
/-- Texts and a code come back, the texts in memory of the call's own. -/
def StrsBack (xs : List ByteArray) (code : Int) (w : World) : Ending → World → Prop := fun e w' =>
  ∃ A c, e = .returned (.tuple #[.slice A xs.length c, .int .i64 code]) ∧ StrsIn w' w.heap.size A xs ∧ Below w.heap.size w w'
noncomputable def woX (L : List UInt8) : List ByteArray := if vtext L = true then bas (wordsL L) else []
noncomputable def woC (L : List UInt8) : Int := if vtext L = true then 0 else 1
theorem wo_no {L : List UInt8} (h : vtext L = false) : woX L = [] ∧ woC L = 1 := by
  unfold woX woC; rw [h]; exact ⟨rfl, rfl⟩
theorem wo_ok {L : List UInt8} (h : vtext L = true) : woX L = bas (wordsL L) ∧ woC L = 0 := by
  unfold woX woC; rw [if_pos h, if_pos h]; exact ⟨rfl, rfl⟩
theorem StrsIn.wider {w : World} {L L' : Nat} {A : Option Addr} {xs : List ByteArray} (h : StrsIn w L A xs) (hL : L' ≤ L) : StrsIn w L' A xs :=
  fun hn => by obtain ⟨b, o, e, h1, h2⟩ := h hn; exact ⟨b, o, e, by omega, h2⟩
theorem StrsIn.go {w w' : World} {L : Nat} {A : Option Addr} {xs : List ByteArray} (h : StrsIn w L A xs) (hb : Below w.heap.size w w') : StrsIn w' L A xs := fun hn => by
  obtain ⟨b, o, e, h1, h2, h3, h4⟩ := h hn
  exact ⟨b, o, e, h1, Nat.lt_of_lt_of_le h2 hb.size, fun k x hx => (hb.cell (p := ⟨b, o + k, none⟩) h2).trans (h3 k x hx), grown_there (r := none) (grown_below hb) h4 h2 (by simp)⟩
theorem mark1_any (A : Option Addr) (xs : List ByteArray) (c L : Nat) (w : World) (hn : xs.length ≤ 2097152) (hP : StrsIn w L A xs) :
    Calls Try.prog 56 #[.slice A xs.length c, .int .i64 1] w fun e w' => e = .returned (.int .i64 ((1 + xs.length : Nat) : Int)) ∧ w.grownBy w' (blkS A xs) ∧ StrsIn w' L A (marksS 1 xs.length) :=
  markStringS_any A xs c 1 L w (by omega) hn hP
theorem held1_any (A : Option Addr) (n c L : Nat) (w : World) (hn : n ≤ 2097152) (hP : StrsIn w L A (marksS 1 n)) :
    Calls Try.prog 57 #[.slice A n c, .int .i64 1] w fun e w' => e = .returned (.int .i64 ((1 + n : Nat) : Int)) ∧ Below w.heap.size w w' :=
  heldStringS_any A n c 1 w (by omega) hn hP.at_
theorem StrsIn.empty (w : World) (L : Nat) (A : Option Addr) : StrsIn w L A [] := fun h => (h rfl).elim

set_option maxRecDepth 100000 in
set_option maxHeartbeats 2000000 in
theorem l01Words_any (s : ByteArray) (w : World) (hs : s.size ≤ 1048576) :
    Calls Try.prog 97 #[.string s] w fun e w' => ∃ A c, e = .returned (.slice A (bas (wordsL s.data.toList)).length c) ∧ StrsIn w' w.heap.size A (bas (wordsL s.data.toList)) ∧ Below w.heap.size w w' := by
  have hsp := l01Split_any s w hs
  by_cases h0 : s.size = 0
  · have hte := toList_nil h0
    have he : s.data.toList = [] := List.length_eq_zero_iff.1 (by simpa using h0)
    have hw : wordsL s.data.toList = [] := by rw [he]; rfl
    rw [hw]
    clear he hw hsp h0
    go_enter Try.func97, Try.ntmps97
    go_wp2
    go_ret
    exact ⟨_, _, rfl, StrsIn.empty _ _ _, (Below.refl _ _).alloc (Nat.le_refl _) _⟩
  · have hte := toList_cons h0
    have hne : s.data.toList ≠ [] := fun e => h0 (by have := congrArg List.length e; simpa using this)
    have hw : wordsL s.data.toList = splitL s.data.toList := by unfold wordsL; rw [if_neg hne]
    rw [hw]
    have HSP := hide hsp
    clear hne hw hsp h0
    go_enter Try.func97, Try.ntmps97
    go_wp2_with (go_at_call 167; refine HSP.out.mono ?_; rintro e w1 ⟨A, c, rfl, hc, hP, hb⟩)
    go_ret
    exact ⟨A, c, by rw [List.length_map]; rfl, hP, hb⟩

set_option maxRecDepth 100000 in
set_option maxHeartbeats 2000000 in
theorem collect_words (s : ByteArray) (hs : s.size ≤ 1048576) (Bm : Nat) (w : World) (hB : Bm < w.heap.size) (hm : w.cell? ⟨Bm, 0, none⟩ = some (.string s)) :
    Calls Try.prog 149 #[.func (.func 171) #[] #[.pointer (some ⟨Bm, 0, none⟩)]] w fun e w' => ∃ A c, e = .returned (.slice A (bas (itW s.data.toList)).length c) ∧ StrsIn w' w.heap.size A (bas (itW s.data.toList)) ∧ Below w.heap.size w w' := by
  have hlen := itW_len s.data.toList.length s.data.toList (Nat.le_refl _)
  have hL : s.data.toList.length = s.size := by simp
  refine (callsIn_wide (n := 4)).1 ?_
  refine (AnyZ.collect_in Ytikndeloeeppaaa.zlays Fence.wide 4 trivial trivial rfl (by omega) 171 _ trivial (enters_of Try.func171 (by kernel_rfl) rfl) _ (itW s.data.toList).length (by unfold maxLen; omega) (by omega) w
    (wordsIter_gives s hs (4 - 1 - 1) (by omega) Bm w hB hm)).mono ?_
  rintro e w' ⟨v, ss, rfl, rfl, hrow, _, hb⟩
  obtain ⟨A, c, rfl, _, hP⟩ := strsIn_of_own hrow rfl
  exact ⟨A, c, by rw [List.length_map], hP, hb⟩

theorem wordsIn_any (s : ByteArray) (w : World) :
    Calls Try.prog 101 #[.string s] w fun e w' => e = .returned (.func (.func 171) #[] #[.pointer (some ⟨w.heap.size, 0, none⟩)]) ∧ Hid (w.heap.size < w'.heap.size ∧ w'.cell? ⟨w.heap.size, 0, none⟩ = some (.string s)) ∧ Below w.heap.size w w' := by
  go_enter Try.func101, Try.ntmps101
  go_wp2
  go_ret
  exact ⟨rfl, ⟨by simp, by simp⟩, (Below.refl _ _).alloc (Nat.le_refl _) _⟩

set_option maxRecDepth 100000 in
set_option maxHeartbeats 2000000 in
theorem implWordsOf_any (s : ByteArray) (w : World) (hs : s.size ≤ 1048576) :
    Calls Try.prog 123 #[.string s] w (StrsBack (woX s.data.toList) (woC s.data.toList) w) := by
  have HT := hide (implValidText_any s w (by unfold maxLen; omega))
  have HC := hide (collect_words s hs)
  cases hv : vtext s.data.toList
  · obtain ⟨e1, e2⟩ := wo_no hv
    rw [hv] at HT
    rw [e1, e2]
    clear e1 e2 hv HC
    go_enter Try.func123, Try.ntmps123
    go_wp2_with (go_at_call 98; refine HT.out.mono ?_; rintro e w' ⟨rfl, hb⟩)
    go_ret2
    exact ⟨_, _, rfl, StrsIn.empty _ _ _, hb⟩
  · obtain ⟨e1, e2⟩ := wo_ok hv
    rw [itW_words hv] at HC
    rw [hv] at HT
    rw [e1, e2]
    clear e1 e2 hv
    go_enter Try.func123, Try.ntmps123
    go_wp2_with (first | (go_at_call 98; refine HT.out.mono ?_; rintro e w' ⟨rfl, hb⟩) | (go_at_call 101; refine (wordsIn_any s _).mono ?_; rintro e w1 ⟨rfl, HB1, hb1⟩) | (go_at_call 149; refine (HC.out _ _ HB1.out.1 HB1.out.2).mono ?_; rintro e w2 ⟨A, c, rfl, hP, hb2⟩))
    go_ret2
    have hB1 := hb.trans (hb1.mono hb.size)
    exact ⟨A, c, by rw [List.length_map]; rfl, hP.wider hB1.size, hB1.trans (hb2.mono hB1.size)⟩

theorem wordsL_len (L : List UInt8) : (wordsL L).length ≤ L.length + 1 := by
  unfold wordsL; split
  · simp
  · exact splitL_len L
theorem woX_len (L : List UInt8) : (woX L).length ≤ L.length + 1 := by
  unfold woX; split
  · rw [List.length_map]; exact wordsL_len L
  · simp

end Go.Proofs.Ytikndeloeeppaaa
