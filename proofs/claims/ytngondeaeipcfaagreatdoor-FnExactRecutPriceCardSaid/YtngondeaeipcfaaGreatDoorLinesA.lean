/- Where the words of a text are, if it is one line: the program's spans. · What is left of a width beside some words, and whether they fit: the program's. · The words of a text that is asked with a width: the program's. · Greedy breaks: the program's. · GreedyBreaks and FewestLines of the program. · GreedyBreaks and FewestLines of the model. -/
import Derived.Test.YtngondeaeipcfaaGreatDoorImplLine
import Derived.Test.YtngondeaeipcfaaGreatDoorG2
import Derived.Test.YtngondeaeipcfaaGreatDoorCen

namespace Go.Proofs.YtngondeaeipcfaaGreatDoor
open Go Go.RowKit Go.Shelf Go.Sort
attribute [local go_sem] Oper.semAt_some

/-- The cells of the spans, from p on. -/
def spanFrom (F : Fc) (p : Int) : List (List UInt8) → List Value
  | [] => []
  | x :: r => .int .i64 p :: .int .i64 (p + wideL F x) :: spanFrom F (p + wideL F x + F.sp) r
/-- Where the next word begins. -/
def endFrom (F : Fc) (p : Int) : List (List UInt8) → Int
  | [] => p
  | x :: r => endFrom F (p + wideL F x + F.sp) r
theorem spanFrom_len (F : Fc) : ∀ (ws : List (List UInt8)) (p : Int), (spanFrom F p ws).length = ws.length * 2
  | [], _ => rfl
  | x :: r, p => by have := spanFrom_len F r (p + wideL F x + F.sp); simp only [spanFrom, List.length_cons, this]; omega
theorem spanFrom_snoc (F : Fc) : ∀ (ws : List (List UInt8)) (p : Int) (x : List UInt8), spanFrom F p (ws ++ [x]) = spanFrom F p ws ++ [.int .i64 (endFrom F p ws), .int .i64 (endFrom F p ws + wideL F x)]
  | [], _, _ => rfl
  | y :: r, p, x => by have := spanFrom_snoc F r (p + wideL F y + F.sp) x; simp only [List.cons_append, spanFrom, endFrom, this]
theorem endFrom_snoc (F : Fc) : ∀ (ws : List (List UInt8)) (p : Int) (x : List UInt8), endFrom F p (ws ++ [x]) = endFrom F p ws + wideL F x + F.sp
  | [], _, _ => rfl
  | y :: r, p, x => by have := endFrom_snoc F r (p + wideL F y + F.sp) x; simp only [List.cons_append, endFrom, this]
theorem preL_cons (F : Fc) (x : List UInt8) (r : List (List UInt8)) : ∀ k, preL F (x :: r) (k + 1) = wideL F x + F.sp + preL F r k
  | 0 => by simp [preL]
  | k + 1 => by have := preL_cons F x r k; rw [preL, this]; simp only [preL, List.getD_cons_succ]; omega
theorem spanFrom_get (F : Fc) : ∀ (ws : List (List UInt8)) (p : Int) (k : Nat), k < ws.length → (spanFrom F p ws)[2 * k]? = some (.int .i64 (p + preL F ws k)) ∧ (spanFrom F p ws)[2 * k + 1]? = some (.int .i64 (p + preL F ws k + wideL F (ws.getD k [])))
  | [], _, _, h => by simp at h
  | x :: r, p, 0, _ => by simp [spanFrom, preL]
  | x :: r, p, k + 1, h => by
    have ih := spanFrom_get F r (p + wideL F x + F.sp) k (by simpa using h)
    have e1 : 2 * (k + 1) = 2 * k + 1 + 1 := by omega
    have e2 : 2 * (k + 1) + 1 = (2 * k + 1) + 1 + 1 := by omega
    rw [e2, e1, preL_cons]
    simp only [spanFrom, List.getElem?_cons_succ, List.getD_cons_succ, ih.1, ih.2]
    constructor <;> (congr 2; omega)
theorem endFrom_pre (F : Fc) : ∀ (ws : List (List UInt8)) (p : Int), endFrom F p ws = p + preL F ws ws.length
  | [], p => by simp [endFrom, preL]
  | x :: r, p => by rw [endFrom, endFrom_pre F r, List.length_cons, preL_cons]; omega
/-- The words that have come. -/
def wds (pre : List Wd) : List (List UInt8) := pre.map (·.1)
theorem wds_len (pre : List Wd) : (wds pre).length = pre.length := by simp [wds]
theorem wds_ok (pre : List Wd) : ∀ x ∈ wds pre, x.length ≤ 60 ∧ allCap x := by
  intro x hx
  obtain ⟨y, _, rfl⟩ := List.mem_map.1 hx
  exact y.2
theorem wds_snoc (pre : List Wd) (x : Wd) : wds (pre ++ [x]) = wds pre ++ [x.1] := by simp [wds]
theorem endFrom_bd {F : Fc} (hF : F.ok) (h : vface F = true) (pre : List Wd) (hn : pre.length ≤ 61) : 0 ≤ endFrom F 0 (wds pre) ∧ endFrom F 0 (wds pre) ≤ 222040 := by
  have := preL_bd hF h (wds_ok pre) (wds pre).length (Nat.le_refl _)
  rw [endFrom_pre]
  simp only [wds, List.length_map] at *
  omega

theorem ret_slice {A : Option Addr} {n m c : Nat} (h : n = m) : Ending.returned (.slice A n c) = .returned (.slice A m c) := by rw [h]
end Go.Proofs.YtngondeaeipcfaaGreatDoor

namespace Go.Proofs.YtngondeaeipcfaaGreatDoor
open Go Go.RowKit

/-- The first span's left side is y, the last one's right side z. -/
def EndsAt (w : World) (A : Option Addr) (n : Nat) (y z : Int) : Prop :=
  n ≠ 0 → ∃ b o, A = some ⟨b, o, none⟩ ∧ w.cell? ⟨b, o, none⟩ = some (.int .i64 y) ∧ w.cell? ⟨b, o + (n - 1) * 2 + 1, none⟩ = some (.int .i64 z)
def room (x y z : Int) (n : Nat) : Int := if n = 0 then x else x - (z - y)

def fitsB (x y z : Int) (n : Nat) : Bool := decide (0 ≤ room x y z n)

/-- The ends of the words from a to b. -/
theorem ends_seg {w : World} {B : Nat} {F : Fc} {ws : List (List UInt8)} {b o : Nat} (h : CellsAt w B (some ⟨b, o, none⟩) (spanFrom F 0 ws)) {a k : Nat} (ha : a < k) (hk : k ≤ ws.length) :
    EndsAt w (some ⟨b, o + a * 2, none⟩) (k - a) (preL F ws a) (preL F ws (k - 1) + wideL F (ws.getD (k - 1) [])) := fun _ => by
  obtain ⟨b', o', e, _, hc⟩ := h (by intro e; have := congrArg List.length e; rw [spanFrom_len] at this; simp at this; omega)
  injection e with e; injection e with e1 e2; subst e1 e2
  obtain ⟨g1, _⟩ := spanFrom_get F ws 0 a (by omega)
  obtain ⟨_, g2⟩ := spanFrom_get F ws 0 (k - 1) (by omega)
  rw [Int.zero_add] at g1 g2
  refine ⟨b, o + a * 2, rfl, ?_, ?_⟩
  · have := hc _ _ g1; rwa [Nat.mul_comm] at this
  · have := hc _ _ g2
    rwa [show o + a * 2 + (k - a - 1) * 2 + 1 = o + (2 * (k - 1) + 1) by omega]
theorem room_seg (F : Fc) (ws : List (List UInt8)) (x : Int) {a k : Nat} (ha : a < k) (hk : k ≤ ws.length) : room x (preL F ws a) (preL F ws (k - 1) + wideL F (ws.getD (k - 1) [])) (k - a) = roomL F ws x a k := by
  unfold room roomL
  rw [if_neg (by omega), lineL_seg F ws ha hk]
  obtain ⟨j, rfl⟩ : ∃ j, k = j + 1 := ⟨k - 1, by omega⟩
  simp only [preL, Nat.add_sub_cancel]
  omega
end Go.Proofs.YtngondeaeipcfaaGreatDoor

namespace Go.Proofs.YtngondeaeipcfaaGreatDoor
open Go Go.RowKit

theorem ask_cases (F : Fc) (L : List UInt8) (x : Int) : (vface F = true ∧ vtext L = true ∧ inB x 0 4000 = true ∧ askC F L (inB x 0 4000) = 0) ∨ (askC F L (inB x 0 4000) = 2 ∧ vface F = true ∧ vtext L = true ∧ inB x 0 4000 = false) ∨ (askC F L (inB x 0 4000) = 1 ∧ ¬ (vface F = true ∧ vtext L = true)) := by
  by_cases h : vface F = true ∧ vtext L = true
  · rw [ask_ok h.1 h.2]
    cases hi : inB x 0 4000
    · exact .inr (.inl ⟨rfl, h.1, h.2, rfl⟩)
    · exact .inl ⟨h.1, h.2, rfl, rfl⟩
  · exact .inr (.inr ⟨ask_no h, h⟩)
theorem ret_slc {A : Option Addr} {n c : Nat} {i j : Int} (h : i = j) : Ending.returned (.tuple #[.slice A n c, .int .i64 i]) = .returned (.tuple #[.slice A n c, .int .i64 j]) := by rw [h]

/-- The spans of the text's words. -/
def SpansBack (F : Fc) (ws : List (List UInt8)) (w : World) (A' : Option Addr) (c' : Nat) (w' : World) : Prop :=
  ws.length ≤ c' ∧ CellsIn w' w.heap.size A' (spanFrom F 0 ws)

theorem SpansBack.go {F : Fc} {ws : List (List UInt8)} {w W0 w1 wr : World} {A' : Option Addr} {c' : Nat} (h : SpansBack F ws W0 A' c' w1) (hle : w.heap.size ≤ W0.heap.size) (hB : Below w1.heap.size w1 wr) : SpansBack F ws w A' c' wr :=
  ⟨h.1, (h.2.wider hle).go hB⟩
theorem SpansBack.at_ {F : Fc} {ws : List (List UInt8)} {W0 w1 : World} {A' : Option Addr} {c' : Nat} (h : SpansBack F ws W0 A' c' w1) (hn : 0 < ws.length) : ∃ b o, A' = some ⟨b, o, none⟩ ∧ CellsAt w1 w1.heap.size (some ⟨b, o, none⟩) (spanFrom F 0 ws) := by
  obtain ⟨b, o, e, h1, h2, h3, h4⟩ := h.2 (by intro e; have := congrArg List.length e; rw [spanFrom_len] at this; simp at this; omega)
  subst e
  exact ⟨b, o, rfl, h.2.at_⟩
theorem SpansBack.ends {F : Fc} {ws : List (List UInt8)} {w1 wr : World} {b o : Nat} (h : CellsAt w1 w1.heap.size (some ⟨b, o, none⟩) (spanFrom F 0 ws)) (hB : Below w1.heap.size w1 wr) {a k : Nat} (ha : a < k) (hk : k ≤ ws.length) :
    EndsAt wr (some ⟨b, o + a * 2, none⟩) (k - a) (preL F ws a) (preL F ws (k - 1) + wideL F (ws.getD (k - 1) [])) := ends_seg (h.go hB) ha hk
/-- The code of a face, a text and a width in which each word has to fit. -/
noncomputable def fdC (F : Fc) (L : List UInt8) (x : Int) : Int := if askC F L (inB x 0 4000) = 0 then (if fitB F (wordsL L) x = true then 0 else 6) else askC F L (inB x 0 4000)

end Go.Proofs.YtngondeaeipcfaaGreatDoor

namespace Go.Proofs.YtngondeaeipcfaaGreatDoor
open Go Go.RowKit

theorem gTo_next {F : Fc} {ws : List (List UInt8)} {x : Int} {k : Nat} (h1 : (gTo F ws x k).1 < k) (h2 : x < lineL F (seg ws (gTo F ws x k).1 (k + 1))) : gTo F ws x (k + 1) = (k, (gTo F ws x k).2 ++ [(k : Int)]) := by
  rw [gTo, if_pos ⟨h1, h2⟩]
theorem gTo_same {F : Fc} {ws : List (List UInt8)} {x : Int} {k : Nat} (h : ¬ ((gTo F ws x k).1 < k ∧ x < lineL F (seg ws (gTo F ws x k).1 (k + 1)))) : gTo F ws x (k + 1) = gTo F ws x k := by
  rw [gTo, if_neg h]

/-- Numbers come back, in memory of the call's own. -/
def IntsRet (xs : List Int) (w : World) : Ending → World → Prop := fun e w' =>
  ∃ A c, e = .returned (.slice A xs.length c) ∧ IntsIn w' w.heap.size A xs ∧ Below w.heap.size w w'

end Go.Proofs.YtngondeaeipcfaaGreatDoor

namespace Go.Proofs.YtngondeaeipcfaaGreatDoor
open Go Go.RowKit

noncomputable def gbX (F : Fc) (L : List UInt8) (x : Int) : List Int := if fdC F L x = 0 then greedyL F (wordsL L) x else []
noncomputable def flV (F : Fc) (L : List UInt8) (x : Int) : Int := if fdC F L x = 0 then ((greedyL F (wordsL L) x).length : Int) + 1 else 0
theorem fd_no {F : Fc} {L : List UInt8} {x : Int} (h : askC F L (inB x 0 4000) ≠ 0) : fdC F L x = askC F L (inB x 0 4000) ∧ gbX F L x = [] ∧ flV F L x = 0 := by
  have e : fdC F L x = askC F L (inB x 0 4000) := by unfold fdC; rw [if_neg h]
  exact ⟨e, by unfold gbX; rw [e, if_neg h], by unfold flV; rw [e, if_neg h]⟩
theorem fd_wide {F : Fc} {L : List UInt8} {x : Int} (h : askC F L (inB x 0 4000) = 0) (h2 : fitB F (wordsL L) x = false) : fdC F L x = 6 ∧ gbX F L x = [] ∧ flV F L x = 0 := by
  have e : fdC F L x = 6 := by unfold fdC; rw [if_pos h, h2]; rfl
  exact ⟨e, by unfold gbX; rw [e, if_neg (by decide)], by unfold flV; rw [e, if_neg (by decide)]⟩
theorem fd_ok {F : Fc} {L : List UInt8} {x : Int} (h : askC F L (inB x 0 4000) = 0) (h2 : fitB F (wordsL L) x = true) : fdC F L x = 0 ∧ gbX F L x = greedyL F (wordsL L) x ∧ flV F L x = ((greedyL F (wordsL L) x).length : Int) + 1 := by
  have e : fdC F L x = 0 := by unfold fdC; rw [if_pos h, if_pos h2]
  exact ⟨e, by unfold gbX; rw [e, if_pos rfl], by unfold flV; rw [e, if_pos rfl]⟩
theorem greedyL_len (F : Fc) (ws : List (List UInt8)) (x : Int) : (greedyL F ws x).length ≤ ws.length := (gTo_bd F ws x ws.length).2
theorem gbX_len (F : Fc) (L : List UInt8) (x : Int) : (gbX F L x).length ≤ 1048577 := by
  unfold gbX
  split
  · rename_i h
    have hk : askC F L (inB x 0 4000) = 0 := by
      by_cases h0 : askC F L (inB x 0 4000) = 0
      · exact h0
      · unfold fdC at h; rw [if_neg h0] at h; exact h
    rcases ask_cases F L x with ⟨_, ht, _, _⟩ | ⟨h1, _⟩ | ⟨h1, _⟩
    · have := greedyL_len F (wordsL L) x; have := words_len ht; omega
    · rw [h1] at hk; cases hk
    · rw [h1] at hk; cases hk
  · simp

end Go.Proofs.YtngondeaeipcfaaGreatDoor

namespace Go.Proofs.YtngondeaeipcfaaGreatDoor
open Go Go.RowKit

theorem fit_no {F : Fc} {ws : List (List UInt8)} {x : Int} {k : Nat} (hk : k < ws.length) (h : x < wideL F (ws.getD k [])) : fitB F ws x = false := fitB_false.2 (fun hf => by have := hf k hk; omega)

theorem strsAt_seg {w : World} {B b o : Nat} {ws : List (List UInt8)} (h : ∀ k x, (bas ws)[k]? = some x → w.cell? ⟨b, o + k, none⟩ = some (.string x)) (hb : b < B) (f k : Nat) : StrsAt w B (some ⟨b, o + f, none⟩) (bas (seg ws f k)) := fun _ => by
  refine ⟨b, o + f, rfl, hb, fun j x hx => ?_⟩
  have : (bas ws)[f + j]? = some x := by
    unfold bas seg at hx
    rw [List.getElem?_map, List.getElem?_drop, List.getElem?_take] at hx
    split at hx
    · rw [List.getElem?_map]; exact hx
    · cases hx
  have := h _ _ this
  rwa [← Nat.add_assoc] at this

set_option maxRecDepth 100000 in
set_option maxHeartbeats 2000000 in
/-- The words, and that there is room for them. -/
theorem l01WordsC_any (s : ByteArray) (w : World) (hs : s.size ≤ 1048576) :
    Calls Tryz.prog 109 #[.string s] w fun e w' => ∃ A c, e = .returned (.slice A (bas (wordsL s.data.toList)).length c) ∧ (wordsL s.data.toList).length ≤ c ∧ StrsIn w' w.heap.size A (bas (wordsL s.data.toList)) ∧ Below w.heap.size w w' := by
  have hsp := l01Split_any s w hs
  by_cases h0 : s.size = 0
  · have hte := toList_nil h0
    have he : s.data.toList = [] := List.length_eq_zero_iff.1 (by simpa using h0)
    have hw : wordsL s.data.toList = [] := by rw [he]; rfl
    rw [hw]
    clear he hw hsp h0
    go_enter Tryz.func109, Tryz.ntmps109
    go_wp2
    go_ret
    exact ⟨_, _, rfl, Nat.zero_le _, StrsIn.empty _ _ _, (Below.refl _ _).alloc (Nat.le_refl _) _⟩
  · have hte := toList_cons h0
    have hne : s.data.toList ≠ [] := fun e => h0 (by have := congrArg List.length e; simpa using this)
    have hw : wordsL s.data.toList = splitL s.data.toList := by unfold wordsL; rw [if_neg hne]
    rw [hw]
    have HSP := hide hsp
    clear hne hw hsp h0
    go_enter Tryz.func109, Tryz.ntmps109
    go_wp2_with (go_at_call 208; refine HSP.out.mono ?_; rintro e w1 ⟨A, c, rfl, hc, hP, hb⟩)
    go_ret
    exact ⟨A, c, by rw [List.length_map]; rfl, hc, hP, hb⟩

end Go.Proofs.YtngondeaeipcfaaGreatDoor
