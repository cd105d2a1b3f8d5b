/- Hands: the code of their gaps, and which one is the nearest: the data. -/
import Derived.Test.YtjmkbdghenjlaaaDoorGlC
import Derived.Test.YtjmkbdghenjlaaaDoorBfI
namespace Go.Proofs.YtjmkbdghenjlaaaDoor
open Go Go.RowKit

def issD (ls : List Iss) : List (List Int) := ls.map (·.2.1)
theorem issD_len (ls : List Iss) : (issD ls).length = ls.length := by simp [issD]
theorem issD_get {ls : List Iss} {k : Nat} {l : Iss} (h : ls[k]? = some l) : (issD ls).getD k [] = l.2.1 := by
  rw [List.getD_eq_getElem?_getD, issD, List.getElem?_map, h]; rfl
def allH (hs : List (List Int)) : Bool := hs.all gvB
theorem allG_iss (ls : List Iss) : allG ls = allH (issD ls) := by
  unfold allG allH issD; rw [List.all_map]; rfl
theorem allG_mem {ls : List Iss} (h : allG ls = true) {l : Iss} (hl : l ∈ ls) : gvB l.2.1 = true := List.all_eq_true.1 h l hl
/-- The code of hands. -/
def hdC (hs : List (List Int)) : Int := if allH hs = true then (if 8 < hs.length then 3 else 0) else 1
def nhO (hs : List (List Int)) (gs : List Int) (k : Nat) : Int := apV (hs.getD k []) gs
/-- The nearest hand, by how much it is apart, and a code. -/
def nhR (hs : List (List Int)) (gs : List Int) : Int × Int × Int :=
  if gvB gs = true then (if allH hs = true then (if 8 < hs.length then (0, 0, 3) else chR (allC (nhO hs gs) hs.length)) else (0, 0, 1)) else (0, 0, 1)
theorem nh_g {hs : List (List Int)} {gs : List Int} (h : gvB gs = false) : nhR hs gs = (0, 0, 1) := if_neg (by rw [h]; decide)
theorem nh_h {hs : List (List Int)} {gs : List Int} (h : allH hs = false) : nhR hs gs = (0, 0, 1) := by
  unfold nhR
  split
  · rw [if_neg (by rw [h]; decide)]
  · rfl
theorem nh_l {hs : List (List Int)} {gs : List Int} (h : gvB gs = true) (h2 : allH hs = true) (h3 : 8 < hs.length) : nhR hs gs = (0, 0, 3) := by
  unfold nhR
  rw [if_pos h, if_pos h2, if_pos h3]
theorem nh_ok {hs : List (List Int)} {gs : List Int} (h : gvB gs = true) (h2 : allH hs = true) (h3 : ¬ 8 < hs.length) : nhR hs gs = chR (allC (nhO hs gs) hs.length) := by
  unfold nhR
  rw [if_pos h, if_pos h2, if_neg h3]
theorem hd_no {hs : List (List Int)} (h : allH hs = false) : hdC hs = 1 := if_neg (by rw [h]; decide)
theorem hd_long {hs : List (List Int)} (h : allH hs = true) (h3 : 8 < hs.length) : hdC hs = 3 := by unfold hdC; rw [if_pos h, if_pos h3]
theorem hd_ok {hs : List (List Int)} (h : allH hs = true) (h3 : ¬ 8 < hs.length) : hdC hs = 0 := by unfold hdC; rw [if_pos h, if_neg h3]
/-- Lists that may be read. -/
def IssOk (w : World) (ls : List Iss) : Prop := ∀ l ∈ ls, l.2.1.length ≤ maxLen ∧ IntsAt w w.heap.size l.1 l.2.1
theorem IssOk.go {W w' : World} {ls : List Iss} (h : IssOk W ls) (hb : Below W.heap.size W w') : IssOk w' ls := fun l hl => ⟨(h l hl).1, (h l hl).2.go hb⟩
theorem IssAt.below {w w' : World} {B : Nat} {A : Option Addr} {ls : List Iss} (h : IssAt w B A ls) (hb : Below B w w') : IssAt w' B A ls :=
  fun hn => by obtain ⟨b, o, e, hlt, hc⟩ := h hn; exact ⟨b, o, e, hlt, fun k x hx => (hb.cell (p := ⟨b, o + k, none⟩) hlt).trans (hc k x hx)⟩
theorem IssAt.go {W w' : World} {A : Option Addr} {ls : List Iss} (h : IssAt W W.heap.size A ls) (hb : Below W.heap.size W w') : IssAt w' w'.heap.size A ls := by
  intro hn
  obtain ⟨b, o, e, hlt, hc⟩ := (h.below hb) hn
  exact ⟨b, o, e, Nat.lt_of_lt_of_le hlt hb.size, hc⟩
end Go.Proofs.YtjmkbdghenjlaaaDoor
