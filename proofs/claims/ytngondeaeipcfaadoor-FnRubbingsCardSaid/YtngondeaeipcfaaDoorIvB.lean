/- Chapter 4 as plain data: words of a list, worn words, what two of them tell, letters upside down. · The program's chapter 4: all of a list, all bytes of a text; lists of words, worn words. · The program's chapter 4: lists of words, worn words, what two of them tell. -/
import Derived.Test.YtngondeaeipcfaaDoorG6
import Derived.LoopTactic
import Derived.Shelf.Abstract

namespace Go.Proofs.YtngondeaeipcfaaDoor
open Go.RowKit

theorem all_true_of {α : Type} {p : α → Bool} {xs : List α} (h : ∀ j x, j < xs.length → xs[j]? = some x → p x = true) : xs.all p = true := by
  rw [List.all_eq_true]
  intro x hx
  obtain ⟨j, hj, rfl⟩ := List.getElem_of_mem hx
  exact h j _ hj (List.getElem?_eq_getElem hj)
theorem all_false_of {α : Type} {p : α → Bool} {xs : List α} {k : Nat} {x : α} (hk : xs[k]? = some x) (h : p x = false) : xs.all p = false := by
  rw [List.all_eq_false]
  exact ⟨x, List.mem_of_getElem? hk, by rw [h]; exact Bool.false_ne_true⟩

/-- A word of a list. -/
noncomputable def lword (L : List UInt8) : Bool := vword L && decide (L.length ≤ 20)
theorem lword_spec (L : List UInt8) : lword L = (inB L.length 1 20 && capsB L) := by
  rw [Bool.eq_iff_iff]
  simp only [lword, Bool.and_eq_true, decide_eq_true_eq, vword_true, capsB_true, inB_true]
  constructor
  · rintro ⟨⟨h2, h3, h4⟩, h1⟩; exact ⟨⟨by omega, by omega⟩, h2, h4⟩
  · rintro ⟨⟨h1, h2⟩, h3, h4⟩; exact ⟨⟨h3, by omega, h4⟩, by omega⟩
noncomputable def lw (x : ByteArray) : Bool := lword x.data.toList
noncomputable def vlist (xs : List ByteArray) : Bool := decide (xs.length ≤ 12) && xs.all lw
theorem vlist_true {xs : List ByteArray} : vlist xs = true ↔ xs.length ≤ 12 ∧ xs.all lw = true := by simp [vlist]
theorem lw_true {x : ByteArray} (h : lw x = true) : 1 ≤ x.size ∧ x.size ≤ 20 ∧ allCap x.data.toList := by
  unfold lw lword at h
  simp only [Bool.and_eq_true, decide_eq_true_eq, vword_true] at h
  have hL : x.data.toList.length = x.size := by simp
  exact ⟨by omega, by omega, h.1.2.2⟩
theorem lw_mem {xs : List ByteArray} {x : ByteArray} (h : xs.all lw = true) (hx : x ∈ xs) : lw x = true := List.all_eq_true.1 h x hx

/-- Something holds for each byte. -/
def allOn (p : Int → Bool) (L : List UInt8) : Bool := (List.range L.length).all (fun j => p (byteAt L j))
theorem allOn_true {p : Int → Bool} {L : List UInt8} : allOn p L = true ↔ ∀ j, j < L.length → p (byteAt L j) = true := by simp [allOn]
theorem allOn_false {p : Int → Bool} {L : List UInt8} {k : Nat} (hk : k < L.length) (h : p (byteAt L k) = false) : allOn p L = false := by
  rw [← Bool.not_eq_true, allOn_true]
  intro h'
  rw [h' k hk] at h; cases h
theorem allOn_congr {p q : Int → Bool} {L : List UInt8} (h : ∀ j, j < L.length → p (byteAt L j) = q (byteAt L j)) : allOn p L = allOn q L := by
  rw [Bool.eq_iff_iff, allOn_true, allOn_true]
  exact ⟨fun a j hj => by rw [← h j hj]; exact a j hj, fun a j hj => by rw [h j hj]; exact a j hj⟩

def wornC (b : Int) : Bool := cap b || b == 46
def wornB (L : List UInt8) : Bool := decide (L.length ≤ 20) && allOn wornC L

/-- Bytes that lie in a block, and may be written. -/
def BytesAt (w : World) (b : Nat) (L : List UInt8) : Prop := ∀ j, j < L.length → w.cell? ⟨b, j, none⟩ = some (.int .u8 (byteAt L j)) ∧ w.frozen? ⟨b, j, none⟩ = false
theorem BytesAt.below {w w' : World} {B b : Nat} {L : List UInt8} (h : BytesAt w b L) (hb : Below B w w') (hB : b < B) : BytesAt w' b L := fun j hj => by
  rw [hb.cell (p := ⟨b, j, none⟩) hB, hb.frozen (p := ⟨b, j, none⟩) hB]; exact h j hj
theorem byteAt_set {L : List UInt8} {k j : Nat} {x : UInt8} (hk : k < L.length) : byteAt (L.set k x) j = if k = j then (x.toNat : Int) else byteAt L j := by
  unfold byteAt
  by_cases e : k = j
  · subst e; simp [hk]
  · simp [e]
theorem BytesAt.set {w : World} {b k : Nat} {L : List UInt8} (h : BytesAt w b L) (hk : k < L.length) (x : UInt8) : BytesAt (w.setCell ⟨b, k, none⟩ (.int .u8 (x.toNat : Int))) b (L.set k x) := fun j hj => by
  rw [List.length_set] at hj
  rw [World.frozen?_setCell, byteAt_set hk]
  refine ⟨?_, (h j hj).2⟩
  by_cases e : k = j
  · subst e
    rw [if_pos rfl]
    exact World.cell?_setCell_same' _ _ _ (by rw [(h k hk).1]; rfl)
  · rw [if_neg e, World.cell?_setCell_other _ _ _ _ (by intro he; injection he with _ he; exact e he)]
    exact (h j hj).1
theorem bytes_new2 (s : ByteArray) (w : World) : ∃ W1 c, (convert 9 22 (.string s)).run Tryd.prog w = .ok (.slice (some ⟨w.heap.size, 0, none⟩) s.size c) W1 ∧ Below w.heap.size w W1 ∧
    BytesAt W1 w.heap.size s.data.toList ∧ w.heap.size < W1.heap.size := by
  refine ⟨_, _, run_bytes_of_string w _ _ _ s Tryd.underlying9 Tryd.underlying22 Tryd.underlying5, below_trans_drew rfl, fun j h => ⟨?_, ?_⟩, ?_⟩
  · have h' : j < s.size := by simpa using h
    rw [← byteAt_get s j h']
    exact (cell_of_row _ _ _ _ _ _ (heap_alloc_new w.drew _)).trans (bytesRow_at s _ j h')
  · have h' : j < s.size := by simpa using h
    have hz : j < (bytesRow s (grownCap w s.size 0 5)).size := by
      have := bytesRow_at s (grownCap w s.size 0 5) j h'
      exact (Array.getElem?_eq_some_iff.1 this).1
    rw [show w.heap.size = w.drew.heap.size from rfl, World.frozen?_alloc_mark]
    simp; omega
  · show w.heap.size < (w.heap.push _).size
    simp
theorem bytes_back {w : World} {b c : Nat} {L : List UInt8} (h : BytesAt w b L) : (convert 22 9 (.slice (some ⟨b, 0, none⟩) L.length c)).run Tryd.prog w = .ok (.string ⟨L.toArray⟩) w :=
  run_convert_bytes_back w _ _ 5 ⟨b, 0, none⟩ c L Tryd.underlying22 Tryd.underlying5 Tryd.underlying9 (fun j hj => by
    rw [addr_add, Nat.zero_add, (h j hj).1]
    unfold byteAt
    simp [List.getD, hj])

/-- What two worn words of one length tell: the first k letters of a, where they are gone, from b. -/
def agTo (a b : List UInt8) (k : Nat) : List UInt8 := (List.range a.length).map (fun j => if j < k ∧ byteAt a j = 46 then b.getD j 0 else a.getD j 0)
theorem agTo_len (a b : List UInt8) (k : Nat) : (agTo a b k).length = a.length := by simp [agTo]
theorem agTo_zero (a b : List UInt8) : agTo a b 0 = a := by
  apply List.ext_getElem
  · simp [agTo]
  · intro i h1 h2; simp [agTo, List.getD, h2]
theorem agTo_at {a b : List UInt8} {k j : Nat} (hj : j < a.length) : byteAt (agTo a b k) j = if j < k ∧ byteAt a j = 46 then byteAt b j else byteAt a j := by
  have : (agTo a b k).getD j 0 = if j < k ∧ byteAt a j = 46 then b.getD j 0 else a.getD j 0 := by
    simp [agTo, List.getD, hj]
  show (((agTo a b k).getD j 0).toNat : Int) = _
  rw [this]
  split <;> rfl
theorem agTo_gone {a b : List UInt8} {k : Nat} (hk : k < a.length) (h : byteAt a k = 46) : agTo a b (k + 1) = (agTo a b k).set k (b.getD k 0) := by
  apply List.ext_getElem
  · simp [agTo]
  · intro i h1 h2
    rw [List.getElem_set]
    simp only [agTo, List.getElem_map, List.getElem_range]
    by_cases e : k = i
    · subst e; rw [if_pos rfl, if_pos ⟨by omega, h⟩]
    · rw [if_neg e]
      by_cases hi : i < k
      · have : i < k + 1 := by omega
        simp [hi, this]
      · have : ¬ i < k + 1 := by omega
        simp [hi, this]
theorem agTo_kept {a b : List UInt8} {k : Nat} (h : byteAt a k ≠ 46) : agTo a b (k + 1) = agTo a b k := by
  apply List.ext_getElem
  · simp [agTo]
  · intro i h1 h2
    simp only [agTo, List.getElem_map, List.getElem_range]
    by_cases e : k = i
    · subst e; simp [h]
    · by_cases hi : i < k
      · have : i < k + 1 := by omega
        simp [hi, this]
      · have : ¬ i < k + 1 := by omega
        simp [hi, this]
/-- At place j they differ. -/
def clash (a b : List UInt8) (j : Nat) : Bool := (byteAt a j != 46 && byteAt b j != 46) && byteAt a j != byteAt b j
def agB (a b : List UInt8) : Bool := decide (a.length = b.length) && (List.range a.length).all (fun j => !clash a b j)
theorem agB_true {a b : List UInt8} : agB a b = true ↔ a.length = b.length ∧ ∀ j, j < a.length → clash a b j = false := by simp [agB]
theorem agB_len {a b : List UInt8} (h : a.length ≠ b.length) : agB a b = false := by simp [agB, h]
theorem agB_clash {a b : List UInt8} {k : Nat} (hk : k < a.length) (h : clash a b k = true) : agB a b = false := by
  rw [← Bool.not_eq_true, agB_true]
  rintro ⟨_, h'⟩
  rw [h' k hk] at h; cases h
def agV (a b : List UInt8) : ByteArray := if agB a b = true then ⟨(agTo a b a.length).toArray⟩ else ⟨#[]⟩
def agC (a b : List UInt8) : Int := if agB a b = true then 0 else 4
theorem ag_ok {a b : List UInt8} (h : agB a b = true) : agV a b = ⟨(agTo a b a.length).toArray⟩ ∧ agC a b = 0 := by unfold agV agC; rw [if_pos h, if_pos h]; exact ⟨rfl, rfl⟩
theorem ag_no {a b : List UInt8} (h : agB a b = false) : agV a b = ⟨#[]⟩ ∧ agC a b = 4 := by unfold agV agC; rw [h]; exact ⟨rfl, rfl⟩
def agreeV (a b : List UInt8) : ByteArray := if (wornB a && wornB b) = true then agV a b else ⟨#[]⟩
def agreeC (a b : List UInt8) : Int := if (wornB a && wornB b) = true then agC a b else 5

/-- A letter, or a blank, upside down; 0 if it cannot be turned. -/
def turnB (b : Int) : Int :=
  if b = 72 ∨ b = 73 ∨ b = 78 ∨ b = 79 ∨ b = 83 ∨ b = 88 ∨ b = 90 ∨ b = 32 then b else if b = 77 then 87 else if b = 87 then 77 else 0
/-- As the program says it: what is no capital stays. -/
def turnI (b : Int) : Int := if cap b = true then turnB b else b
theorem turnI_eq {b : Int} (h : cap b = true ∨ b = 32) : turnI b = turnB b := by
  unfold turnI
  rcases h with h | h
  · rw [if_pos h]
  · subst h; rfl
theorem turnB_bd (b : Int) (h : 0 ≤ b ∧ b ≤ 255) : 0 ≤ turnB b ∧ turnB b ≤ 255 := by unfold turnB; (repeat' split) <;> omega
def turn8 (x : UInt8) : UInt8 := UInt8.ofNat (turnB (x.toNat : Int)).toNat
def turnL (L : List UInt8) : List UInt8 := (L.map turn8).reverse
def ableB (b : Int) : Bool := turnB b != 0
noncomputable def canT (L : List UInt8) : Bool := vtext L && allOn ableB L
noncomputable def ttV (L : List UInt8) : ByteArray := if canT L = true then ⟨(turnL L).toArray⟩ else ⟨#[]⟩
noncomputable def ttC (L : List UInt8) : Int := if vtext L = true then if canT L = true then 0 else 4 else 1
end Go.Proofs.YtngondeaeipcfaaDoor

namespace Go.Proofs.YtngondeaeipcfaaDoor
open Go.RowKit

end Go.Proofs.YtngondeaeipcfaaDoor

namespace Go.Proofs.YtngondeaeipcfaaDoor
open Go.RowKit

end Go.Proofs.YtngondeaeipcfaaDoor
