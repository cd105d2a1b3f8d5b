/- Chapter 4 as plain data: words of a list, worn words, what two of them tell, letters upside down. · The program's chapter 4: all of a list, all bytes of a text; lists of words, worn words. · The program's chapter 4: lists of words, worn words, what two of them tell. -/
import Derived.Test.YtngondeaeipcfaaGreatDoorG6
import Derived.LoopTactic
import Derived.Shelf.Abstract

namespace Go.Proofs.YtngondeaeipcfaaGreatDoor
open Go.RowKit

theorem all_true_of {α : Type} {p : α → Bool} {xs : List α} (h : ∀ j x, j < xs.length → xs[j]? = some x → p x = true) : xs.all p = true := by
  rw [List.all_eq_true]
  intro x hx
  obtain ⟨j, hj, rfl⟩ := List.getElem_of_mem hx
  exact h j _ hj (List.getElem?_eq_getElem hj)
theorem all_false_of {α : Type} {p : α → Bool} {xs : List α} {k : Nat} {x : α} (hk : xs[k]? = some x) (h : p x = false) : xs.all p = false := by
  rw [List.all_eq_false]
  exact ⟨x, List.mem_of_getElem? hk, by rw [h]; exact Bool.false_ne_true⟩

/-- A word of a list. -/
noncomputable def lword (L : List UInt8) : Bool := vword L && decide (L.length ≤ 20)
theorem lword_spec (L : List UInt8) : lword L = (inB L.length 1 20 && capsB L) := by
  rw [Bool.eq_iff_iff]
  simp only [lword, Bool.and_eq_true, decide_eq_true_eq, vword_true, capsB_true, inB_true]
  constructor
  · rintro ⟨⟨h2, h3, h4⟩, h1⟩; exact ⟨⟨by omega, by omega⟩, h2, h4⟩
  · rintro ⟨⟨h1, h2⟩, h3, h4⟩; exact ⟨⟨h3, by omega, h4⟩, by omega⟩
noncomputable def lw (x : ByteArray) : Bool := lword x.data.toList
noncomputable def vlist (xs : List ByteArray) : Bool := decide (xs.length ≤ 12) && xs.all lw
theorem vlist_true {xs : List ByteArray} : vlist xs = true ↔ xs.length ≤ 12 ∧ xs.all lw = true := by simp [vlist]
theorem lw_true {x : ByteArray} (h : lw x = true) : 1 ≤ x.size ∧ x.size ≤ 20 ∧ allCap x.data.toList := by
  unfold lw lword at h
  simp only [Bool.and_eq_true, decide_eq_true_eq, vword_true] at h
  have hL : x.data.toList.length = x.size := by simp
  exact ⟨by omega, by omega, h.1.2.2⟩
theorem lw_mem {xs : List ByteArray} {x : ByteArray} (h : xs.all lw = true) (hx : x ∈ xs) : lw x = true := List.all_eq_true.1 h x hx

/-- Something holds for each byte. -/
def allOn (p : Int → Bool) (L : List UInt8) : Bool := (List.range L.length).all (fun j => p (byteAt L j))
theorem allOn_true {p : Int → Bool} {L : List UInt8} : allOn p L = true ↔ ∀ j, j < L.length → p (byteAt L j) = true := by simp [allOn]
theorem allOn_false {p : Int → Bool} {L : List UInt8} {k : Nat} (hk : k < L.length) (h : p (byteAt L k) = false) : allOn p L = false := by
  rw [← Bool.not_eq_true, allOn_true]
  intro h'
  rw [h' k hk] at h; cases h
theorem allOn_congr {p q : Int → Bool} {L : List UInt8} (h : ∀ j, j < L.length → p (byteAt L j) = q (byteAt L j)) : allOn p L = allOn q L := by
  rw [Bool.eq_iff_iff, allOn_true, allOn_true]
  exact ⟨fun a j hj => by rw [← h j hj]; exact a j hj, fun a j hj => by rw [h j hj]; exact a j hj⟩

def wornC (b : Int) : Bool := cap b || b == 46
def wornB (L : List UInt8) : Bool := decide (L.length ≤ 20) && allOn wornC L

/-- Bytes that lie in a block, and may be written. -/
def BytesAt (w : World) (b : Nat) (L : List UInt8) : Prop := ∀ j, j < L.length → w.cell? ⟨b, j, none⟩ = some (.int .u8 (byteAt L j)) ∧ w.frozen? ⟨b, j, none⟩ = false
theorem BytesAt.below {w w' : World} {B b : Nat} {L : List UInt8} (h : BytesAt w b L) (hb : Below B w w') (hB : b < B) : BytesAt w' b L := fun j hj => by
  rw [hb.cell (p := ⟨b, j, none⟩) hB, hb.frozen (p := ⟨b, j, none⟩) hB]; exact h j hj
theorem byteAt_set {L : List UInt8} {k j : Nat} {x : UInt8} (hk : k < L.length) : byteAt (L.set k x) j = if k = j then (x.toNat : Int) else byteAt L j := by
  unfold byteAt
  by_cases e : k = j
  · subst e; simp [hk]
  · simp [e]
theorem BytesAt.set {w : World} {b k : Nat} {L : List UInt8} (h : BytesAt w b L) (hk : k < L.length) (x : UInt8) : BytesAt (w.setCell ⟨b, k, none⟩ (.int .u8 (x.toNat : Int))) b (L.set k x) := fun j hj => by
  rw [List.length_set] at hj
  rw [World.frozen?_setCell, byteAt_set hk]
  refine ⟨?_, (h j hj).2⟩
  by_cases e : k = j
  · subst e
    rw [if_pos rfl]
    exact World.cell?_setCell_same' _ _ _ (by rw [(h k hk).1]; rfl)
  · rw [if_neg e, World.cell?_setCell_other _ _ _ _ (by intro he; injection he with _ he; exact e he)]
    exact (h j hj).1
theorem bytes_new2 (s : ByteArray) (w : World) : ∃ W1 c, (convert 9 22 (.string s)).run Tryz.prog w = .ok (.slice (some ⟨w.heap.size, 0, none⟩) s.size c) W1 ∧ Below w.heap.size w W1 ∧
    BytesAt W1 w.heap.size s.data.toList ∧ w.heap.size < W1.heap.size := by
  refine ⟨_, _, run_bytes_of_string w _ _ _ s Tryz.underlying9 Tryz.underlying22 Tryz.underlying5, below_trans_drew rfl, fun j h => ⟨?_, ?_⟩, ?_⟩
  · have h' : j < s.size := by simpa using h
    rw [← byteAt_get s j h']
    exact (cell_of_row _ _ _ _ _ _ (heap_alloc_new w.drew _)).trans (bytesRow_at s _ j h')
  · have h' : j < s.size := by simpa using h
    have hz : j < (bytesRow s (grownCap w s.size 0 5)).size := by
      have := bytesRow_at s (grownCap w s.size 0 5) j h'
      exact (Array.getElem?_eq_some_iff.1 this).1
    rw [show w.heap.size = w.drew.heap.size from rfl, World.frozen?_alloc_mark]
    simp; omega
  · show w.heap.size < (w.heap.push _).size
    simp
theorem bytes_back {w : World} {b c : Nat} {L : List UInt8} (h : BytesAt w b L) : (convert 22 9 (.slice (some ⟨b, 0, none⟩) L.length c)).run Tryz.prog w = .ok (.string ⟨L.toArray⟩) w :=
  run_convert_bytes_back w _ _ 5 ⟨b, 0, none⟩ c L Tryz.underlying22 Tryz.underlying5 Tryz.underlying9 (fun j hj => by
    rw [addr_add, Nat.zero_add, (h j hj).1]
    unfold byteAt
    simp [List.getD, hj])

/-- What two worn words of one length tell: the first k letters of a, where they are gone, from b. -/
def agTo (a b : List UInt8) (k : Nat) : List UInt8 := (List.range a.length).map (fun j => if j < k ∧ byteAt a j = 46 then b.getD j 0 else a.getD j 0)
theorem agTo_len (a b : List UInt8) (k : Nat) : (agTo a b k).length = a.length := by simp [agTo]
theorem agTo_zero (a b : List UInt8) : agTo a b 0 = a := by
  apply List.ext_getElem
  · simp [agTo]
  · intro i h1 h2; simp [agTo, List.getD, h2]
theorem agTo_at {a b : List UInt8} {k j : Nat} (hj : j < a.length) : byteAt (agTo a b k) j = if j < k ∧ byteAt a j = 46 then byteAt b j else byteAt a j := by
  have : (agTo a b k).getD j 0 = if j < k ∧ byteAt a j = 46 then b.getD j 0 else a.getD j 0 := by
    simp [agTo, List.getD, hj]
  show (((agTo a b k).getD j 0).toNat : Int) = _
  rw [this]
  split <;> rfl
theorem agTo_gone {a b : List UInt8} {k : Nat} (hk : k < a.length) (h : byteAt a k = 46) : agTo a b (k + 1) = (agTo a b k).set k (b.getD k 0) := by
  apply List.ext_getElem
  · simp [agTo]
  · intro i h1 h2
    rw [List.getElem_set]
    simp only [agTo, List.getElem_map, List.getElem_range]
    by_cases e : k = i
    · subst e; rw [if_pos rfl, if_pos ⟨by omega, h⟩]
    · rw [if_neg e]
      by_cases hi : i < k
      · have : i < k + 1 := by omega
        simp [hi, this]
      · have : ¬ i < k + 1 := by omega
        simp [hi, this]
theorem agTo_kept {a b : List UInt8} {k : Nat} (h : byteAt a k ≠ 46) : agTo a b (k + 1) = agTo a b k := by
  apply List.ext_getElem
  · simp [agTo]
  · intro i h1 h2
    simp only [agTo, List.getElem_map, List.getElem_range]
    by_cases e : k = i
    · subst e; simp [h]
    · by_cases hi : i < k
      · have : i < k + 1 := by omega
        simp [hi, this]
      · have : ¬ i < k + 1 := by omega
        simp [hi, this]
/-- At place j they differ. -/
def clash (a b : List UInt8) (j : Nat) : Bool := (byteAt a j != 46 && byteAt b j != 46) && byteAt a j != byteAt b j
def agB (a b : List UInt8) : Bool := decide (a.length = b.length) && (List.range a.length).all (fun j => !clash a b j)
theorem agB_true {a b : List UInt8} : agB a b = true ↔ a.length = b.length ∧ ∀ j, j < a.length → clash a b j = false := by simp [agB]
theorem agB_len {a b : List UInt8} (h : a.length ≠ b.length) : agB a b = false := by simp [agB, h]
theorem agB_clash {a b : List UInt8} {k : Nat} (hk : k < a.length) (h : clash a b k = true) : agB a b = false := by
  rw [← Bool.not_eq_true, agB_true]
  rintro ⟨_, h'⟩
  rw [h' k hk] at h; cases h
def agV (a b : List UInt8) : ByteArray := if agB a b = true then ⟨(agTo a b a.length).toArray⟩ else ⟨#[]⟩
def agC (a b : List UInt8) : Int := if agB a b = true then 0 else 4
theorem ag_ok {a b : List UInt8} (h : agB a b = true) : agV a b = ⟨(agTo a b a.length).toArray⟩ ∧ agC a b = 0 := by unfold agV agC; rw [if_pos h, if_pos h]; exact ⟨rfl, rfl⟩
theorem ag_no {a b : List UInt8} (h : agB a b = false) : agV a b = ⟨#[]⟩ ∧ agC a b = 4 := by unfold agV agC; rw [h]; exact ⟨rfl, rfl⟩
def agreeV (a b : List UInt8) : ByteArray := if (wornB a && wornB b) = true then agV a b else ⟨#[]⟩
def agreeC (a b : List UInt8) : Int := if (wornB a && wornB b) = true then agC a b else 5

/-- A letter, or a blank, upside down; 0 if it cannot be turned. -/
def turnB (b : Int) : Int :=
  if b = 72 ∨ b = 73 ∨ b = 78 ∨ b = 79 ∨ b = 83 ∨ b = 88 ∨ b = 90 ∨ b = 32 then b else if b = 77 then 87 else if b = 87 then 77 else 0
/-- As the program says it: what is no capital stays. -/
def turnI (b : Int) : Int := if cap b = true then turnB b else b
theorem turnI_eq {b : Int} (h : cap b = true ∨ b = 32) : turnI b = turnB b := by
  unfold turnI
  rcases h with h | h
  · rw [if_pos h]
  · subst h; rfl
theorem turnB_bd (b : Int) (h : 0 ≤ b ∧ b ≤ 255) : 0 ≤ turnB b ∧ turnB b ≤ 255 := by unfold turnB; (repeat' split) <;> omega
def turn8 (x : UInt8) : UInt8 := UInt8.ofNat (turnB (x.toNat : Int)).toNat
def turnL (L : List UInt8) : List UInt8 := (L.map turn8).reverse
def ableB (b : Int) : Bool := turnB b != 0
noncomputable def canT (L : List UInt8) : Bool := vtext L && allOn ableB L
noncomputable def ttV (L : List UInt8) : ByteArray := if canT L = true then ⟨(turnL L).toArray⟩ else ⟨#[]⟩
noncomputable def ttC (L : List UInt8) : Int := if vtext L = true then if canT L = true then 0 else 4 else 1
end Go.Proofs.YtngondeaeipcfaaGreatDoor

namespace Go.Proofs.YtngondeaeipcfaaGreatDoor
open Go.RowKit

set_option maxRecDepth 100000 in
set_option maxHeartbeats 2000000 in
theorem areAllS_any (f : FuncId) (he : Enters Tryz.prog f) (p : ByteArray → Bool) (A : Option Addr) (xs : List ByteArray) (c : Nat) (w : World) (hn : xs.length ≤ maxLen) (hA : StrsAt w w.heap.size A xs)
    (hf : ∀ x ∈ xs, ∀ W, Below w.heap.size w W → Calls Tryz.prog f #[.string x] W fun e w' => e = .returned (.bool (p x)) ∧ Below W.heap.size W w') :
    Calls Tryz.prog 170 #[.slice A xs.length c, .func (.func f) #[] #[]] w fun e w' => e = .returned (.bool (xs.all p)) ∧ Below w.heap.size w w' := by
  unfold maxLen at hn
  generalize hS : xs.all p = S
  have HS := hide hS
  have HF := hide hf
  clear hS hf
  unfold Enters at he
  go_enter Tryz.func170, Tryz.ntmps170
  go_wp2
  go_loopw [9] (fun i wr => ∃ k : Nat, k ≤ xs.length ∧ i = .int .i64 k ∧ Hid (∀ j x, j < k → xs[j]? = some x → p x = true) ∧ Below w.heap.size w wr) (fun i _ => xs.length - (intOf i).toNat)
  case atStart => exact ⟨0, Nat.zero_le _, rfl, hide (fun j x hj => by omega), Below.refl _ _⟩
  case round =>
    obtain ⟨k, hk, rfl, hg, hB⟩ := hrel
    by_cases hlt : k < xs.length
    · obtain ⟨b, o, rfl, hb, hxs⟩ := hA (by intro e; rw [e] at hlt; simp at hlt)
      obtain ⟨x, hxk⟩ : ∃ x, xs[k]? = some x := ⟨xs[k]'hlt, List.getElem?_eq_getElem _⟩
      have hc : wr.cell? ⟨b, o + k, none⟩ = some (.string x) := (hB.cell (p := ⟨b, o + k, none⟩) hb).trans (hxs k x hxk)
      have HX := hide hxk
      have hi : (k : Int) < xs.length := by omega
      have h0 : (0 : Int) ≤ k := by omega
      have HC := hide (HF.out x (List.mem_of_getElem? hxk) wr hB)
      clear hxs hxk
      cases hb : p x
      · rw [hb] at HC
        go_wp2_with (go_at_fn f; refine HC.out.mono ?_; rintro e w1 ⟨rfl, hb1⟩)
        go_ret
        exact ⟨ret_bool (by rw [← HS.out, all_false_of HX.out hb]), hB.trans (hb1.mono hB.size)⟩
      · rw [hb] at HC
        go_wp2_with (go_at_fn f; refine HC.out.mono ?_; rintro e w1 ⟨rfl, hb1⟩)
        exact ⟨⟨k + 1, by omega, by go_num, hide (fun j y hj hy => by
          by_cases e : j = k
          · subst e; rw [HX.out] at hy; injection hy with hy; subst hy; exact hb
          · exact hg.out j y (by omega) hy), hB.trans (hb1.mono hB.size)⟩, by simp [intOf]; omega⟩
    · have HA := hide (all_true_of (p := p) (xs := xs) (fun j x hj => hg.out j x (by omega)))
      have hk' : k = xs.length := by omega
      clear hg
      go_wp2
      go_ret
      exact ⟨ret_bool (by rw [← HS.out, HA.out]), hB⟩

set_option maxRecDepth 100000 in
set_option maxHeartbeats 2000000 in
theorem areAllB_any (f : FuncId) (he : Enters Tryz.prog f) (Bm : Nat) (p : Int → Bool) (L : List UInt8) (n b c : Nat) (w : World) (hL : L.length = n) (hn : n ≤ maxLen) (hb : b < w.heap.size) (hA : BytesAt w b L)
    (hf : ∀ j, j < n → ∀ W, Below w.heap.size w W → Calls Tryz.prog f #[.int .u8 (byteAt L j), .pointer (some ⟨Bm, 0, none⟩)] W fun e w' => e = .returned (.bool (p (byteAt L j))) ∧ Below W.heap.size W w') :
    Calls Tryz.prog 245 #[.slice (some ⟨b, 0, none⟩) n c, .func (.func f) #[] #[.pointer (some ⟨Bm, 0, none⟩)]] w fun e w' => e = .returned (.bool (allOn p L)) ∧ Below w.heap.size w w' := by
  unfold maxLen at hn
  have HL := hide hL
  generalize hS : allOn p L = S
  have HS := hide hS
  have HF := hide hf
  clear hS hf hL
  unfold Enters at he
  go_enter Tryz.func245, Tryz.ntmps245
  go_wp2
  go_loopw [9] (fun i wr => ∃ k : Nat, k ≤ n ∧ i = .int .i64 k ∧ Hid (∀ j, j < k → p (byteAt L j) = true) ∧ Below w.heap.size w wr) (fun i _ => n - (intOf i).toNat)
  case atStart => exact ⟨0, Nat.zero_le _, rfl, hide (fun j hj => by omega), Below.refl _ _⟩
  case round =>
    obtain ⟨k, hk, rfl, hg, hB⟩ := hrel
    by_cases hlt : k < n
    · have hc : wr.cell? ⟨b, k, none⟩ = some (.int .u8 (byteAt L k)) := (hB.cell (p := ⟨b, k, none⟩) hb).trans (hA k (by rw [HL.out]; exact hlt)).1
      have hi : (k : Int) < n := by omega
      have h0 : (0 : Int) ≤ k := by omega
      have HC := hide (HF.out k hlt wr hB)
      cases hb : p (byteAt L k)
      · rw [hb] at HC
        go_wp2_with (go_at_fn f; refine HC.out.mono ?_; rintro e w1 ⟨rfl, hb1⟩)
        go_ret
        exact ⟨ret_bool (by rw [← HS.out, allOn_false (by rw [HL.out]; exact hlt) hb]), hB.trans (hb1.mono hB.size)⟩
      · rw [hb] at HC
        go_wp2_with (go_at_fn f; refine HC.out.mono ?_; rintro e w1 ⟨rfl, hb1⟩)
        exact ⟨⟨k + 1, by omega, by go_num, hide (fun j hj => by
          by_cases e : j = k
          · subst e; exact hb
          · exact hg.out j (by omega)), hB.trans (hb1.mono hB.size)⟩, by simp [intOf]; omega⟩
    · have HA := hide (allOn_true.2 (fun j hj => hg.out j (by rw [HL.out] at hj; omega)) : allOn p L = true)
      have hk' : k = n := by omega
      clear hg
      go_wp2
      go_ret
      exact ⟨ret_bool (by rw [← HS.out, HA.out]), hB⟩

set_option maxRecDepth 100000 in
set_option maxHeartbeats 1000000 in
theorem hasOnly1_any (g : FuncId) (he : Enters Tryz.prog g) (b : Int) (r : Bool) (Bm : Nat) (w : World) (hm : w.cell? ⟨Bm, 0, none⟩ = some (.func (.func g) #[] #[]))
    (hg : Calls Tryz.prog g #[.int .u8 b] w fun e w' => e = .returned (.bool r) ∧ Below w.heap.size w w') :
    Calls Tryz.prog 246 #[.int .u8 b, .pointer (some ⟨Bm, 0, none⟩)] w fun e w' => e = .returned (.bool r) ∧ Below w.heap.size w w' := by
  have HG := hide hg
  clear hg
  unfold Enters at he
  go_enter Tryz.func246, Tryz.ntmps246
  go_wp2_with (go_at_fn g; refine HG.out.mono ?_; rintro e w1 ⟨rfl, hb1⟩)
  go_ret
  exact ⟨rfl, hb1⟩

set_option maxRecDepth 100000 in
set_option maxHeartbeats 1000000 in
theorem hasOnly_any (g : FuncId) (he : Enters Tryz.prog g) (p : Int → Bool) (s : ByteArray) (w : World) (hs : s.size ≤ maxLen)
    (hg : ∀ j, j < s.size → ∀ W, Below w.heap.size w W → Calls Tryz.prog g #[.int .u8 (byteAt s.data.toList j)] W fun e w' => e = .returned (.bool (p (byteAt s.data.toList j))) ∧ Below W.heap.size W w') :
    Calls Tryz.prog 181 #[.string s, .func (.func g) #[] #[]] w fun e w' => e = .returned (.bool (allOn p s.data.toList)) ∧ Below w.heap.size w w' := by
  have hL : s.data.toList.length = s.size := by simp
  have HG := hide hg
  have HL := hide hL
  clear hg hL
  have hb0 : Below w.heap.size w (w.alloc (.cells #[.func (.func g) #[] #[]] 182)) := (Below.refl _ _).alloc (Nat.le_refl _) _
  have hs0 : (w.alloc (.cells #[.func (.func g) #[] #[]] 182)).heap.size = w.heap.size + 1 := by simp
  have hm0 := rangeAt_new' w #[.func (.func g) #[] #[]] 182 0 _ rfl
  obtain ⟨W1, c, hcv, hb1, hcells, hlt⟩ := bytes_new2 s (w.alloc (.cells #[.func (.func g) #[] #[]] 182))
  rw [hs0] at hcv hb1 hcells hlt
  have hm1 : ∀ W, Below (w.heap.size + 1) (w.alloc (.cells #[.func (.func g) #[] #[]] 182)) W → W.cell? ⟨w.heap.size, 0, none⟩ = some (.func (.func g) #[] #[]) := fun W h => (h.cell (p := ⟨w.heap.size, 0, none⟩) (Nat.lt_succ_self _)).trans hm0
  have HC := hide (areAllB_any _ (enters_of Tryz.func246 (by kernel_rfl) rfl) w.heap.size p s.data.toList s.size (w.heap.size + 1) c W1 HL.out hs hlt hcells
    (fun j hj W hW => hasOnly1_any g he _ _ _ W (hm1 W (hb1.trans (hW.mono (by omega)))) (HG.out j hj W (hb0.trans ((hb1.trans (hW.mono (by omega))).mono (by omega))))))
  have HB := hide (hb0.trans (hb1.mono (by omega)))
  clear hm0 hm1 hcells hb1 hb0 hs0
  go_enter Tryz.func181, Tryz.ntmps181
  go_wp2_with (go_at_call 245; refine HC.out.mono ?_; rintro e w2 ⟨rfl, hb2⟩)
  go_ret
  exact ⟨rfl, HB.out.trans (hb2.mono (by omega))⟩
end Go.Proofs.YtngondeaeipcfaaGreatDoor

namespace Go.Proofs.YtngondeaeipcfaaGreatDoor
open Go.RowKit

set_option maxHeartbeats 1000000 in
theorem isListed_any (s : ByteArray) (w : World) (hs : s.size ≤ maxLen) :
    Calls Tryz.prog 171 #[.string s] w fun e w' => e = .returned (.bool (lw s)) ∧ Below w.heap.size w w' := by
  have hL : s.data.toList.length = s.size := by simp
  have HL := hide hL
  have HC := hide (isWord_any s w hs)
  generalize hS : lw s = S
  have HS := hide hS
  clear hL hs hS
  cases hv : vword s.data.toList
  · rw [hv] at HC
    go_enter Tryz.func171, Tryz.ntmps171
    go_wp2_with (go_at_call 123; refine HC.out.mono ?_; rintro e w1 ⟨rfl, hb1⟩)
    go_ret
    exact ⟨ret_bool (by rw [← HS.out]; unfold lw lword; rw [hv]; rfl), hb1⟩
  · rw [hv] at HC
    go_enter Tryz.func171, Tryz.ntmps171
    go_wp2_with (go_at_call 123; refine HC.out.mono ?_; rintro e w1 ⟨rfl, hb1⟩)
    go_ret
    exact ⟨ret_bool (by rw [← HS.out]; unfold lw lword; rw [hv, HL.out]; simp; omega), hb1⟩

set_option maxHeartbeats 1000000 in
theorem implValidList_any (A : Option Addr) (xs : List ByteArray) (c : Nat) (hn : xs.length ≤ maxLen) (hx : ∀ x ∈ xs, x.size ≤ maxLen) (w : World) (hA : StrsAt w w.heap.size A xs) :
    Calls Tryz.prog 70 #[.slice A xs.length c] w fun e w' => e = .returned (.bool (vlist xs)) ∧ Below w.heap.size w w' := by
  have HC := hide (areAllS_any 171 (enters_of Tryz.func171 (by kernel_rfl) rfl) lw A xs c w hn hA (fun x h W _ => isListed_any x W (hx x h)))
  have hn' := hn
  unfold maxLen at hn'
  generalize hS : vlist xs = S
  have HS := hide hS
  clear hS
  by_cases h12 : xs.length ≤ 12
  · have hd : decide ((xs.length : Int) ≤ 12) = true := by simp; omega
    have H12 := hide h12
    clear h12
    go_enter Tryz.func70, Tryz.ntmps70
    go_wp2_with (go_at_call 170; refine HC.out.mono ?_; rintro e w1 ⟨rfl, hb1⟩)
    go_ret
    exact ⟨ret_bool (by rw [← HS.out]; unfold vlist; simp [H12.out]), hb1⟩
  · have hd : decide ((xs.length : Int) ≤ 12) = false := by simp; omega
    have H12 := hide h12
    clear h12
    go_enter Tryz.func70, Tryz.ntmps70
    go_wp2
    go_ret
    exact ⟨ret_bool (by rw [← HS.out]; unfold vlist; simp [H12.out]), Below.refl _ _⟩

set_option maxHeartbeats 1000000 in
theorem isOfWorn_any (b : Int) (w : World) :
    Calls Tryz.prog 241 #[.int .u8 b] w fun e w' => e = .returned (.bool (wornC b)) ∧ Below w.heap.size w w' := by
  cases hc : cap b
  · go_enter Tryz.func241, Tryz.ntmps241
    go_wp2_with (go_at_call 210; refine (isCapital_any _ _).mono ?_; rintro e w' ⟨rfl, rfl⟩; simp only [hc])
    go_ret
    exact ⟨ret_bool (by unfold wornC; rw [hc]; simp), Below.refl _ _⟩
  · go_enter Tryz.func241, Tryz.ntmps241
    go_wp2_with (go_at_call 210; refine (isCapital_any _ _).mono ?_; rintro e w' ⟨rfl, rfl⟩; simp only [hc])
    go_ret
    exact ⟨ret_bool (by unfold wornC; rw [hc]; rfl), Below.refl _ _⟩

set_option maxHeartbeats 1000000 in
theorem isWornWord_any (s : ByteArray) (w : World) (hs : s.size ≤ maxLen) :
    Calls Tryz.prog 173 #[.string s] w fun e w' => e = .returned (.bool (wornB s.data.toList)) ∧ Below w.heap.size w w' := by
  have HC := hide (hasOnly_any 241 (enters_of Tryz.func241 (by kernel_rfl) rfl) wornC s w hs (fun j _ W _ => isOfWorn_any _ W))
  have hL : s.data.toList.length = s.size := by simp
  have HL := hide hL
  unfold maxLen at hs
  generalize hS : wornB s.data.toList = S
  have HS := hide hS
  clear hS hL
  by_cases h20 : s.size ≤ 20
  · have hd : decide ((s.size : Int) ≤ 20) = true := by simp; omega
    have hd' : decide (s.size ≤ 20) = true := by simp; omega
    have H20 := hide h20
    clear h20
    go_enter Tryz.func173, Tryz.ntmps173
    go_wp2_with (go_at_call 181; refine HC.out.mono ?_; rintro e w1 ⟨rfl, hb1⟩)
    go_ret
    exact ⟨ret_bool (by rw [← HS.out]; unfold wornB; rw [HL.out]; simp [H20.out]), hb1⟩
  · have hd : decide ((s.size : Int) ≤ 20) = false := by simp; omega
    have hd' : decide (s.size ≤ 20) = false := by simp; omega
    have H20 := hide h20
    clear h20
    go_enter Tryz.func173, Tryz.ntmps173
    go_wp2
    go_ret
    exact ⟨ret_bool (by rw [← HS.out]; unfold wornB; rw [HL.out]; simp [H20.out]), Below.refl _ _⟩

set_option maxRecDepth 100000 in
set_option maxHeartbeats 4000000 in
theorem agree_any (a b : ByteArray) (w : World) (ha : a.size ≤ maxLen) (hb : b.size ≤ maxLen) :
    Calls Tryz.prog 174 #[.string a, .string b] w fun e w' => e = .returned (.tuple #[.string (agV a.data.toList b.data.toList), .int .i64 (agC a.data.toList b.data.toList)]) ∧ Below w.heap.size w w' := by
  unfold maxLen at ha hb
  have hLa : a.data.toList.length = a.size := by simp
  have hLb : b.data.toList.length = b.size := by simp
  have HLa := hide hLa
  have HLb := hide hLb
  generalize hV : agV a.data.toList b.data.toList = V
  generalize hC : agC a.data.toList b.data.toList = C
  have HV := hide hV
  have HC := hide hC
  clear hV hC hLa hLb
  by_cases hl : a.size = b.size
  · obtain ⟨W1, c, hcv, hb1, hBA, hlt⟩ := bytes_new2 a w
    have HBA := hide hBA
    have HE := hide hl
    have hd : ((a.size : Int) != (b.size : Int)) = false := by simp [hl]
    clear hBA hl
    go_enter Tryz.func174, Tryz.ntmps174
    go_wp2
    go_loopw [17] (fun i wr => ∃ k : Nat, k ≤ a.size ∧ i = .int .i64 k ∧ Below w.heap.size w wr ∧ w.heap.size < wr.heap.size ∧ Hid (BytesAt wr w.heap.size (agTo a.data.toList b.data.toList k)) ∧ Hid (∀ j, j < k → clash a.data.toList b.data.toList j = false))
      (fun i _ => a.size - (intOf i).toNat)
    case atStart => exact ⟨0, by omega, rfl, hb1, hlt, hide (by rw [agTo_zero]; exact HBA.out), hide (fun j hj => by omega)⟩
    case round =>
      obtain ⟨k, hk, rfl, hB, hsz, hcells, hg⟩ := hrel
      by_cases hlt2 : k < a.size
      · have hkb : k < b.size := by have := HE.out; omega
        have hi : (k : Int) < a.size := by omega
        have hib : (k : Int) < b.size := by omega
        have h0 : (0 : Int) ≤ k := by omega
        have hka : k < a.data.toList.length := by rw [HLa.out]; exact hlt2
        have hat := agTo_at (b := b.data.toList) (k := k) hka
        rw [if_neg (by omega)] at hat
        obtain ⟨hc0, hf0⟩ := hcells.out k (by rw [agTo_len]; exact hka)
        rw [hat] at hc0
        have HKA := hide hka
        have HB2 := hide (byteAt_get b k hkb)
        have hcl : clash a.data.toList b.data.toList k = ((byteAt a.data.toList k != 46 && byteAt b.data.toList k != 46) && byteAt a.data.toList k != byteAt b.data.toList k) := rfl
        have HCL := hide hcl
        have HGO := hide (fun (hw : clash a.data.toList b.data.toList k = false) => (fun j hj => by
          by_cases e : j = k
          · subst e; exact hw
          · exact hg.out j (by omega) : ∀ j, j < k + 1 → clash a.data.toList b.data.toList j = false))
        clear hat hka hcl
        have hbs := hB.size
        cases hga : (byteAt a.data.toList k == 46)
        · have hga' : (byteAt a.data.toList k != 46) = true := by simp [bne, hga]
          have HK := hide (agTo_kept (a := a.data.toList) (b := b.data.toList) (k := k) (by simpa using hga))
          cases hgb : ((b[k].toNat : Int) == 46)
          · have hgb' : ((b[k].toNat : Int) != 46) = true := by simp [bne, hgb]
            cases hgc : ((b[k].toNat : Int) != byteAt a.data.toList k)
            · go_wp2
              go_quiet (fail)
              go_wp2
              exact ⟨⟨k + 1, by omega, by go_num, below_drewN hB _, hsz, hide (by rw [HK.out]; exact hcells.out), hide (HGO.out (by
                rw [HCL.out, ← HB2.out]; simp only [bne, Bool.not_eq_false', beq_iff_eq] at hgc ⊢; simp [hgc]))⟩, by simp [intOf]; omega⟩
            · go_wp2
              go_quiet (fail)
              go_wp2
              go_ret2
              have HNO := ag_no (agB_clash HKA.out (a := a.data.toList) (b := b.data.toList) (by
                rw [HCL.out, ← HB2.out, hga', hgb']; simp only [bne, Bool.not_eq_true', beq_eq_false_iff_ne] at hgc ⊢; simp [Ne.symm hgc]))
              exact ⟨ret_si (HNO.1.symm.trans HV.out) (HNO.2.symm.trans HC.out), below_drewN hB _⟩
          · have hgb' : ((b[k].toNat : Int) != 46) = false := by simp [bne, hgb]
            go_wp2
            go_quiet (fail)
            go_wp2
            exact ⟨⟨k + 1, by omega, by go_num, below_drewN hB _, hsz, hide (by rw [HK.out]; exact hcells.out), hide (HGO.out (by rw [HCL.out, ← HB2.out, hgb']; simp))⟩, by simp [intOf]; omega⟩
        · have hga' : (byteAt a.data.toList k != 46) = false := by simp [bne, hga]
          have HK := hide (agTo_gone (a := a.data.toList) (b := b.data.toList) HKA.out (by simpa using hga))
          have HBK := hide (hcells.out.set (k := k) (by rw [agTo_len]; exact HKA.out) (b[k]))
          have HGD : Hid (b.data.toList.getD k 0 = b[k]) := hide (by simp [List.getD, hkb]; rfl)
          have HG2 := hide (HGO.out (by rw [HCL.out, hga']; rfl))
          have hc2 := World.cell?_setCell_same' wr ⟨w.heap.size, k, none⟩ (.int .u8 (b[k].toNat : Int)) (by rw [hc0]; rfl)
          cases hgb : ((b[k].toNat : Int) != 46)
          · go_wp2
            go_quiet (fail)
            go_wp2
            exact ⟨⟨k + 1, by omega, by go_num, below_drewN (hB.setCell (p := ⟨w.heap.size, k, none⟩) (Nat.le_refl _) _) _, (by show w.heap.size < (wr.setCell _ _).heap.size; rw [size_setCell]; exact hsz), hide (by rw [HK.out, HGD.out]; exact HBK.out), HG2⟩, by simp [intOf]; omega⟩
          · go_wp2
            go_quiet (fail)
            go_wp2
            exact ⟨⟨k + 1, by omega, by go_num, below_drewN (hB.setCell (p := ⟨w.heap.size, k, none⟩) (Nat.le_refl _) _) _, (by show w.heap.size < (wr.setCell _ _).heap.size; rw [size_setCell]; exact hsz), hide (by rw [HK.out, HGD.out]; exact HBK.out), HG2⟩, by simp [intOf]; omega⟩
      · obtain rfl : k = a.size := by omega
        have HOK := hide (ag_ok (agB_true.2 ⟨by rw [HLa.out, HLb.out]; exact HE.out, fun j hj => hg.out j (by rw [← HLa.out]; exact hj)⟩))
        have hbk := bytes_back (c := c) hcells.out
        rw [agTo_len, HLa.out] at hbk
        go_wp2
        go_ret2
        exact ⟨ret_si (by rw [← HV.out, HOK.out.1, HLa.out]) (HOK.out.2.symm.trans HC.out), hB⟩
  · have hd : ((a.size : Int) != (b.size : Int)) = true := by simp; omega
    have HP := hide (ag_no (agB_len (a := a.data.toList) (b := b.data.toList) (by rw [HLa.out, HLb.out]; exact hl)))
    have HE := hide hl
    clear hl
    go_enter Tryz.func174, Tryz.ntmps174
    go_wp2
    go_ret2
    exact ⟨ret_si (HP.out.1.symm.trans HV.out) (HP.out.2.symm.trans HC.out), Below.refl _ _⟩
end Go.Proofs.YtngondeaeipcfaaGreatDoor
