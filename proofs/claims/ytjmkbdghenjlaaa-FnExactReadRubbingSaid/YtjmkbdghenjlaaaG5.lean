/- The program's search for a pair: BinarySearchFunc, findPair, byOf. · The face's part of every law. · The program's width of a word. · The program's test of a text. · ValidText: the model and the program give the same answer for every text. · Lists of texts in memory: how big they are, their copies, and whether two are equal. -/
import Derived.Test.YtjmkbdghenjlaaaG3
import Derived.Test.YtjmkbdghenjlaaaG4
import Derived.Test.YtjmkbdghenjlaaaG2
import Derived.Test.YtjmkbdghenjlaaaG1
import Derived.LoopTactic
import Derived.Laws.EntriesVeiled
import Derived.Laws.IdiomStrings
import Derived.Deep.QuietTactic
import Derived.BigQuiet

namespace Go.Proofs.Ytjmkbdghenjlaaa
open Go.RowKit

theorem ret_ib {i j : Int} {a b : Bool} (h : i = j) (h' : a = b) : Ending.returned (.tuple #[.int .i64 i, .bool a]) = .returned (.tuple #[.int .i64 j, .bool b]) := by rw [h, h']
theorem ret_ii {i j a b : Int} {k k' : IntKind} (h : i = j) (h' : a = b) : Ending.returned (.tuple #[.int k i, .int k' a]) = .returned (.tuple #[.int k j, .int k' b]) := by rw [h, h']
end Go.Proofs.Ytjmkbdghenjlaaa

namespace Go.Proofs.Ytjmkbdghenjlaaa
open Go.RowKit

theorem loadAt_over {P : Program} {W : World} {b o : Nat} {cs : List Value} {ty : TypeId} {d : TypeDesc} (hc : W.rangeAt b o cs) (hlt : b < W.heap.size)
    (hu : P.underlying ty = some d) (hd : d.isRow = true) (hi : (P.info? ty).map (·.size) = some cs.length) :
    ∀ w', Below W.heap.size W w' → (Instr.loadAt ty (.pointer (some ⟨b, o, none⟩))).run P w' = .ok (.agg cs.toArray) w' :=
  fun w' h => run_loadAt_mid w' b o ty cs d (rangeAt_below hc h hlt) hu hd hi
theorem PairsAt.go {W w' : World} {B : Nat} {A : Option Addr} {ps : List (Int × Int × Int)} (h : PairsAt W B A ps) (hb : Below W.heap.size W w') (hB : B ≤ W.heap.size) : PairsAt w' w'.heap.size A ps :=
  (h.below (hb.mono hB)).mono (Nat.le_trans hB hb.size)
theorem PairsIn.go {W w' : World} {L : Nat} {A : Option Addr} {ps : List (Int × Int × Int)} (h : PairsIn W L A ps) (hb : Below W.heap.size W w') : PairsAt w' w'.heap.size A ps :=
  (h.below hb (Nat.le_refl _)).at_
theorem rangeAt_over {W w' : World} {b o : Nat} {cs : List Value} (h : W.rangeAt b o cs) (hb : Below W.heap.size W w') (hlt : b < W.heap.size) : w'.rangeAt b o cs := rangeAt_below h hb hlt
/-- Two rows are kept in every world over W. -/
theorem keepS {W w' : World} {b b' : Nat} {cs cs' : List Value} (hb : Below W.heap.size W w') (r : W.rangeAt b 0 cs) (hlt : b < W.heap.size) (r' : W.rangeAt b' 0 cs') (hlt' : b' < W.heap.size) :
    Below W.heap.size W w' ∧ w'.rangeAt b 0 cs ∧ w'.rangeAt b' 0 cs' := ⟨hb, rangeAt_below r hb hlt, rangeAt_below r' hb hlt'⟩
end Go.Proofs.Ytjmkbdghenjlaaa

namespace Go.Proofs.Ytjmkbdghenjlaaa
open Go.RowKit

end Go.Proofs.Ytjmkbdghenjlaaa

namespace Go.Proofs.Ytjmkbdghenjlaaa
open Go.RowKit

def kindN (b : Int) : Int := if cap b then 0 else if b = 32 then 1 else 2

theorem kindN_cap {b : Int} (h : cap b = true) : kindN b = 0 := by unfold kindN; rw [h]; rfl
theorem kindN_blank {b : Int} (h : b = 32) : kindN b = 1 := by unfold kindN; rw [cap_32 h]; simp [h]
theorem kindN_other {b : Int} (h : cap b = false) (h' : b ≠ 32) : kindN b = 2 := by unfold kindN; rw [h]; simp [h']
theorem kindN_cases (b : Int) : (kindN b = 0 ∧ cap b = true) ∨ (kindN b = 1 ∧ b = 32) ∨ (kindN b = 2 ∧ cap b = false ∧ b ≠ 32) := by
  cases h : cap b
  · by_cases h' : b = 32
    · exact .inr (.inl ⟨kindN_blank h', h'⟩)
    · exact .inr (.inr ⟨kindN_other h h', rfl, h'⟩)
  · exact .inl ⟨kindN_cap h, rfl⟩

theorem below_trans_drew {w w' : World} {o : Obj} (h : w' = w.drew.alloc o) : Below w.heap.size w w' := by
  subst h; exact (Below.refl _ _).drew.alloc (Nat.le_refl _) o
/-- A text's bytes are laid in a new block. -/
theorem bytes_new (s : ByteArray) (w : World) : ∃ W1 c, (convert 9 53 (.string s)).run Try.prog w = .ok (.slice (some ⟨w.heap.size, 0, none⟩) s.size c) W1 ∧ Below w.heap.size w W1 ∧
    ∀ j (h : j < s.size), W1.cell? ⟨w.heap.size, j, none⟩ = some (.int .u8 (s[j].toNat : Int)) := by
  refine ⟨_, _, run_bytes_of_string w _ _ _ s Try.underlying9 Try.underlying53 Try.underlying5, below_trans_drew rfl, fun j h => ?_⟩
  exact (cell_of_row _ _ _ _ _ _ (heap_alloc_new w.drew _)).trans (bytesRow_at s _ j h)

/-- The kind of the byte before place k; the beginning counts as a blank. -/
def prevK (L : List UInt8) (k : Nat) : Int := if k = 0 then 1 else kindN (byteAt L (k - 1))
theorem prevK_zero (L : List UInt8) : prevK L 0 = 1 := rfl
theorem prevK_succ (L : List UInt8) (k : Nat) : prevK L (k + 1) = kindN (byteAt L k) := by simp [prevK]
theorem kindN_one {b : Int} : kindN b = 1 ↔ b = 32 := by
  refine ⟨fun h => ?_, kindN_blank⟩
  rcases kindN_cases b with ⟨h1, _⟩ | ⟨_, h2⟩ | ⟨h1, _⟩
  · omega
  · exact h2
  · omega
theorem prevK_one {L : List UInt8} {k : Nat} : prevK L k = 1 ↔ k = 0 ∨ byteAt L (k - 1) = 32 := by
  unfold prevK
  split
  · simp [*]
  · rw [kindN_one]; simp [*]
theorem prevK_bd (L : List UInt8) (k : Nat) : 0 ≤ prevK L k ∧ prevK L k ≤ 2 := by
  unfold prevK kindN
  (repeat' split) <;> omega
/-- The byte at place i is as it has to be, but for the text's end. -/
def goodP (L : List UInt8) (i : Nat) : Prop := (byteAt L i = 32 ∧ prevK L i ≠ 1) ∨ cap (byteAt L i) = true
theorem all_good {L : List UInt8} (h : ∀ i, i < L.length → goodP L i) (he : L.length = 0 ∨ prevK L L.length ≠ 1) : ∀ i, i < L.length → good L i := by
  intro i hi
  rcases h i hi with ⟨h1, h2⟩ | h1
  · have h3 : ¬ (i = 0 ∨ byteAt L (i - 1) = 32) := fun e => h2 (prevK_one.2 e)
    refine .inl ⟨h1, by omega, ?_, fun e => h3 (.inr e)⟩
    rcases he with he | he
    · omega
    · by_cases e : i + 1 < L.length
      · exact e
      · have : i = L.length - 1 := by omega
        exact (he (prevK_one.2 (.inr (by rw [← this]; exact h1)))).elim
  · exact .inr h1
theorem good_P {L : List UInt8} {i : Nat} (h : good L i) : goodP L i := by
  rcases h with ⟨h1, h2, _, h4⟩ | h
  · exact .inl ⟨h1, fun e => by
      rcases prevK_one.1 e with e | e
      · omega
      · exact h4 e⟩
  · exact .inr h
theorem good_end {L : List UInt8} (h : ∀ i, i < L.length → good L i) (h0 : 0 < L.length) : prevK L L.length ≠ 1 := by
  intro e
  rcases prevK_one.1 e with e | e
  · omega
  · rcases h (L.length - 1) (by omega) with ⟨_, _, h3, _⟩ | h
    · omega
    · rw [cap_32 e] at h; cases h

end Go.Proofs.Ytjmkbdghenjlaaa

namespace Go.Proofs.Ytjmkbdghenjlaaa
open Go.RowKit

end Go.Proofs.Ytjmkbdghenjlaaa

namespace Go.Proofs.Ytjmkbdghenjlaaa
open Go.RowKit

/-- The texts xs lie at A, in a block below B. -/
def StrsAt (w : World) (B : Nat) (A : Option Addr) (xs : List ByteArray) : Prop :=
  xs ≠ [] → ∃ b o, A = some ⟨b, o, none⟩ ∧ b < B ∧ ∀ k x, xs[k]? = some x → w.cell? ⟨b, o + k, none⟩ = some (.string x)
theorem StrsAt.below {w w' : World} {B : Nat} {A : Option Addr} {xs : List ByteArray} (h : StrsAt w B A xs) (hb : Below B w w') : StrsAt w' B A xs :=
  fun hn => by obtain ⟨b, o, e, hlt, hc⟩ := h hn; exact ⟨b, o, e, hlt, fun k x hx => (hb.cell (p := ⟨b, o + k, none⟩) hlt).trans (hc k x hx)⟩
theorem StrsAt.mono {w : World} {B B' : Nat} {A : Option Addr} {xs : List ByteArray} (h : StrsAt w B A xs) (hB : B ≤ B') : StrsAt w B' A xs :=
  fun hn => by obtain ⟨b, o, e, hlt, hc⟩ := h hn; exact ⟨b, o, e, by omega, hc⟩
theorem StrsAt.nil (w : World) (B : Nat) (A : Option Addr) : StrsAt w B A [] := fun h => (h rfl).elim
theorem StrsAt.go {W w' : World} {A : Option Addr} {xs : List ByteArray} (h : StrsAt W W.heap.size A xs) (hb : Below W.heap.size W w') : StrsAt w' w'.heap.size A xs := (h.below hb).mono hb.size
/-- The texts xs lie at A, in a block from L on, and may be written there. -/
def StrsIn (w : World) (L : Nat) (A : Option Addr) (xs : List ByteArray) : Prop :=
  xs ≠ [] → ∃ b o, A = some ⟨b, o, none⟩ ∧ L ≤ b ∧ b < w.heap.size ∧ (∀ k x, xs[k]? = some x → w.cell? ⟨b, o + k, none⟩ = some (.string x)) ∧ w.there b o xs.length
theorem StrsIn.at_ {w : World} {L : Nat} {A : Option Addr} {xs : List ByteArray} (h : StrsIn w L A xs) : StrsAt w w.heap.size A xs :=
  fun hn => by obtain ⟨b, o, e, _, h2, h3, _⟩ := h hn; exact ⟨b, o, e, h2, h3⟩

/-- What a size leaves. -/
def szLoop (l : Int) : List ByteArray → Int
  | [] => l
  | x :: xs => if l - x.size < 0 then -1 else szLoop (l - x.size) xs
def szS (l : Int) (xs : List ByteArray) : Int := if l - xs.length < 0 then -1 else szLoop (l - xs.length) xs
theorem szLoop_ge : ∀ (xs : List ByteArray) (l : Int), 0 ≤ szLoop l xs → sumL (xs.map byts) ≤ l
  | [], l, h => by simpa [szLoop, sumL] using h
  | x :: xs, l, h => by
    unfold szLoop at h
    split at h
    · omega
    · have ih := szLoop_ge xs _ h
      have hx : (byts x).length = x.size := by simp [byts]
      simp only [sumL, List.map_cons, List.sum_cons] at ih ⊢
      omega
theorem szS_ge {xs : List ByteArray} {l : Int} (h : 0 ≤ szS l xs) (hl : 0 ≤ l) : (xs.length : Int) ≤ l ∧ sumL (xs.map byts) ≤ l := by
  unfold szS at h
  split at h
  · omega
  · have := szLoop_ge _ _ h; omega
theorem byts_len (x : ByteArray) : (byts x).length = x.size := by simp [byts]
theorem sum_mem {xs : List ByteArray} {x : ByteArray} (h : x ∈ xs) : x.size ≤ sumL (xs.map byts) := by
  induction xs with
  | nil => cases h
  | cons y r ih =>
    simp only [sumL, List.map_cons, List.sum_cons, List.mem_cons, byts_len] at *
    rcases h with rfl | h
    · omega
    · have := ih h; omega

theorem Try.infoString : (Try.prog.info? 9).map (fun i => (i.zero, i.size, i.bytes)) = some (some (.string ⟨#[]⟩), 1, 16) := by kernel_rfl

end Go.Proofs.Ytjmkbdghenjlaaa
