/- Lists of texts in memory: how big they are, their copies, and whether two are equal. -/
import Derived.Test.YtikndeloeeppaaaFace0
import Derived.Test.YtikndeloeeppaaaJoinP
import Derived.Deep.QuietTactic
import Derived.BigQuiet
import Derived.LoopTactic
namespace Go.Proofs.Ytikndeloeeppaaa
open Go.RowKit

/-- The texts xs lie at A, in a block below B. -/
def StrsAt (w : World) (B : Nat) (A : Option Addr) (xs : List ByteArray) : Prop :=
  xs ≠ [] → ∃ b o, A = some ⟨b, o, none⟩ ∧ b < B ∧ ∀ k x, xs[k]? = some x → w.cell? ⟨b, o + k, none⟩ = some (.string x)
theorem StrsAt.below {w w' : World} {B : Nat} {A : Option Addr} {xs : List ByteArray} (h : StrsAt w B A xs) (hb : Below B w w') : StrsAt w' B A xs :=
  fun hn => by obtain ⟨b, o, e, hlt, hc⟩ := h hn; exact ⟨b, o, e, hlt, fun k x hx => (hb.cell (p := ⟨b, o + k, none⟩) hlt).trans (hc k x hx)⟩
theorem StrsAt.mono {w : World} {B B' : Nat} {A : Option Addr} {xs : List ByteArray} (h : StrsAt w B A xs) (hB : B ≤ B') : StrsAt w B' A xs :=
  fun hn => by obtain ⟨b, o, e, hlt, hc⟩ := h hn; exact ⟨b, o, e, by omega, hc⟩
theorem StrsAt.nil (w : World) (B : Nat) (A : Option Addr) : StrsAt w B A [] := fun h => (h rfl).elim
theorem StrsAt.go {W w' : World} {A : Option Addr} {xs : List ByteArray} (h : StrsAt W W.heap.size A xs) (hb : Below W.heap.size W w') : StrsAt w' w'.heap.size A xs := (h.below hb).mono hb.size
/-- The texts xs lie at A, in a block from L on, and may be written there. -/
def StrsIn (w : World) (L : Nat) (A : Option Addr) (xs : List ByteArray) : Prop :=
  xs ≠ [] → ∃ b o, A = some ⟨b, o, none⟩ ∧ L ≤ b ∧ b < w.heap.size ∧ (∀ k x, xs[k]? = some x → w.cell? ⟨b, o + k, none⟩ = some (.string x)) ∧ w.there b o xs.length
theorem StrsIn.at_ {w : World} {L : Nat} {A : Option Addr} {xs : List ByteArray} (h : StrsIn w L A xs) : StrsAt w w.heap.size A xs :=
  fun hn => by obtain ⟨b, o, e, _, h2, h3, _⟩ := h hn; exact ⟨b, o, e, h2, h3⟩

/-- What a size leaves. -/
def szLoop (l : Int) : List ByteArray → Int
  | [] => l
  | x :: xs => if l - x.size < 0 then -1 else szLoop (l - x.size) xs
def szS (l : Int) (xs : List ByteArray) : Int := if l - xs.length < 0 then -1 else szLoop (l - xs.length) xs
theorem szLoop_ge : ∀ (xs : List ByteArray) (l : Int), 0 ≤ szLoop l xs → sumL (xs.map byts) ≤ l
  | [], l, h => by simpa [szLoop, sumL] using h
  | x :: xs, l, h => by
    unfold szLoop at h
    split at h
    · omega
    · have ih := szLoop_ge xs _ h
      have hx : (byts x).length = x.size := by simp [byts]
      simp only [sumL, List.map_cons, List.sum_cons] at ih ⊢
      omega
theorem szS_ge {xs : List ByteArray} {l : Int} (h : 0 ≤ szS l xs) (hl : 0 ≤ l) : (xs.length : Int) ≤ l ∧ sumL (xs.map byts) ≤ l := by
  unfold szS at h
  split at h
  · omega
  · have := szLoop_ge _ _ h; omega
theorem byts_len (x : ByteArray) : (byts x).length = x.size := by simp [byts]
theorem sum_mem {xs : List ByteArray} {x : ByteArray} (h : x ∈ xs) : x.size ≤ sumL (xs.map byts) := by
  induction xs with
  | nil => cases h
  | cons y r ih =>
    simp only [sumL, List.map_cons, List.sum_cons, List.mem_cons, byts_len] at *
    rcases h with rfl | h
    · omega
    · have := ih h; omega

theorem Try.infoString : (Try.prog.info? 9).map (fun i => (i.zero, i.size, i.bytes)) = some (some (.string ⟨#[]⟩), 1, 16) := by kernel_rfl

set_option maxHeartbeats 1000000 in
theorem eqStringS_same (A A' : Option Addr) (xs : List ByteArray) (c c' : Nat) (w : World) (hn : xs.length ≤ maxLen) (hA : StrsAt w w.heap.size A xs) (hA' : StrsAt w w.heap.size A' xs) :
    Calls Try.prog 55 #[.slice A xs.length c, .slice A' xs.length c'] w fun e w' => e = .returned (.bool true) ∧ Below w.heap.size w w' := by
  unfold maxLen at hn
  generalize hL : xs.length = n at *
  have HL := hide hL
  clear hL
  go_enter Try.func55, Try.ntmps55
  go_wp2
  go_loopw [5] (fun i wr => ∃ k m : Nat, k ≤ n ∧ i = .int .i64 k ∧ wr = w.drewN m)
    (fun i _ => n - (intOf i).toNat)
  case atStart => exact ⟨0, 0, by omega, rfl, rfl⟩
  case round =>
    obtain ⟨k, m, hk, rfl, rfl⟩ := hrel
    by_cases hlt : k < n
    · have hne : xs ≠ [] := by intro e; rw [e] at HL; have := HL.out; simp at this; omega
      obtain ⟨b, o, rfl, hb, hxs⟩ := hA hne
      obtain ⟨b', o', rfl, hb', hxs'⟩ := hA' hne
      obtain ⟨x, hx⟩ : ∃ x, xs[k]? = some x := ⟨xs[k]'(by rw [HL.out]; exact hlt), List.getElem?_eq_getElem _⟩
      have c0 := hxs k x hx
      have d0 := hxs' k x hx
      have hi : (k : Int) < n := by omega
      have h0 : (0 : Int) ≤ k := by omega
      clear hxs hxs' hA hA'
      go_wp2
      go_quiet (fail)
      go_wp2
      exact ⟨⟨k + 1, _, by omega, by go_num, rfl⟩, by simp [intOf]; omega⟩
    · go_wp2
      go_ret
      exact ⟨rfl, ⟨rfl, rfl, rfl, Nat.le_refl _, fun _ _ => rfl⟩⟩
end Go.Proofs.Ytikndeloeeppaaa
