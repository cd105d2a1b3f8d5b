/- Letters at their places: data; those of the program. -/
import Derived.Test.YtjgcadohjccfaaaDoorPrC
import Derived.Test.YtjgcadohjccfaaaDoorFlat
import Derived.Test.YtjgcadohjccfaaaDoorPrD
import Derived.Shelf.Abstract
namespace Go.Proofs.YtjgcadohjccfaaaDoor
open Go Go.RowKit

/-! Data -/
def plc (p : Pr) : List Value := [.int .u8 p.1, .int .i64 p.2]
theorem plc_len (p : Pr) : (plc p).length = 2 := rfl
/-- The first k letters at their places. -/
def psT (X : List UInt8) (a : List Int) (k : Nat) : List Pr := (List.range k).map (fun i => (byteAt X i, a.getD i 0))
theorem psT_succ (X : List UInt8) (a : List Int) (k : Nat) : psT X a (k + 1) = psT X a k ++ [(byteAt X k, a.getD k 0)] := by simp [psT, List.range_succ]
theorem psT_len (X : List UInt8) (a : List Int) (k : Nat) : (psT X a k).length = k := by simp [psT]
theorem psT_get {X : List UInt8} {a : List Int} {n k : Nat} (h : k < n) : (psT X a n)[k]? = some (byteAt X k, a.getD k 0) := by simp [psT, h]
def PlB (R : List Pr) (w : World) : Ending → World → Prop := fun e w' => ∃ A' c', e = .returned (.slice A' R.length c') ∧ R.length ≤ c' ∧ RowsIn 2 plc w' w.heap.size A' R ∧ Below w.heap.size w w'
theorem RowsAt.two {w : World} {B : Nat} {A : Option Addr} {xs : List Pr} (h : RowsAt 2 plc w B A xs) {k : Nat} {p : Pr} (hp : xs[k]? = some p) :
    ∃ b o, A = some ⟨b, o, none⟩ ∧ b < B ∧ w.cell? ⟨b, o + k * 2, none⟩ = some (.int .u8 p.1) ∧ w.cell? ⟨b, o + k * 2 + 1, none⟩ = some (.int .i64 p.2) := by
  obtain ⟨b, o, rfl, hb, hr⟩ := h (by intro e; rw [e] at hp; simp at hp)
  exact ⟨b, o, rfl, hb, hr k p hp 0 _ rfl, hr k p hp 1 _ rfl⟩

theorem Tryd.infoPlaced : (Tryd.prog.info? 145).map (fun i => (i.zero, i.size, i.bytes)) = some (some (.agg #[.int .u8 0, .int .i64 0]), 2, 16) := by kernel_rfl
theorem eql_placed (a b c d : Int) (w : World) : (binOp .eql 145 (.agg #[.int .u8 a, .int .i64 b]) (.agg #[.int .u8 c, .int .i64 d])).run Tryd.prog w = .ok (.bool (a == c && b == d)) w := by
  rw [run_eql_struct, run_equalIn_struct w 9999 _ _ _ (by kernel_rfl) (by kernel_rfl)]
  go_simp
  by_cases h1 : a = c
  · by_cases h2 : b = d
    · simp [h1, h2]
    · simp [h1, h2]
  · simp [h1]

set_option maxRecDepth 100000 in
set_option maxHeartbeats 4000000 in
theorem indexP_any (A : Option Addr) (xs : List Pr) (c : Nat) (v : Pr) (w : World) (hn : xs.length ≤ 1000) (hA : RowsAt 2 plc w w.heap.size A xs) :
    Calls Tryd.prog 123 #[.slice A xs.length c, .agg #[.int .u8 v.1, .int .i64 v.2]] w fun e w' => ∃ r : Int, e = .returned (.int .i64 r) ∧ (0 ≤ r ↔ v ∈ xs) ∧ Below w.heap.size w w' := by
  have HH := hide (fun k (h : xs[k]? = some v) => show v ∈ xs from List.mem_of_getElem? h)
  have HN := hide (fun (h : ∀ (j : Nat) u, j < xs.length → xs[j]? = some u → u ≠ v) => show v ∉ xs from fun hm => by
    obtain ⟨j, hj⟩ := List.getElem?_of_mem hm
    exact h j v (List.getElem?_eq_some_iff.1 hj).1 hj rfl)
  obtain ⟨n, hL⟩ : ∃ n, xs.length = n := ⟨_, rfl⟩
  have HL := hide hL
  have HX := hide hA
  have hB0 : Below w.heap.size w (w.alloc (.cells #[.int .u8 v.1, .int .i64 v.2] 145)) := (Below.refl _ _).alloc (Nat.le_refl _) _
  have rv := rangeAt_new' w #[.int .u8 v.1, .int .i64 v.2] 145
  have hs0 : (w.alloc (.cells #[.int .u8 v.1, .int .i64 v.2] 145)).heap.size = w.heap.size + 1 := by simp
  rw [hL] at hn HN ⊢
  clear hL hA
  go_enter Tryd.func123, Tryd.ntmps123
  go_wp2
  generalize (w.alloc (.cells #[.int .u8 v.1, .int .i64 v.2] 145)) = W0 at *
  go_loopw [8] (fun i wr => ∃ k : Nat, k ≤ n ∧ i = .int .i64 k ∧ Hid (∀ (j : Nat) u, j < k → xs[j]? = some u → u ≠ v) ∧ Below W0.heap.size W0 wr)
    (fun i _ => n - (intOf i).toNat)
  case atStart => exact ⟨0, by omega, rfl, hide (fun j u h => absurd h (by omega)), Below.refl _ _⟩
  case round =>
    obtain ⟨k, hk, rfl, hg, hB⟩ := hrel
    by_cases hlt : k < n
    · obtain ⟨p, hp⟩ : ∃ p, xs[k]? = some p := ⟨xs[k]'(by rw [HL.out]; exact hlt), List.getElem?_eq_getElem _⟩
      obtain ⟨b, o, rfl, hb, d0, d1⟩ := HX.out.two hp
      have c0 := ((hB0.trans (hB.mono hB0.size)).cell (p := ⟨b, o + k * 2, none⟩) hb).trans d0
      have c1 := ((hB0.trans (hB.mono hB0.size)).cell (p := ⟨b, o + k * 2 + 1, none⟩) hb).trans d1
      have v0 : wr.cell? ⟨w.heap.size, 0, none⟩ = some (.int .u8 v.1) := (hB.cell (p := ⟨w.heap.size, 0, none⟩) (by show w.heap.size < W0.heap.size; omega)).trans (rv 0 _ rfl)
      have v1 : wr.cell? ⟨w.heap.size, 1, none⟩ = some (.int .i64 v.2) := (hB.cell (p := ⟨w.heap.size, 1, none⟩) (by show w.heap.size < W0.heap.size; omega)).trans (rv 1 _ rfl)
      have hi : (k : Int) < n := by omega
      have h0 : (0 : Int) ≤ k := by omega
      have HP := hide hp
      have HB := hide hB
      clear d0 d1 hp hB
      have hq := eql_placed v.1 v.2 p.1 p.2
      by_cases he : p = v
      · subst he
        have HR := hide (HH.out k HP.out)
        have hd : (p.1 == p.1 && p.2 == p.2) = true := by simp
        go_wp2
        go_quiet (fail)
        go_wp2
        go_ret
        exact ⟨k, rfl, ⟨fun _ => HR.out, fun _ => h0⟩, hB0.trans ((below_drewN HB.out _).mono hB0.size)⟩
      · have hgo : Hid (∀ (j : Nat) u, j < k + 1 → xs[j]? = some u → u ≠ v) := hide (fun j u hj hu => by
          by_cases e : j = k
          · subst e; rw [HP.out] at hu; injection hu with hu; subst hu; exact he
          · exact hg.out j u (by omega) hu)
        have hd : (v.1 == p.1 && v.2 == p.2) = false := by
          obtain ⟨a, b⟩ := p; obtain ⟨c, d⟩ := v
          simp only [Bool.and_eq_false_iff, beq_eq_false_iff_ne]
          by_cases e : c = a
          · right; intro e2; exact he (by rw [e, e2])
          · left; exact e
        go_wp2
        go_quiet (fail)
        go_wp2
        exact ⟨⟨k + 1, by omega, by go_num, hgo, below_drewN HB.out _⟩, by simp [intOf]; omega⟩
    · obtain rfl : k = n := by omega
      have HR := hide (HN.out hg.out)
      go_wp2
      go_ret
      exact ⟨-1, rfl, ⟨fun h => absurd h (by decide), fun h => absurd h HR.out⟩, hB0.trans (hB.mono hB0.size)⟩

set_option maxHeartbeats 2000000 in
theorem containsP_any (A : Option Addr) (xs : List Pr) (c : Nat) (v : Pr) (w : World) (hn : xs.length ≤ 1000) (hA : RowsAt 2 plc w w.heap.size A xs) :
    Calls Tryd.prog 99 #[.slice A xs.length c, .agg #[.int .u8 v.1, .int .i64 v.2]] w fun e w' => e = .returned (.bool (decide (v ∈ xs))) ∧ Below w.heap.size w w' := by
  have hB0 : Below w.heap.size w (w.alloc (.cells #[.int .u8 v.1, .int .i64 v.2] 145)) := (Below.refl _ _).alloc (Nat.le_refl _) _
  have rv := rangeAt_new' w #[.int .u8 v.1, .int .i64 v.2] 145
  have v0 : (w.alloc (.cells #[.int .u8 v.1, .int .i64 v.2] 145)).cell? ⟨w.heap.size, 0, none⟩ = some (.int .u8 v.1) := rv 0 _ rfl
  have v1 : (w.alloc (.cells #[.int .u8 v.1, .int .i64 v.2] 145)).cell? ⟨w.heap.size, 1, none⟩ = some (.int .i64 v.2) := rv 1 _ rfl
  have HI := hide (indexP_any A xs c v _ hn (hA.go hB0))
  clear hA hn rv
  generalize xs.length = n at *
  go_enter Tryd.func99, Tryd.ntmps99
  go_wp2_with fail
  refine HI.out.mono ?_
  rintro e w1 ⟨r, rfl, hr, hb1⟩
  have HR := hide hr
  clear hr v0 v1
  go_wp2
  go_ret
  exact ⟨ret_bool (by have := HR.out; by_cases h : v ∈ xs <;> simp [h] at this ⊢ <;> omega), hB0.trans (hb1.mono hB0.size)⟩
end Go.Proofs.YtjgcadohjccfaaaDoor
