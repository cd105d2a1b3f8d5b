/- Letters at their places: data; those of the program. -/
import Derived.Test.YtngondeaeipcfaaDoorPrC
import Derived.Test.YtngondeaeipcfaaDoorFlat
import Derived.Test.YtngondeaeipcfaaDoorPrD
import Derived.Shelf.Abstract
namespace Go.Proofs.YtngondeaeipcfaaDoor
open Go Go.RowKit

/-! Data -/
def plc (p : Pr) : List Value := [.int .u8 p.1, .int .i64 p.2]
theorem plc_len (p : Pr) : (plc p).length = 2 := rfl
/-- The first k letters at their places. -/
def psT (X : List UInt8) (a : List Int) (k : Nat) : List Pr := (List.range k).map (fun i => (byteAt X i, a.getD i 0))
theorem psT_succ (X : List UInt8) (a : List Int) (k : Nat) : psT X a (k + 1) = psT X a k ++ [(byteAt X k, a.getD k 0)] := by simp [psT, List.range_succ]
theorem psT_len (X : List UInt8) (a : List Int) (k : Nat) : (psT X a k).length = k := by simp [psT]
theorem psT_get {X : List UInt8} {a : List Int} {n k : Nat} (h : k < n) : (psT X a n)[k]? = some (byteAt X k, a.getD k 0) := by simp [psT, h]
def PlB (R : List Pr) (w : World) : Ending → World → Prop := fun e w' => ∃ A' c', e = .returned (.slice A' R.length c') ∧ R.length ≤ c' ∧ RowsIn 2 plc w' w.heap.size A' R ∧ Below w.heap.size w w'
theorem RowsAt.two {w : World} {B : Nat} {A : Option Addr} {xs : List Pr} (h : RowsAt 2 plc w B A xs) {k : Nat} {p : Pr} (hp : xs[k]? = some p) :
    ∃ b o, A = some ⟨b, o, none⟩ ∧ b < B ∧ w.cell? ⟨b, o + k * 2, none⟩ = some (.int .u8 p.1) ∧ w.cell? ⟨b, o + k * 2 + 1, none⟩ = some (.int .i64 p.2) := by
  obtain ⟨b, o, rfl, hb, hr⟩ := h (by intro e; rw [e] at hp; simp at hp)
  exact ⟨b, o, rfl, hb, hr k p hp 0 _ rfl, hr k p hp 1 _ rfl⟩

theorem Tryd.infoPlaced : (Tryd.prog.info? 247).map (fun i => (i.zero, i.size, i.bytes)) = some (some (.agg #[.int .u8 0, .int .i64 0]), 2, 16) := by kernel_rfl
theorem eql_placed (a b c d : Int) (w : World) : (binOp .eql 247 (.agg #[.int .u8 a, .int .i64 b]) (.agg #[.int .u8 c, .int .i64 d])).run Tryd.prog w = .ok (.bool (a == c && b == d)) w := by
  rw [run_eql_struct, run_equalIn_struct w 9999 _ _ _ (by kernel_rfl) (by kernel_rfl)]
  go_simp
  by_cases h1 : a = c
  · by_cases h2 : b = d
    · simp [h1, h2]
    · simp [h1, h2]
  · simp [h1]

end Go.Proofs.YtngondeaeipcfaaDoor
