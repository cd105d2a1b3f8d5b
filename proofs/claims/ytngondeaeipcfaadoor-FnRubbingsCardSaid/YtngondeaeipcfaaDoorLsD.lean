/- The first of the least. -/
import Derived.Test.YtngondeaeipcfaaDoorPrD
namespace Go.Proofs.YtngondeaeipcfaaDoor
open Go.RowKit

/-- One step to the first of the least. -/
def lstS (o : Option Pr) (p : Pr) : Option Pr := match o with
  | none => some p
  | some q => if p.2 < q.2 then some p else some q
def lstO (xs : List Pr) : Option Pr := xs.foldl lstS none
theorem lstO_app (xs : List Pr) (p : Pr) : lstO (xs ++ [p]) = lstS (lstO xs) p := by simp [lstO]
theorem lstO_nil : lstO [] = none := rfl
def rt3 (v : Int × Int × Int) : Ending := .returned (.tuple #[.int .i64 v.1, .int .i64 v.2.1, .int .i64 v.2.2])
theorem rt3_of {a b c : Int} {v : Int × Int × Int} (h : v = (a, b, c)) : Ending.returned (.tuple #[.int .i64 a, .int .i64 b, .int .i64 c]) = .returned (.tuple #[.int .i64 v.1, .int .i64 v.2.1, .int .i64 v.2.2]) := by subst h; rfl
/-- All choices. -/
def allC (o : Nat → Int) : Nat → List Pr
  | 0 => []
  | k + 1 => allC o k ++ [((k : Int), o k)]
theorem allC_succ (o : Nat → Int) (k : Nat) : allC o (k + 1) = allC o k ++ [((k : Int), o k)] := rfl
theorem allC_len (o : Nat → Int) : ∀ k, (allC o k).length = k
  | 0 => rfl
  | k + 1 => by rw [allC, List.length_append, allC_len o k]; rfl
theorem lst_next (o : Nat → Int) (k : Nat) (q : Pr) (h : lstO (allC o k) = some q) : lstO (allC o (k + 1)) = if o k < q.2 then some ((k : Int), o k) else some q := by
  rw [allC, lstO_app, h]; rfl
end Go.Proofs.YtngondeaeipcfaaDoor
