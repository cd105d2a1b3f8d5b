/-
  No cell of these rows narrows 'for every input' (looked for: loops, veiled, ifaces, maps, wideKeys, modest, calm, conditions, laid).
  DERIVED. THE GIVEN ROWS OF THIS SEAT. 12 by the template 'for every input the law returns true; each argument reads behind the call as it read before'; 0 by the template 'total and deterministic' (their statements: YtjgcadohjccfaaaTotals.lean).
  GIVEN WITH THE SEED: the statements are not yours to turn. If you find one false, say at which input.
  Laid BY PROGRAM, IN A SANDBOX (cutbox-rows.mjs): the forced cells as the released guide's own fill.sh prints them over the translation f5ac0db5fe248d27… (all of the seat's roots in one cut). By AI agents, Wed Nov 11 2026. No macro, syntax, notation, axiom, sorry.
-/
import Derived.Test.YtjgcadohjccfaaaChecked
import GoSem.Claim
import GoSem.ClaimJoined
import GoSem.ClaimMapViews
import Derived.JoinedTies
import Derived.KernelRfl
namespace Go.Proofs.Ytjgcadohjccfaaa
/- THE CELL 'sum', in the pinned program and in every row, IS THE sha256 OF THE DUMP (.gsa) THAT YtjgcadohjccfaaaProg.lean LOADS. Nothing in Lean hashes anything: it is a label: what it is worth is what the hold of that sum in a sandbox is worth. -/
noncomputable def Try.pinned : Pinned := { name := "ytjgcadohjccfaaa", sum := "f5ac0db5fe248d27a9a80216d298f267e7b4efa97ddb08b27ad7e9f2c34f5629", checked := Try.checked }
namespace Rows
def none {H : Type} : Left H := { results := [], args := [] }

/-- 'laws.FnExactValidSheet': WHATEVER THE INPUT: true; the input reads as it did. -/
def fnExactValidSheetSpec : ChangeSpec := { name := "fnExactValidSheet", fn := fun _ => fun
  | [d] => { results := [.lit (.bool true)], args := [d] }
  | _ => none }
def fnExactValidSheetRow : OpenClaim := { program := "ytjgcadohjccfaaa", sum := "f5ac0db5fe248d27a9a80216d298f267e7b4efa97ddb08b27ad7e9f2c34f5629", func := "loop.example/g01398/laws.FnExactValidSheet", spec := "fnExactValidSheet", apart := false }
def FnExactValidSheetSaid : Prop := fnExactValidSheetRow.holds Try.pinned (OpenSpec.ofChange fnExactValidSheetSpec)

/-- ITS FALSE NEIGHBOUR: 'it returns false'. Refute it at one input. -/
def fnExactValidSheetWrong : ChangeSpec := { name := "fnExactValidSheet", fn := fun _ => fun
  | [d] => { results := [.lit (.bool false)], args := [d] }
  | _ => none }
def FnExactValidSheetWrongFalsely : Prop := fnExactValidSheetRow.holds Try.pinned (OpenSpec.ofChange fnExactValidSheetWrong)

/-- 'laws.FnExactPiecesFor': WHATEVER THE INPUT: true; the input reads as it did. -/
def fnExactPiecesForSpec : ChangeSpec := { name := "fnExactPiecesFor", fn := fun _ => fun
  | [d1, d2, d3] => { results := [.lit (.bool true)], args := [d1, d2, d3] }
  | _ => none }
def fnExactPiecesForRow : OpenClaim := { program := "ytjgcadohjccfaaa", sum := "f5ac0db5fe248d27a9a80216d298f267e7b4efa97ddb08b27ad7e9f2c34f5629", func := "loop.example/g01398/laws.FnExactPiecesFor", spec := "fnExactPiecesFor", unfollowed := true, recurses := true, apart := false }
def FnExactPiecesForSaid : Prop := fnExactPiecesForRow.holds Try.pinned (OpenSpec.ofChange fnExactPiecesForSpec)

/-- ITS FALSE NEIGHBOUR: 'it returns false'. Refute it at one input. -/
def fnExactPiecesForWrong : ChangeSpec := { name := "fnExactPiecesFor", fn := fun _ => fun
  | [d1, d2, d3] => { results := [.lit (.bool false)], args := [d1, d2, d3] }
  | _ => none }
def FnExactPiecesForWrongFalsely : Prop := fnExactPiecesForRow.holds Try.pinned (OpenSpec.ofChange fnExactPiecesForWrong)

/-- 'laws.FnExactSheetBound': WHATEVER THE INPUT: true; the input reads as it did. -/
def fnExactSheetBoundSpec : ChangeSpec := { name := "fnExactSheetBound", fn := fun _ => fun
  | [d1, d2, d3] => { results := [.lit (.bool true)], args := [d1, d2, d3] }
  | _ => none }
def fnExactSheetBoundRow : OpenClaim := { program := "ytjgcadohjccfaaa", sum := "f5ac0db5fe248d27a9a80216d298f267e7b4efa97ddb08b27ad7e9f2c34f5629", func := "loop.example/g01398/laws.FnExactSheetBound", spec := "fnExactSheetBound", unfollowed := true, recurses := true, apart := false }
def FnExactSheetBoundSaid : Prop := fnExactSheetBoundRow.holds Try.pinned (OpenSpec.ofChange fnExactSheetBoundSpec)

/-- ITS FALSE NEIGHBOUR: 'it returns false'. Refute it at one input. -/
def fnExactSheetBoundWrong : ChangeSpec := { name := "fnExactSheetBound", fn := fun _ => fun
  | [d1, d2, d3] => { results := [.lit (.bool false)], args := [d1, d2, d3] }
  | _ => none }
def FnExactSheetBoundWrongFalsely : Prop := fnExactSheetBoundRow.holds Try.pinned (OpenSpec.ofChange fnExactSheetBoundWrong)

/-- 'laws.FnExactNextSheets': WHATEVER THE INPUT: true; the input reads as it did. -/
def fnExactNextSheetsSpec : ChangeSpec := { name := "fnExactNextSheets", fn := fun _ => fun
  | [d1, d2, d3] => { results := [.lit (.bool true)], args := [d1, d2, d3] }
  | _ => none }
def fnExactNextSheetsRow : OpenClaim := { program := "ytjgcadohjccfaaa", sum := "f5ac0db5fe248d27a9a80216d298f267e7b4efa97ddb08b27ad7e9f2c34f5629", func := "loop.example/g01398/laws.FnExactNextSheets", spec := "fnExactNextSheets", unfollowed := true, recurses := true, apart := false }
def FnExactNextSheetsSaid : Prop := fnExactNextSheetsRow.holds Try.pinned (OpenSpec.ofChange fnExactNextSheetsSpec)

/-- ITS FALSE NEIGHBOUR: 'it returns false'. Refute it at one input. -/
def fnExactNextSheetsWrong : ChangeSpec := { name := "fnExactNextSheets", fn := fun _ => fun
  | [d1, d2, d3] => { results := [.lit (.bool false)], args := [d1, d2, d3] }
  | _ => none }
def FnExactNextSheetsWrongFalsely : Prop := fnExactNextSheetsRow.holds Try.pinned (OpenSpec.ofChange fnExactNextSheetsWrong)

/-- 'laws.FnExactFirstSheets': WHATEVER THE INPUT: true; the input reads as it did. -/
def fnExactFirstSheetsSpec : ChangeSpec := { name := "fnExactFirstSheets", fn := fun _ => fun
  | [d1, d2, d3] => { results := [.lit (.bool true)], args := [d1, d2, d3] }
  | _ => none }
def fnExactFirstSheetsRow : OpenClaim := { program := "ytjgcadohjccfaaa", sum := "f5ac0db5fe248d27a9a80216d298f267e7b4efa97ddb08b27ad7e9f2c34f5629", func := "loop.example/g01398/laws.FnExactFirstSheets", spec := "fnExactFirstSheets", unfollowed := true, recurses := true, apart := false }
def FnExactFirstSheetsSaid : Prop := fnExactFirstSheetsRow.holds Try.pinned (OpenSpec.ofChange fnExactFirstSheetsSpec)

/-- ITS FALSE NEIGHBOUR: 'it returns false'. Refute it at one input. -/
def fnExactFirstSheetsWrong : ChangeSpec := { name := "fnExactFirstSheets", fn := fun _ => fun
  | [d1, d2, d3] => { results := [.lit (.bool false)], args := [d1, d2, d3] }
  | _ => none }
def FnExactFirstSheetsWrongFalsely : Prop := fnExactFirstSheetsRow.holds Try.pinned (OpenSpec.ofChange fnExactFirstSheetsWrong)

/-- 'laws.FnExactFewestSheets': WHATEVER THE INPUT: true; the input reads as it did. -/
def fnExactFewestSheetsSpec : ChangeSpec := { name := "fnExactFewestSheets", fn := fun _ => fun
  | [d1, d2, d3] => { results := [.lit (.bool true)], args := [d1, d2, d3] }
  | _ => none }
def fnExactFewestSheetsRow : OpenClaim := { program := "ytjgcadohjccfaaa", sum := "f5ac0db5fe248d27a9a80216d298f267e7b4efa97ddb08b27ad7e9f2c34f5629", func := "loop.example/g01398/laws.FnExactFewestSheets", spec := "fnExactFewestSheets", unfollowed := true, recurses := true, apart := false }
def FnExactFewestSheetsSaid : Prop := fnExactFewestSheetsRow.holds Try.pinned (OpenSpec.ofChange fnExactFewestSheetsSpec)

/-- ITS FALSE NEIGHBOUR: 'it returns false'. Refute it at one input. -/
def fnExactFewestSheetsWrong : ChangeSpec := { name := "fnExactFewestSheets", fn := fun _ => fun
  | [d1, d2, d3] => { results := [.lit (.bool false)], args := [d1, d2, d3] }
  | _ => none }
def FnExactFewestSheetsWrongFalsely : Prop := fnExactFewestSheetsRow.holds Try.pinned (OpenSpec.ofChange fnExactFewestSheetsWrong)

/-- 'laws.FnExactCheckSheets': WHATEVER THE INPUT: true; the input reads as it did. -/
def fnExactCheckSheetsSpec : ChangeSpec := { name := "fnExactCheckSheets", fn := fun _ => fun
  | [d1, d2, d3, d4] => { results := [.lit (.bool true)], args := [d1, d2, d3, d4] }
  | _ => none }
def fnExactCheckSheetsRow : OpenClaim := { program := "ytjgcadohjccfaaa", sum := "f5ac0db5fe248d27a9a80216d298f267e7b4efa97ddb08b27ad7e9f2c34f5629", func := "loop.example/g01398/laws.FnExactCheckSheets", spec := "fnExactCheckSheets", unfollowed := true, recurses := true, apart := false }
def FnExactCheckSheetsSaid : Prop := fnExactCheckSheetsRow.holds Try.pinned (OpenSpec.ofChange fnExactCheckSheetsSpec)

/-- ITS FALSE NEIGHBOUR: 'it returns false'. Refute it at one input. -/
def fnExactCheckSheetsWrong : ChangeSpec := { name := "fnExactCheckSheets", fn := fun _ => fun
  | [d1, d2, d3, d4] => { results := [.lit (.bool false)], args := [d1, d2, d3, d4] }
  | _ => none }
def FnExactCheckSheetsWrongFalsely : Prop := fnExactCheckSheetsRow.holds Try.pinned (OpenSpec.ofChange fnExactCheckSheetsWrong)

/-- 'laws.FnExactRestsOf': WHATEVER THE INPUT: true; the input reads as it did. -/
def fnExactRestsOfSpec : ChangeSpec := { name := "fnExactRestsOf", fn := fun _ => fun
  | [d1, d2, d3, d4] => { results := [.lit (.bool true)], args := [d1, d2, d3, d4] }
  | _ => none }
def fnExactRestsOfRow : OpenClaim := { program := "ytjgcadohjccfaaa", sum := "f5ac0db5fe248d27a9a80216d298f267e7b4efa97ddb08b27ad7e9f2c34f5629", func := "loop.example/g01398/laws.FnExactRestsOf", spec := "fnExactRestsOf", unfollowed := true, recurses := true, apart := false }
def FnExactRestsOfSaid : Prop := fnExactRestsOfRow.holds Try.pinned (OpenSpec.ofChange fnExactRestsOfSpec)

/-- ITS FALSE NEIGHBOUR: 'it returns false'. Refute it at one input. -/
def fnExactRestsOfWrong : ChangeSpec := { name := "fnExactRestsOf", fn := fun _ => fun
  | [d1, d2, d3, d4] => { results := [.lit (.bool false)], args := [d1, d2, d3, d4] }
  | _ => none }
def FnExactRestsOfWrongFalsely : Prop := fnExactRestsOfRow.holds Try.pinned (OpenSpec.ofChange fnExactRestsOfWrong)

/-- 'laws.FnExactValidPrices': WHATEVER THE INPUT: true; the input reads as it did. -/
def fnExactValidPricesSpec : ChangeSpec := { name := "fnExactValidPrices", fn := fun _ => fun
  | [d] => { results := [.lit (.bool true)], args := [d] }
  | _ => none }
def fnExactValidPricesRow : OpenClaim := { program := "ytjgcadohjccfaaa", sum := "f5ac0db5fe248d27a9a80216d298f267e7b4efa97ddb08b27ad7e9f2c34f5629", func := "loop.example/g01398/laws.FnExactValidPrices", spec := "fnExactValidPrices", unfollowed := true, recurses := true, apart := false }
def FnExactValidPricesSaid : Prop := fnExactValidPricesRow.holds Try.pinned (OpenSpec.ofChange fnExactValidPricesSpec)

/-- ITS FALSE NEIGHBOUR: 'it returns false'. Refute it at one input. -/
def fnExactValidPricesWrong : ChangeSpec := { name := "fnExactValidPrices", fn := fun _ => fun
  | [d] => { results := [.lit (.bool false)], args := [d] }
  | _ => none }
def FnExactValidPricesWrongFalsely : Prop := fnExactValidPricesRow.holds Try.pinned (OpenSpec.ofChange fnExactValidPricesWrong)

/-- 'laws.FnExactStockAfter': WHATEVER THE INPUT: true; the input reads as it did. -/
def fnExactStockAfterSpec : ChangeSpec := { name := "fnExactStockAfter", fn := fun _ => fun
  | [d1, d2] => { results := [.lit (.bool true)], args := [d1, d2] }
  | _ => none }
def fnExactStockAfterRow : OpenClaim := { program := "ytjgcadohjccfaaa", sum := "f5ac0db5fe248d27a9a80216d298f267e7b4efa97ddb08b27ad7e9f2c34f5629", func := "loop.example/g01398/laws.FnExactStockAfter", spec := "fnExactStockAfter", unfollowed := true, recurses := true, apart := false }
def FnExactStockAfterSaid : Prop := fnExactStockAfterRow.holds Try.pinned (OpenSpec.ofChange fnExactStockAfterSpec)

/-- ITS FALSE NEIGHBOUR: 'it returns false'. Refute it at one input. -/
def fnExactStockAfterWrong : ChangeSpec := { name := "fnExactStockAfter", fn := fun _ => fun
  | [d1, d2] => { results := [.lit (.bool false)], args := [d1, d2] }
  | _ => none }
def FnExactStockAfterWrongFalsely : Prop := fnExactStockAfterRow.holds Try.pinned (OpenSpec.ofChange fnExactStockAfterWrong)

/-- 'laws.FnExactFirstShort': WHATEVER THE INPUT: true; the input reads as it did. -/
def fnExactFirstShortSpec : ChangeSpec := { name := "fnExactFirstShort", fn := fun _ => fun
  | [d1, d2] => { results := [.lit (.bool true)], args := [d1, d2] }
  | _ => none }
def fnExactFirstShortRow : OpenClaim := { program := "ytjgcadohjccfaaa", sum := "f5ac0db5fe248d27a9a80216d298f267e7b4efa97ddb08b27ad7e9f2c34f5629", func := "loop.example/g01398/laws.FnExactFirstShort", spec := "fnExactFirstShort", unfollowed := true, recurses := true, apart := false }
def FnExactFirstShortSaid : Prop := fnExactFirstShortRow.holds Try.pinned (OpenSpec.ofChange fnExactFirstShortSpec)

/-- ITS FALSE NEIGHBOUR: 'it returns false'. Refute it at one input. -/
def fnExactFirstShortWrong : ChangeSpec := { name := "fnExactFirstShort", fn := fun _ => fun
  | [d1, d2] => { results := [.lit (.bool false)], args := [d1, d2] }
  | _ => none }
def FnExactFirstShortWrongFalsely : Prop := fnExactFirstShortRow.holds Try.pinned (OpenSpec.ofChange fnExactFirstShortWrong)

/-- 'laws.FnExactLeastStart': WHATEVER THE INPUT: true; the input reads as it did. -/
def fnExactLeastStartSpec : ChangeSpec := { name := "fnExactLeastStart", fn := fun _ => fun
  | [d] => { results := [.lit (.bool true)], args := [d] }
  | _ => none }
def fnExactLeastStartRow : OpenClaim := { program := "ytjgcadohjccfaaa", sum := "f5ac0db5fe248d27a9a80216d298f267e7b4efa97ddb08b27ad7e9f2c34f5629", func := "loop.example/g01398/laws.FnExactLeastStart", spec := "fnExactLeastStart", unfollowed := true, recurses := true, apart := false }
def FnExactLeastStartSaid : Prop := fnExactLeastStartRow.holds Try.pinned (OpenSpec.ofChange fnExactLeastStartSpec)

/-- ITS FALSE NEIGHBOUR: 'it returns false'. Refute it at one input. -/
def fnExactLeastStartWrong : ChangeSpec := { name := "fnExactLeastStart", fn := fun _ => fun
  | [d] => { results := [.lit (.bool false)], args := [d] }
  | _ => none }
def FnExactLeastStartWrongFalsely : Prop := fnExactLeastStartRow.holds Try.pinned (OpenSpec.ofChange fnExactLeastStartWrong)

/- THE SECOND FORM. 'bulk': how many values and letters a reading holds, each counted each time it is reached (what is shared counts as often as it is met; a slice's spare places count too). A statement '..UptoSaid' is the law's where the arguments, and the package variables that the reading takes, are together of bulk at most 1048576: NARROWER than '..Said'. Prove '..Said' where nothing that the law and all that it calls make is longer than what came in: it says more and counts as full. Else prove '..UptoSaid'. A law counts once. -/
mutual
def uptoBulk {H : Type} : DataW H → Nat
  | .lit (.string bytes) => bytes.length + 1
  | .lit _ => 1
  | .nil => 1
  | .ptr d => uptoBulk d + 1
  | .slice elems spare => uptoBulkAll elems + uptoBulkAll spare + 1
  | .agg parts => uptoBulkAll parts + 1
  | .iface _ d => uptoBulk d + 1
  | .map entries => uptoBulkEntries entries + 1
  | .held _ => 1
def uptoBulkAll {H : Type} : List (DataW H) → Nat
  | [] => 0
  | d :: r => uptoBulk d + uptoBulkAll r
def uptoBulkEntries {H : Type} : List (Lit × DataW H) → Nat
  | [] => 0
  | x :: r => uptoBulkEntry x + uptoBulkEntries r
def uptoBulkEntry {H : Type} : Lit × DataW H → Nat
  | (.string bytes, d) => bytes.length + uptoBulk d + 1
  | (_, d) => uptoBulk d + 1
 end
def uptoSmall : (H : Type) → List (DataW H) → Bool := fun _ ds => decide (uptoBulkAll ds ≤ 1048576)
def OpenSpec.upto (s : _root_.Go.ChangeSpec) : _root_.Go.OpenSpec := { _root_.Go.OpenSpec.ofChange s with cond := some uptoSmall }

/-- 'laws.FnExactValidSheet', WHERE WHAT IT READS IS OF BULK AT MOST 1048576: true; the input reads as it did. -/
def fnExactValidSheetUptoRow : OpenClaim := { program := "ytjgcadohjccfaaa", sum := "f5ac0db5fe248d27a9a80216d298f267e7b4efa97ddb08b27ad7e9f2c34f5629", func := "loop.example/g01398/laws.FnExactValidSheet", spec := "fnExactValidSheet", apart := false, narrowed := true }
def FnExactValidSheetUptoSaid : Prop := fnExactValidSheetUptoRow.holds Try.pinned (OpenSpec.upto fnExactValidSheetSpec)

/-- 'laws.FnExactPiecesFor', WHERE WHAT IT READS IS OF BULK AT MOST 1048576: true; the input reads as it did. -/
def fnExactPiecesForUptoRow : OpenClaim := { program := "ytjgcadohjccfaaa", sum := "f5ac0db5fe248d27a9a80216d298f267e7b4efa97ddb08b27ad7e9f2c34f5629", func := "loop.example/g01398/laws.FnExactPiecesFor", spec := "fnExactPiecesFor", unfollowed := true, recurses := true, apart := false, narrowed := true }
def FnExactPiecesForUptoSaid : Prop := fnExactPiecesForUptoRow.holds Try.pinned (OpenSpec.upto fnExactPiecesForSpec)

/-- 'laws.FnExactSheetBound', WHERE WHAT IT READS IS OF BULK AT MOST 1048576: true; the input reads as it did. -/
def fnExactSheetBoundUptoRow : OpenClaim := { program := "ytjgcadohjccfaaa", sum := "f5ac0db5fe248d27a9a80216d298f267e7b4efa97ddb08b27ad7e9f2c34f5629", func := "loop.example/g01398/laws.FnExactSheetBound", spec := "fnExactSheetBound", unfollowed := true, recurses := true, apart := false, narrowed := true }
def FnExactSheetBoundUptoSaid : Prop := fnExactSheetBoundUptoRow.holds Try.pinned (OpenSpec.upto fnExactSheetBoundSpec)

/-- 'laws.FnExactNextSheets', WHERE WHAT IT READS IS OF BULK AT MOST 1048576: true; the input reads as it did. -/
def fnExactNextSheetsUptoRow : OpenClaim := { program := "ytjgcadohjccfaaa", sum := "f5ac0db5fe248d27a9a80216d298f267e7b4efa97ddb08b27ad7e9f2c34f5629", func := "loop.example/g01398/laws.FnExactNextSheets", spec := "fnExactNextSheets", unfollowed := true, recurses := true, apart := false, narrowed := true }
def FnExactNextSheetsUptoSaid : Prop := fnExactNextSheetsUptoRow.holds Try.pinned (OpenSpec.upto fnExactNextSheetsSpec)

/-- 'laws.FnExactFirstSheets', WHERE WHAT IT READS IS OF BULK AT MOST 1048576: true; the input reads as it did. -/
def fnExactFirstSheetsUptoRow : OpenClaim := { program := "ytjgcadohjccfaaa", sum := "f5ac0db5fe248d27a9a80216d298f267e7b4efa97ddb08b27ad7e9f2c34f5629", func := "loop.example/g01398/laws.FnExactFirstSheets", spec := "fnExactFirstSheets", unfollowed := true, recurses := true, apart := false, narrowed := true }
def FnExactFirstSheetsUptoSaid : Prop := fnExactFirstSheetsUptoRow.holds Try.pinned (OpenSpec.upto fnExactFirstSheetsSpec)

/-- 'laws.FnExactFewestSheets', WHERE WHAT IT READS IS OF BULK AT MOST 1048576: true; the input reads as it did. -/
def fnExactFewestSheetsUptoRow : OpenClaim := { program := "ytjgcadohjccfaaa", sum := "f5ac0db5fe248d27a9a80216d298f267e7b4efa97ddb08b27ad7e9f2c34f5629", func := "loop.example/g01398/laws.FnExactFewestSheets", spec := "fnExactFewestSheets", unfollowed := true, recurses := true, apart := false, narrowed := true }
def FnExactFewestSheetsUptoSaid : Prop := fnExactFewestSheetsUptoRow.holds Try.pinned (OpenSpec.upto fnExactFewestSheetsSpec)

/-- 'laws.FnExactCheckSheets', WHERE WHAT IT READS IS OF BULK AT MOST 1048576: true; the input reads as it did. -/
def fnExactCheckSheetsUptoRow : OpenClaim := { program := "ytjgcadohjccfaaa", sum := "f5ac0db5fe248d27a9a80216d298f267e7b4efa97ddb08b27ad7e9f2c34f5629", func := "loop.example/g01398/laws.FnExactCheckSheets", spec := "fnExactCheckSheets", unfollowed := true, recurses := true, apart := false, narrowed := true }
def FnExactCheckSheetsUptoSaid : Prop := fnExactCheckSheetsUptoRow.holds Try.pinned (OpenSpec.upto fnExactCheckSheetsSpec)

/-- 'laws.FnExactRestsOf', WHERE WHAT IT READS IS OF BULK AT MOST 1048576: true; the input reads as it did. -/
def fnExactRestsOfUptoRow : OpenClaim := { program := "ytjgcadohjccfaaa", sum := "f5ac0db5fe248d27a9a80216d298f267e7b4efa97ddb08b27ad7e9f2c34f5629", func := "loop.example/g01398/laws.FnExactRestsOf", spec := "fnExactRestsOf", unfollowed := true, recurses := true, apart := false, narrowed := true }
def FnExactRestsOfUptoSaid : Prop := fnExactRestsOfUptoRow.holds Try.pinned (OpenSpec.upto fnExactRestsOfSpec)

/-- 'laws.FnExactValidPrices', WHERE WHAT IT READS IS OF BULK AT MOST 1048576: true; the input reads as it did. -/
def fnExactValidPricesUptoRow : OpenClaim := { program := "ytjgcadohjccfaaa", sum := "f5ac0db5fe248d27a9a80216d298f267e7b4efa97ddb08b27ad7e9f2c34f5629", func := "loop.example/g01398/laws.FnExactValidPrices", spec := "fnExactValidPrices", unfollowed := true, recurses := true, apart := false, narrowed := true }
def FnExactValidPricesUptoSaid : Prop := fnExactValidPricesUptoRow.holds Try.pinned (OpenSpec.upto fnExactValidPricesSpec)

/-- 'laws.FnExactStockAfter', WHERE WHAT IT READS IS OF BULK AT MOST 1048576: true; the input reads as it did. -/
def fnExactStockAfterUptoRow : OpenClaim := { program := "ytjgcadohjccfaaa", sum := "f5ac0db5fe248d27a9a80216d298f267e7b4efa97ddb08b27ad7e9f2c34f5629", func := "loop.example/g01398/laws.FnExactStockAfter", spec := "fnExactStockAfter", unfollowed := true, recurses := true, apart := false, narrowed := true }
def FnExactStockAfterUptoSaid : Prop := fnExactStockAfterUptoRow.holds Try.pinned (OpenSpec.upto fnExactStockAfterSpec)

/-- 'laws.FnExactFirstShort', WHERE WHAT IT READS IS OF BULK AT MOST 1048576: true; the input reads as it did. -/
def fnExactFirstShortUptoRow : OpenClaim := { program := "ytjgcadohjccfaaa", sum := "f5ac0db5fe248d27a9a80216d298f267e7b4efa97ddb08b27ad7e9f2c34f5629", func := "loop.example/g01398/laws.FnExactFirstShort", spec := "fnExactFirstShort", unfollowed := true, recurses := true, apart := false, narrowed := true }
def FnExactFirstShortUptoSaid : Prop := fnExactFirstShortUptoRow.holds Try.pinned (OpenSpec.upto fnExactFirstShortSpec)

/-- 'laws.FnExactLeastStart', WHERE WHAT IT READS IS OF BULK AT MOST 1048576: true; the input reads as it did. -/
def fnExactLeastStartUptoRow : OpenClaim := { program := "ytjgcadohjccfaaa", sum := "f5ac0db5fe248d27a9a80216d298f267e7b4efa97ddb08b27ad7e9f2c34f5629", func := "loop.example/g01398/laws.FnExactLeastStart", spec := "fnExactLeastStart", unfollowed := true, recurses := true, apart := false, narrowed := true }
def FnExactLeastStartUptoSaid : Prop := fnExactLeastStartUptoRow.holds Try.pinned (OpenSpec.upto fnExactLeastStartSpec)

end Rows
end Go.Proofs.Ytjgcadohjccfaaa
