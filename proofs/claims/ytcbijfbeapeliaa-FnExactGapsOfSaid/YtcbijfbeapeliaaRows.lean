/-
  No cell of these rows narrows 'for every input' (looked for: loops, veiled, ifaces, maps, wideKeys, modest, calm, conditions, laid).
  DERIVED. THE GIVEN ROWS OF THIS SEAT. 9 by the template 'for every input the law returns true; each argument reads behind the call as it read before'; 0 by the template 'total and deterministic' (their statements: YtcbijfbeapeliaaTotals.lean).
  GIVEN WITH THE SEED: the statements are not yours to turn. If you find one false, say at which input.
  Laid BY PROGRAM, IN A SANDBOX (cutbox-rows.mjs): the forced cells as the released guide's own fill.sh prints them over the translation 6e903e22ce6f7766… (all of the seat's roots in one cut). By AI agents, Wed Nov 11 2026. No macro, syntax, notation, axiom, sorry.
-/
import Derived.Test.YtcbijfbeapeliaaChecked
import GoSem.Claim
import GoSem.ClaimJoined
import GoSem.ClaimMapViews
import Derived.JoinedTies
import Derived.KernelRfl
namespace Go.Proofs.Ytcbijfbeapeliaa
/- THE CELL 'sum', in the pinned program and in every row, IS THE sha256 OF THE DUMP (.gsa) THAT YtcbijfbeapeliaaProg.lean LOADS. Nothing in Lean hashes anything: it is a label: what it is worth is what the hold of that sum in a sandbox is worth. -/
noncomputable def Try.pinned : Pinned := { name := "ytcbijfbeapeliaa", sum := "6e903e22ce6f77666d1f2b1f423df6a27bb63280ce266398e55a6ec03b53d783", checked := Try.checked }
namespace Rows
def none {H : Type} : Left H := { results := [], args := [] }

/-- 'laws.FnExactCountDark': WHATEVER THE INPUT: true; the input reads as it did. -/
def fnExactCountDarkSpec : ChangeSpec := { name := "fnExactCountDark", fn := fun _ => fun
  | [d] => { results := [.lit (.bool true)], args := [d] }
  | _ => none }
def fnExactCountDarkRow : OpenClaim := { program := "ytcbijfbeapeliaa", sum := "6e903e22ce6f77666d1f2b1f423df6a27bb63280ce266398e55a6ec03b53d783", func := "loop.example/g01398/laws.FnExactCountDark", spec := "fnExactCountDark", apart := false }
def FnExactCountDarkSaid : Prop := fnExactCountDarkRow.holds Try.pinned (OpenSpec.ofChange fnExactCountDarkSpec)

/-- ITS FALSE NEIGHBOUR: 'it returns false'. Refute it at one input. -/
def fnExactCountDarkWrong : ChangeSpec := { name := "fnExactCountDark", fn := fun _ => fun
  | [d] => { results := [.lit (.bool false)], args := [d] }
  | _ => none }
def FnExactCountDarkWrongFalsely : Prop := fnExactCountDarkRow.holds Try.pinned (OpenSpec.ofChange fnExactCountDarkWrong)

/-- 'laws.FnExactMatchOf': WHATEVER THE INPUT: true; the input reads as it did. -/
def fnExactMatchOfSpec : ChangeSpec := { name := "fnExactMatchOf", fn := fun _ => fun
  | [d1, d2] => { results := [.lit (.bool true)], args := [d1, d2] }
  | _ => none }
def fnExactMatchOfRow : OpenClaim := { program := "ytcbijfbeapeliaa", sum := "6e903e22ce6f77666d1f2b1f423df6a27bb63280ce266398e55a6ec03b53d783", func := "loop.example/g01398/laws.FnExactMatchOf", spec := "fnExactMatchOf", apart := false }
def FnExactMatchOfSaid : Prop := fnExactMatchOfRow.holds Try.pinned (OpenSpec.ofChange fnExactMatchOfSpec)

/-- ITS FALSE NEIGHBOUR: 'it returns false'. Refute it at one input. -/
def fnExactMatchOfWrong : ChangeSpec := { name := "fnExactMatchOf", fn := fun _ => fun
  | [d1, d2] => { results := [.lit (.bool false)], args := [d1, d2] }
  | _ => none }
def FnExactMatchOfWrongFalsely : Prop := fnExactMatchOfRow.holds Try.pinned (OpenSpec.ofChange fnExactMatchOfWrong)

/-- 'laws.FnExactBestMove': WHATEVER THE INPUT: true; the input reads as it did. -/
def fnExactBestMoveSpec : ChangeSpec := { name := "fnExactBestMove", fn := fun _ => fun
  | [d1, d2] => { results := [.lit (.bool true)], args := [d1, d2] }
  | _ => none }
def fnExactBestMoveRow : OpenClaim := { program := "ytcbijfbeapeliaa", sum := "6e903e22ce6f77666d1f2b1f423df6a27bb63280ce266398e55a6ec03b53d783", func := "loop.example/g01398/laws.FnExactBestMove", spec := "fnExactBestMove", unfollowed := true, recurses := true, apart := false }
def FnExactBestMoveSaid : Prop := fnExactBestMoveRow.holds Try.pinned (OpenSpec.ofChange fnExactBestMoveSpec)

/-- ITS FALSE NEIGHBOUR: 'it returns false'. Refute it at one input. -/
def fnExactBestMoveWrong : ChangeSpec := { name := "fnExactBestMove", fn := fun _ => fun
  | [d1, d2] => { results := [.lit (.bool false)], args := [d1, d2] }
  | _ => none }
def FnExactBestMoveWrongFalsely : Prop := fnExactBestMoveRow.holds Try.pinned (OpenSpec.ofChange fnExactBestMoveWrong)

/-- 'laws.FnExactMayBeWorn': WHATEVER THE INPUT: true; the input reads as it did. -/
def fnExactMayBeWornSpec : ChangeSpec := { name := "fnExactMayBeWorn", fn := fun _ => fun
  | [d1, d2] => { results := [.lit (.bool true)], args := [d1, d2] }
  | _ => none }
def fnExactMayBeWornRow : OpenClaim := { program := "ytcbijfbeapeliaa", sum := "6e903e22ce6f77666d1f2b1f423df6a27bb63280ce266398e55a6ec03b53d783", func := "loop.example/g01398/laws.FnExactMayBeWorn", spec := "fnExactMayBeWorn", apart := false }
def FnExactMayBeWornSaid : Prop := fnExactMayBeWornRow.holds Try.pinned (OpenSpec.ofChange fnExactMayBeWornSpec)

/-- ITS FALSE NEIGHBOUR: 'it returns false'. Refute it at one input. -/
def fnExactMayBeWornWrong : ChangeSpec := { name := "fnExactMayBeWorn", fn := fun _ => fun
  | [d1, d2] => { results := [.lit (.bool false)], args := [d1, d2] }
  | _ => none }
def FnExactMayBeWornWrongFalsely : Prop := fnExactMayBeWornRow.holds Try.pinned (OpenSpec.ofChange fnExactMayBeWornWrong)

/-- 'laws.FnExactMirrorRubbing': WHATEVER THE INPUT: true; the input reads as it did. -/
def fnExactMirrorRubbingSpec : ChangeSpec := { name := "fnExactMirrorRubbing", fn := fun _ => fun
  | [d] => { results := [.lit (.bool true)], args := [d] }
  | _ => none }
def fnExactMirrorRubbingRow : OpenClaim := { program := "ytcbijfbeapeliaa", sum := "6e903e22ce6f77666d1f2b1f423df6a27bb63280ce266398e55a6ec03b53d783", func := "loop.example/g01398/laws.FnExactMirrorRubbing", spec := "fnExactMirrorRubbing", apart := false }
def FnExactMirrorRubbingSaid : Prop := fnExactMirrorRubbingRow.holds Try.pinned (OpenSpec.ofChange fnExactMirrorRubbingSpec)

/-- ITS FALSE NEIGHBOUR: 'it returns false'. Refute it at one input. -/
def fnExactMirrorRubbingWrong : ChangeSpec := { name := "fnExactMirrorRubbing", fn := fun _ => fun
  | [d] => { results := [.lit (.bool false)], args := [d] }
  | _ => none }
def FnExactMirrorRubbingWrongFalsely : Prop := fnExactMirrorRubbingRow.holds Try.pinned (OpenSpec.ofChange fnExactMirrorRubbingWrong)

/-- 'laws.FnExactDarkRows': WHATEVER THE INPUT: true; the input reads as it did. -/
def fnExactDarkRowsSpec : ChangeSpec := { name := "fnExactDarkRows", fn := fun _ => fun
  | [d] => { results := [.lit (.bool true)], args := [d] }
  | _ => none }
def fnExactDarkRowsRow : OpenClaim := { program := "ytcbijfbeapeliaa", sum := "6e903e22ce6f77666d1f2b1f423df6a27bb63280ce266398e55a6ec03b53d783", func := "loop.example/g01398/laws.FnExactDarkRows", spec := "fnExactDarkRows", apart := false }
def FnExactDarkRowsSaid : Prop := fnExactDarkRowsRow.holds Try.pinned (OpenSpec.ofChange fnExactDarkRowsSpec)

/-- ITS FALSE NEIGHBOUR: 'it returns false'. Refute it at one input. -/
def fnExactDarkRowsWrong : ChangeSpec := { name := "fnExactDarkRows", fn := fun _ => fun
  | [d] => { results := [.lit (.bool false)], args := [d] }
  | _ => none }
def FnExactDarkRowsWrongFalsely : Prop := fnExactDarkRowsRow.holds Try.pinned (OpenSpec.ofChange fnExactDarkRowsWrong)

/-- 'laws.FnExactGapsOf': WHATEVER THE INPUT: true; the input reads as it did. -/
def fnExactGapsOfSpec : ChangeSpec := { name := "fnExactGapsOf", fn := fun _ => fun
  | [d1, d2] => { results := [.lit (.bool true)], args := [d1, d2] }
  | _ => none }
def fnExactGapsOfRow : OpenClaim := { program := "ytcbijfbeapeliaa", sum := "6e903e22ce6f77666d1f2b1f423df6a27bb63280ce266398e55a6ec03b53d783", func := "loop.example/g01398/laws.FnExactGapsOf", spec := "fnExactGapsOf", inPlace := ["internal/bytealg.IndexByteString", "internal/bytealg.IndexString"], unfollowed := true, recurses := true, named := ["internal/bytealg.MaxLen"], apart := false }
def FnExactGapsOfSaid : Prop := fnExactGapsOfRow.holds Try.pinned (OpenSpec.ofChange fnExactGapsOfSpec)

/-- ITS FALSE NEIGHBOUR: 'it returns false'. Refute it at one input. -/
def fnExactGapsOfWrong : ChangeSpec := { name := "fnExactGapsOf", fn := fun _ => fun
  | [d1, d2] => { results := [.lit (.bool false)], args := [d1, d2] }
  | _ => none }
def FnExactGapsOfWrongFalsely : Prop := fnExactGapsOfRow.holds Try.pinned (OpenSpec.ofChange fnExactGapsOfWrong)

/-- 'laws.FnExactRubbingText': WHATEVER THE INPUT: true; the input reads as it did. -/
def fnExactRubbingTextSpec : ChangeSpec := { name := "fnExactRubbingText", fn := fun _ => fun
  | [d] => { results := [.lit (.bool true)], args := [d] }
  | _ => none }
def fnExactRubbingTextRow : OpenClaim := { program := "ytcbijfbeapeliaa", sum := "6e903e22ce6f77666d1f2b1f423df6a27bb63280ce266398e55a6ec03b53d783", func := "loop.example/g01398/laws.FnExactRubbingText", spec := "fnExactRubbingText", inPlace := ["internal/abi.NoEscape"], apart := false }
def FnExactRubbingTextSaid : Prop := fnExactRubbingTextRow.holds Try.pinned (OpenSpec.ofChange fnExactRubbingTextSpec)

/-- ITS FALSE NEIGHBOUR: 'it returns false'. Refute it at one input. -/
def fnExactRubbingTextWrong : ChangeSpec := { name := "fnExactRubbingText", fn := fun _ => fun
  | [d] => { results := [.lit (.bool false)], args := [d] }
  | _ => none }
def FnExactRubbingTextWrongFalsely : Prop := fnExactRubbingTextRow.holds Try.pinned (OpenSpec.ofChange fnExactRubbingTextWrong)

/-- 'laws.FnExactReadRubbing': WHATEVER THE INPUT: true; the input reads as it did. -/
def fnExactReadRubbingSpec : ChangeSpec := { name := "fnExactReadRubbing", fn := fun _ => fun
  | [d] => { results := [.lit (.bool true)], args := [d] }
  | _ => none }
def fnExactReadRubbingRow : OpenClaim := { program := "ytcbijfbeapeliaa", sum := "6e903e22ce6f77666d1f2b1f423df6a27bb63280ce266398e55a6ec03b53d783", func := "loop.example/g01398/laws.FnExactReadRubbing", spec := "fnExactReadRubbing", inPlace := ["internal/abi.NoEscape"], unfollowed := true, recurses := true, apart := false }
def FnExactReadRubbingSaid : Prop := fnExactReadRubbingRow.holds Try.pinned (OpenSpec.ofChange fnExactReadRubbingSpec)

/-- ITS FALSE NEIGHBOUR: 'it returns false'. Refute it at one input. -/
def fnExactReadRubbingWrong : ChangeSpec := { name := "fnExactReadRubbing", fn := fun _ => fun
  | [d] => { results := [.lit (.bool false)], args := [d] }
  | _ => none }
def FnExactReadRubbingWrongFalsely : Prop := fnExactReadRubbingRow.holds Try.pinned (OpenSpec.ofChange fnExactReadRubbingWrong)

/- THE SECOND FORM. 'bulk': how many values and letters a reading holds, each counted each time it is reached (what is shared counts as often as it is met; a slice's spare places count too). A statement '..UptoSaid' is the law's where the arguments, and the package variables that the reading takes, are together of bulk at most 1048576: NARROWER than '..Said'. Prove '..Said' where nothing that the law and all that it calls make is longer than what came in: it says more and counts as full. Else prove '..UptoSaid'. A law counts once. -/
mutual
def uptoBulk {H : Type} : DataW H → Nat
  | .lit (.string bytes) => bytes.length + 1
  | .lit _ => 1
  | .nil => 1
  | .ptr d => uptoBulk d + 1
  | .slice elems spare => uptoBulkAll elems + uptoBulkAll spare + 1
  | .agg parts => uptoBulkAll parts + 1
  | .iface _ d => uptoBulk d + 1
  | .map entries => uptoBulkEntries entries + 1
  | .held _ => 1
def uptoBulkAll {H : Type} : List (DataW H) → Nat
  | [] => 0
  | d :: r => uptoBulk d + uptoBulkAll r
def uptoBulkEntries {H : Type} : List (Lit × DataW H) → Nat
  | [] => 0
  | x :: r => uptoBulkEntry x + uptoBulkEntries r
def uptoBulkEntry {H : Type} : Lit × DataW H → Nat
  | (.string bytes, d) => bytes.length + uptoBulk d + 1
  | (_, d) => uptoBulk d + 1
 end
def uptoSmall : (H : Type) → List (DataW H) → Bool := fun _ ds => decide (uptoBulkAll ds ≤ 1048576)
def OpenSpec.upto (s : _root_.Go.ChangeSpec) : _root_.Go.OpenSpec := { _root_.Go.OpenSpec.ofChange s with cond := some uptoSmall }

/-- 'laws.FnExactCountDark', WHERE WHAT IT READS IS OF BULK AT MOST 1048576: true; the input reads as it did. -/
def fnExactCountDarkUptoRow : OpenClaim := { program := "ytcbijfbeapeliaa", sum := "6e903e22ce6f77666d1f2b1f423df6a27bb63280ce266398e55a6ec03b53d783", func := "loop.example/g01398/laws.FnExactCountDark", spec := "fnExactCountDark", apart := false, narrowed := true }
def FnExactCountDarkUptoSaid : Prop := fnExactCountDarkUptoRow.holds Try.pinned (OpenSpec.upto fnExactCountDarkSpec)

/-- 'laws.FnExactMatchOf', WHERE WHAT IT READS IS OF BULK AT MOST 1048576: true; the input reads as it did. -/
def fnExactMatchOfUptoRow : OpenClaim := { program := "ytcbijfbeapeliaa", sum := "6e903e22ce6f77666d1f2b1f423df6a27bb63280ce266398e55a6ec03b53d783", func := "loop.example/g01398/laws.FnExactMatchOf", spec := "fnExactMatchOf", apart := false, narrowed := true }
def FnExactMatchOfUptoSaid : Prop := fnExactMatchOfUptoRow.holds Try.pinned (OpenSpec.upto fnExactMatchOfSpec)

/-- 'laws.FnExactBestMove', WHERE WHAT IT READS IS OF BULK AT MOST 1048576: true; the input reads as it did. -/
def fnExactBestMoveUptoRow : OpenClaim := { program := "ytcbijfbeapeliaa", sum := "6e903e22ce6f77666d1f2b1f423df6a27bb63280ce266398e55a6ec03b53d783", func := "loop.example/g01398/laws.FnExactBestMove", spec := "fnExactBestMove", unfollowed := true, recurses := true, apart := false, narrowed := true }
def FnExactBestMoveUptoSaid : Prop := fnExactBestMoveUptoRow.holds Try.pinned (OpenSpec.upto fnExactBestMoveSpec)

/-- 'laws.FnExactMayBeWorn', WHERE WHAT IT READS IS OF BULK AT MOST 1048576: true; the input reads as it did. -/
def fnExactMayBeWornUptoRow : OpenClaim := { program := "ytcbijfbeapeliaa", sum := "6e903e22ce6f77666d1f2b1f423df6a27bb63280ce266398e55a6ec03b53d783", func := "loop.example/g01398/laws.FnExactMayBeWorn", spec := "fnExactMayBeWorn", apart := false, narrowed := true }
def FnExactMayBeWornUptoSaid : Prop := fnExactMayBeWornUptoRow.holds Try.pinned (OpenSpec.upto fnExactMayBeWornSpec)

/-- 'laws.FnExactMirrorRubbing', WHERE WHAT IT READS IS OF BULK AT MOST 1048576: true; the input reads as it did. -/
def fnExactMirrorRubbingUptoRow : OpenClaim := { program := "ytcbijfbeapeliaa", sum := "6e903e22ce6f77666d1f2b1f423df6a27bb63280ce266398e55a6ec03b53d783", func := "loop.example/g01398/laws.FnExactMirrorRubbing", spec := "fnExactMirrorRubbing", apart := false, narrowed := true }
def FnExactMirrorRubbingUptoSaid : Prop := fnExactMirrorRubbingUptoRow.holds Try.pinned (OpenSpec.upto fnExactMirrorRubbingSpec)

/-- 'laws.FnExactDarkRows', WHERE WHAT IT READS IS OF BULK AT MOST 1048576: true; the input reads as it did. -/
def fnExactDarkRowsUptoRow : OpenClaim := { program := "ytcbijfbeapeliaa", sum := "6e903e22ce6f77666d1f2b1f423df6a27bb63280ce266398e55a6ec03b53d783", func := "loop.example/g01398/laws.FnExactDarkRows", spec := "fnExactDarkRows", apart := false, narrowed := true }
def FnExactDarkRowsUptoSaid : Prop := fnExactDarkRowsUptoRow.holds Try.pinned (OpenSpec.upto fnExactDarkRowsSpec)

/-- 'laws.FnExactGapsOf', WHERE WHAT IT READS IS OF BULK AT MOST 1048576: true; the input reads as it did. -/
def fnExactGapsOfUptoRow : OpenClaim := { program := "ytcbijfbeapeliaa", sum := "6e903e22ce6f77666d1f2b1f423df6a27bb63280ce266398e55a6ec03b53d783", func := "loop.example/g01398/laws.FnExactGapsOf", spec := "fnExactGapsOf", inPlace := ["internal/bytealg.IndexByteString", "internal/bytealg.IndexString"], unfollowed := true, recurses := true, named := ["internal/bytealg.MaxLen"], apart := false, narrowed := true }
def FnExactGapsOfUptoSaid : Prop := fnExactGapsOfUptoRow.holds Try.pinned (OpenSpec.upto fnExactGapsOfSpec)

/-- 'laws.FnExactRubbingText', WHERE WHAT IT READS IS OF BULK AT MOST 1048576: true; the input reads as it did. -/
def fnExactRubbingTextUptoRow : OpenClaim := { program := "ytcbijfbeapeliaa", sum := "6e903e22ce6f77666d1f2b1f423df6a27bb63280ce266398e55a6ec03b53d783", func := "loop.example/g01398/laws.FnExactRubbingText", spec := "fnExactRubbingText", inPlace := ["internal/abi.NoEscape"], apart := false, narrowed := true }
def FnExactRubbingTextUptoSaid : Prop := fnExactRubbingTextUptoRow.holds Try.pinned (OpenSpec.upto fnExactRubbingTextSpec)

/-- 'laws.FnExactReadRubbing', WHERE WHAT IT READS IS OF BULK AT MOST 1048576: true; the input reads as it did. -/
def fnExactReadRubbingUptoRow : OpenClaim := { program := "ytcbijfbeapeliaa", sum := "6e903e22ce6f77666d1f2b1f423df6a27bb63280ce266398e55a6ec03b53d783", func := "loop.example/g01398/laws.FnExactReadRubbing", spec := "fnExactReadRubbing", inPlace := ["internal/abi.NoEscape"], unfollowed := true, recurses := true, apart := false, narrowed := true }
def FnExactReadRubbingUptoSaid : Prop := fnExactReadRubbingUptoRow.holds Try.pinned (OpenSpec.upto fnExactReadRubbingSpec)

end Rows
end Go.Proofs.Ytcbijfbeapeliaa
