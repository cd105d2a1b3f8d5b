/-
  NARROWER THAN 'FOR EVERY INPUT', by the rows' own cells (each row's printed sentence says how): FnExactMoveRubbing: laid · FnExactMatchAt: laid · FnExactWearOnce: laid · FnExactWearUntil: laid · FnExactJoinRubbings: laid · FnExactSureDark: laid · FnExactGapsApart: laid · FnExactNearestHand: laid · FnExactGroupHands: laid · FnExactBestShift: laid · FnExactPricesText: laid.
  DERIVED. THE GIVEN ROWS OF THIS SEAT. 11 by the template 'for every input the law returns true; each argument reads behind the call as it read before'; 0 by the template 'total and deterministic' (their statements: YtcbijfbeapeliaaDoorTotals.lean).
  GIVEN WITH THE SEED: the statements are not yours to turn. If you find one false, say at which input.
  Laid BY PROGRAM, IN A SANDBOX (cutbox-rows.mjs): the forced cells as the released guide's own fill.sh prints them over the translation 4e94af2b0a4fda2c… (all of the seat's roots in one cut). By AI agents, Wed Nov 11 2026. No macro, syntax, notation, axiom, sorry.
-/
import Derived.Test.YtcbijfbeapeliaaDoorChecked
import GoSem.PinnedTables
import GoSem.Claim
import GoSem.ClaimJoined
import GoSem.ClaimMapViews
import Derived.JoinedTies
import Derived.KernelRfl
namespace Go.Proofs.YtcbijfbeapeliaaDoor
/- THE CELL 'sum', in the pinned program and in every row, IS THE sha256 OF THE DUMP (.gsa) THAT YtcbijfbeapeliaaDoorProg.lean LOADS. Nothing in Lean hashes anything: it is a label: what it is worth is what the hold of that sum in a sandbox is worth. -/
noncomputable def Tryd.pinned : Pinned := { name := "ytcbijfbeapeliaadoor", sum := "4e94af2b0a4fda2cc1211848f9827cc6dc94a6f6409c81758792494b8f317f23", checked := Tryd.checked }
namespace Rows
def none {H : Type} : Left H := { results := [], args := [] }

/- WHAT THE LISTED PACKAGE-LEVEL VARIABLES READ AS WHEN THE CALL BEGINS. Each datum BY PROGRAM (the guide's laid-datum.mjs) off the statement by which the dump's own 'gosem.cut.vars' lays the variable. In a bare row this is a premise. The card (YtcbijfbeapeliaaDoorCards.lean) ties it to the program's text. -/
def laid_errors_errorType {H : Type} : DataW H := .iface "internal/reflectlite.rtype" (.agg [.ptr (.lit (.string [101, 114, 114, 111, 114]))])
def laid_unicode_utf8_acceptRanges {H : Type} : DataW H := .agg [.agg [.lit (.int .u8 128), .lit (.int .u8 191)], .agg [.lit (.int .u8 160), .lit (.int .u8 191)], .agg [.lit (.int .u8 128), .lit (.int .u8 159)], .agg [.lit (.int .u8 144), .lit (.int .u8 191)], .agg [.lit (.int .u8 128), .lit (.int .u8 143)], .agg [.lit (.int .u8 0), .lit (.int .u8 0)], .agg [.lit (.int .u8 0), .lit (.int .u8 0)], .agg [.lit (.int .u8 0), .lit (.int .u8 0)], .agg [.lit (.int .u8 0), .lit (.int .u8 0)], .agg [.lit (.int .u8 0), .lit (.int .u8 0)], .agg [.lit (.int .u8 0), .lit (.int .u8 0)], .agg [.lit (.int .u8 0), .lit (.int .u8 0)], .agg [.lit (.int .u8 0), .lit (.int .u8 0)], .agg [.lit (.int .u8 0), .lit (.int .u8 0)], .agg [.lit (.int .u8 0), .lit (.int .u8 0)], .agg [.lit (.int .u8 0), .lit (.int .u8 0)]]
/-- One of Go's own tables, pinned by name: the form's constant. -/
def laid_unicode_utf8_first : DataW Unit := Go.Pinned.utf8First
def laid_math_bits_deBruijn32tab {H : Type} : DataW H := .agg [.lit (.int .u8 0), .lit (.int .u8 1), .lit (.int .u8 28), .lit (.int .u8 2), .lit (.int .u8 29), .lit (.int .u8 14), .lit (.int .u8 24), .lit (.int .u8 3), .lit (.int .u8 30), .lit (.int .u8 22), .lit (.int .u8 20), .lit (.int .u8 15), .lit (.int .u8 25), .lit (.int .u8 17), .lit (.int .u8 4), .lit (.int .u8 8), .lit (.int .u8 31), .lit (.int .u8 27), .lit (.int .u8 13), .lit (.int .u8 23), .lit (.int .u8 21), .lit (.int .u8 19), .lit (.int .u8 16), .lit (.int .u8 7), .lit (.int .u8 26), .lit (.int .u8 12), .lit (.int .u8 18), .lit (.int .u8 6), .lit (.int .u8 11), .lit (.int .u8 5), .lit (.int .u8 10), .lit (.int .u8 9)]
def laid_math_bits_deBruijn64tab {H : Type} : DataW H := .agg [.lit (.int .u8 0), .lit (.int .u8 1), .lit (.int .u8 56), .lit (.int .u8 2), .lit (.int .u8 57), .lit (.int .u8 49), .lit (.int .u8 28), .lit (.int .u8 3), .lit (.int .u8 61), .lit (.int .u8 58), .lit (.int .u8 42), .lit (.int .u8 50), .lit (.int .u8 38), .lit (.int .u8 29), .lit (.int .u8 17), .lit (.int .u8 4), .lit (.int .u8 62), .lit (.int .u8 47), .lit (.int .u8 59), .lit (.int .u8 36), .lit (.int .u8 45), .lit (.int .u8 43), .lit (.int .u8 51), .lit (.int .u8 22), .lit (.int .u8 53), .lit (.int .u8 39), .lit (.int .u8 33), .lit (.int .u8 30), .lit (.int .u8 24), .lit (.int .u8 18), .lit (.int .u8 12), .lit (.int .u8 5), .lit (.int .u8 63), .lit (.int .u8 55), .lit (.int .u8 48), .lit (.int .u8 27), .lit (.int .u8 60), .lit (.int .u8 41), .lit (.int .u8 37), .lit (.int .u8 16), .lit (.int .u8 46), .lit (.int .u8 35), .lit (.int .u8 44), .lit (.int .u8 21), .lit (.int .u8 52), .lit (.int .u8 32), .lit (.int .u8 23), .lit (.int .u8 11), .lit (.int .u8 54), .lit (.int .u8 26), .lit (.int .u8 40), .lit (.int .u8 15), .lit (.int .u8 34), .lit (.int .u8 20), .lit (.int .u8 31), .lit (.int .u8 10), .lit (.int .u8 25), .lit (.int .u8 14), .lit (.int .u8 19), .lit (.int .u8 9), .lit (.int .u8 13), .lit (.int .u8 8), .lit (.int .u8 7), .lit (.int .u8 6)]
def laid_internal_strconv_uint64pow10 {H : Type} : DataW H := .agg [.lit (.int .u64 1), .lit (.int .u64 10), .lit (.int .u64 100), .lit (.int .u64 1000), .lit (.int .u64 10000), .lit (.int .u64 100000), .lit (.int .u64 1000000), .lit (.int .u64 10000000), .lit (.int .u64 100000000), .lit (.int .u64 1000000000), .lit (.int .u64 10000000000), .lit (.int .u64 100000000000), .lit (.int .u64 1000000000000), .lit (.int .u64 10000000000000), .lit (.int .u64 100000000000000), .lit (.int .u64 1000000000000000), .lit (.int .u64 10000000000000000), .lit (.int .u64 100000000000000000), .lit (.int .u64 1000000000000000000), .lit (.int .u64 10000000000000000000)]

/-- 'laws.FnExactMoveRubbing': WHATEVER THE INPUT: true; the input reads as it did. -/
def fnExactMoveRubbingSpec : ChangeSpec := { name := "fnExactMoveRubbing", fn := fun _ => fun
  | [d1, d2, d3] => { results := [.lit (.bool true)], args := [d1, d2, d3] }
  | _ => none }
def fnExactMoveRubbingRow : OpenClaim := { program := "ytcbijfbeapeliaadoor", sum := "4e94af2b0a4fda2cc1211848f9827cc6dc94a6f6409c81758792494b8f317f23", func := "loop.example/g01398/laws.FnExactMoveRubbing", spec := "fnExactMoveRubbing", inPlace := ["internal/reflectlite.ValueOf", "(internal/reflectlite.Value).Type", "(internal/reflectlite.Value).IsNil", "internal/reflectlite.TypeOf", "(internal/reflectlite.Value).Elem", "(internal/reflectlite.Value).Set"], unfollowed := true, recurses := true, named := ["errors.errorType"], plainKeys := false, apart := false, laid := [("errors.errorType", laid_errors_errorType)] }
def FnExactMoveRubbingSaid : Prop := fnExactMoveRubbingRow.holds Tryd.pinned (OpenSpec.ofChange fnExactMoveRubbingSpec)

/-- ITS FALSE NEIGHBOUR: 'it returns false'. Refute it at one input. -/
def fnExactMoveRubbingWrong : ChangeSpec := { name := "fnExactMoveRubbing", fn := fun _ => fun
  | [d1, d2, d3] => { results := [.lit (.bool false)], args := [d1, d2, d3] }
  | _ => none }
def FnExactMoveRubbingWrongFalsely : Prop := fnExactMoveRubbingRow.holds Tryd.pinned (OpenSpec.ofChange fnExactMoveRubbingWrong)

/-- 'laws.FnExactMatchAt': WHATEVER THE INPUT: true; the input reads as it did. -/
def fnExactMatchAtSpec : ChangeSpec := { name := "fnExactMatchAt", fn := fun _ => fun
  | [d1, d2, d3, d4] => { results := [.lit (.bool true)], args := [d1, d2, d3, d4] }
  | _ => none }
def fnExactMatchAtRow : OpenClaim := { program := "ytcbijfbeapeliaadoor", sum := "4e94af2b0a4fda2cc1211848f9827cc6dc94a6f6409c81758792494b8f317f23", func := "loop.example/g01398/laws.FnExactMatchAt", spec := "fnExactMatchAt", inPlace := ["internal/reflectlite.ValueOf", "(internal/reflectlite.Value).Type", "(internal/reflectlite.Value).IsNil", "internal/reflectlite.TypeOf", "(internal/reflectlite.Value).Elem", "(internal/reflectlite.Value).Set"], unfollowed := true, recurses := true, named := ["errors.errorType"], plainKeys := false, apart := false, laid := [("errors.errorType", laid_errors_errorType)] }
def FnExactMatchAtSaid : Prop := fnExactMatchAtRow.holds Tryd.pinned (OpenSpec.ofChange fnExactMatchAtSpec)

/-- ITS FALSE NEIGHBOUR: 'it returns false'. Refute it at one input. -/
def fnExactMatchAtWrong : ChangeSpec := { name := "fnExactMatchAt", fn := fun _ => fun
  | [d1, d2, d3, d4] => { results := [.lit (.bool false)], args := [d1, d2, d3, d4] }
  | _ => none }
def FnExactMatchAtWrongFalsely : Prop := fnExactMatchAtRow.holds Tryd.pinned (OpenSpec.ofChange fnExactMatchAtWrong)

/-- 'laws.FnExactWearOnce': WHATEVER THE INPUT: true; the input reads as it did. -/
def fnExactWearOnceSpec : ChangeSpec := { name := "fnExactWearOnce", fn := fun _ => fun
  | [d1, d2] => { results := [.lit (.bool true)], args := [d1, d2] }
  | _ => none }
def fnExactWearOnceRow : OpenClaim := { program := "ytcbijfbeapeliaadoor", sum := "4e94af2b0a4fda2cc1211848f9827cc6dc94a6f6409c81758792494b8f317f23", func := "loop.example/g01398/laws.FnExactWearOnce", spec := "fnExactWearOnce", inPlace := ["internal/reflectlite.ValueOf", "(internal/reflectlite.Value).Type", "(internal/reflectlite.Value).IsNil", "internal/reflectlite.TypeOf", "(internal/reflectlite.Value).Elem", "(internal/reflectlite.Value).Set"], unfollowed := true, recurses := true, named := ["errors.errorType"], plainKeys := false, apart := false, laid := [("errors.errorType", laid_errors_errorType)] }
def FnExactWearOnceSaid : Prop := fnExactWearOnceRow.holds Tryd.pinned (OpenSpec.ofChange fnExactWearOnceSpec)

/-- ITS FALSE NEIGHBOUR: 'it returns false'. Refute it at one input. -/
def fnExactWearOnceWrong : ChangeSpec := { name := "fnExactWearOnce", fn := fun _ => fun
  | [d1, d2] => { results := [.lit (.bool false)], args := [d1, d2] }
  | _ => none }
def FnExactWearOnceWrongFalsely : Prop := fnExactWearOnceRow.holds Tryd.pinned (OpenSpec.ofChange fnExactWearOnceWrong)

/-- 'laws.FnExactWearUntil': WHATEVER THE INPUT: true; the input reads as it did. -/
def fnExactWearUntilSpec : ChangeSpec := { name := "fnExactWearUntil", fn := fun _ => fun
  | [d1, d2, d3] => { results := [.lit (.bool true)], args := [d1, d2, d3] }
  | _ => none }
def fnExactWearUntilRow : OpenClaim := { program := "ytcbijfbeapeliaadoor", sum := "4e94af2b0a4fda2cc1211848f9827cc6dc94a6f6409c81758792494b8f317f23", func := "loop.example/g01398/laws.FnExactWearUntil", spec := "fnExactWearUntil", inPlace := ["internal/reflectlite.ValueOf", "(internal/reflectlite.Value).Type", "(internal/reflectlite.Value).IsNil", "internal/reflectlite.TypeOf", "(internal/reflectlite.Value).Elem", "(internal/reflectlite.Value).Set"], unfollowed := true, recurses := true, named := ["errors.errorType"], plainKeys := false, apart := false, laid := [("errors.errorType", laid_errors_errorType)] }
def FnExactWearUntilSaid : Prop := fnExactWearUntilRow.holds Tryd.pinned (OpenSpec.ofChange fnExactWearUntilSpec)

/-- ITS FALSE NEIGHBOUR: 'it returns false'. Refute it at one input. -/
def fnExactWearUntilWrong : ChangeSpec := { name := "fnExactWearUntil", fn := fun _ => fun
  | [d1, d2, d3] => { results := [.lit (.bool false)], args := [d1, d2, d3] }
  | _ => none }
def FnExactWearUntilWrongFalsely : Prop := fnExactWearUntilRow.holds Tryd.pinned (OpenSpec.ofChange fnExactWearUntilWrong)

/-- 'laws.FnExactJoinRubbings': WHATEVER THE INPUT: true; the input reads as it did. -/
def fnExactJoinRubbingsSpec : ChangeSpec := { name := "fnExactJoinRubbings", fn := fun _ => fun
  | [d] => { results := [.lit (.bool true)], args := [d] }
  | _ => none }
def fnExactJoinRubbingsRow : OpenClaim := { program := "ytcbijfbeapeliaadoor", sum := "4e94af2b0a4fda2cc1211848f9827cc6dc94a6f6409c81758792494b8f317f23", func := "loop.example/g01398/laws.FnExactJoinRubbings", spec := "fnExactJoinRubbings", inPlace := ["internal/reflectlite.ValueOf", "(internal/reflectlite.Value).Type", "(internal/reflectlite.Value).IsNil", "internal/reflectlite.TypeOf", "(internal/reflectlite.Value).Elem", "(internal/reflectlite.Value).Set"], unfollowed := true, recurses := true, named := ["errors.errorType"], plainKeys := false, apart := false, laid := [("errors.errorType", laid_errors_errorType)] }
def FnExactJoinRubbingsSaid : Prop := fnExactJoinRubbingsRow.holds Tryd.pinned (OpenSpec.ofChange fnExactJoinRubbingsSpec)

/-- ITS FALSE NEIGHBOUR: 'it returns false'. Refute it at one input. -/
def fnExactJoinRubbingsWrong : ChangeSpec := { name := "fnExactJoinRubbings", fn := fun _ => fun
  | [d] => { results := [.lit (.bool false)], args := [d] }
  | _ => none }
def FnExactJoinRubbingsWrongFalsely : Prop := fnExactJoinRubbingsRow.holds Tryd.pinned (OpenSpec.ofChange fnExactJoinRubbingsWrong)

/-- 'laws.FnExactSureDark': WHATEVER THE INPUT: true; the input reads as it did. -/
def fnExactSureDarkSpec : ChangeSpec := { name := "fnExactSureDark", fn := fun _ => fun
  | [d1, d2] => { results := [.lit (.bool true)], args := [d1, d2] }
  | _ => none }
def fnExactSureDarkRow : OpenClaim := { program := "ytcbijfbeapeliaadoor", sum := "4e94af2b0a4fda2cc1211848f9827cc6dc94a6f6409c81758792494b8f317f23", func := "loop.example/g01398/laws.FnExactSureDark", spec := "fnExactSureDark", inPlace := ["internal/reflectlite.ValueOf", "(internal/reflectlite.Value).Type", "(internal/reflectlite.Value).IsNil", "internal/reflectlite.TypeOf", "(internal/reflectlite.Value).Elem", "(internal/reflectlite.Value).Set"], unfollowed := true, recurses := true, named := ["errors.errorType"], plainKeys := false, apart := false, laid := [("errors.errorType", laid_errors_errorType)] }
def FnExactSureDarkSaid : Prop := fnExactSureDarkRow.holds Tryd.pinned (OpenSpec.ofChange fnExactSureDarkSpec)

/-- ITS FALSE NEIGHBOUR: 'it returns false'. Refute it at one input. -/
def fnExactSureDarkWrong : ChangeSpec := { name := "fnExactSureDark", fn := fun _ => fun
  | [d1, d2] => { results := [.lit (.bool false)], args := [d1, d2] }
  | _ => none }
def FnExactSureDarkWrongFalsely : Prop := fnExactSureDarkRow.holds Tryd.pinned (OpenSpec.ofChange fnExactSureDarkWrong)

/-- 'laws.FnExactGapsApart': WHATEVER THE INPUT: true; the input reads as it did. -/
def fnExactGapsApartSpec : ChangeSpec := { name := "fnExactGapsApart", fn := fun _ => fun
  | [d1, d2] => { results := [.lit (.bool true)], args := [d1, d2] }
  | _ => none }
def fnExactGapsApartRow : OpenClaim := { program := "ytcbijfbeapeliaadoor", sum := "4e94af2b0a4fda2cc1211848f9827cc6dc94a6f6409c81758792494b8f317f23", func := "loop.example/g01398/laws.FnExactGapsApart", spec := "fnExactGapsApart", inPlace := ["internal/reflectlite.ValueOf", "(internal/reflectlite.Value).Type", "(internal/reflectlite.Value).IsNil", "internal/reflectlite.TypeOf", "(internal/reflectlite.Value).Elem", "(internal/reflectlite.Value).Set"], unfollowed := true, recurses := true, named := ["errors.errorType"], plainKeys := false, apart := false, laid := [("errors.errorType", laid_errors_errorType)] }
def FnExactGapsApartSaid : Prop := fnExactGapsApartRow.holds Tryd.pinned (OpenSpec.ofChange fnExactGapsApartSpec)

/-- ITS FALSE NEIGHBOUR: 'it returns false'. Refute it at one input. -/
def fnExactGapsApartWrong : ChangeSpec := { name := "fnExactGapsApart", fn := fun _ => fun
  | [d1, d2] => { results := [.lit (.bool false)], args := [d1, d2] }
  | _ => none }
def FnExactGapsApartWrongFalsely : Prop := fnExactGapsApartRow.holds Tryd.pinned (OpenSpec.ofChange fnExactGapsApartWrong)

/-- 'laws.FnExactNearestHand': WHATEVER THE INPUT: true; the input reads as it did. -/
def fnExactNearestHandSpec : ChangeSpec := { name := "fnExactNearestHand", fn := fun _ => fun
  | [d1, d2] => { results := [.lit (.bool true)], args := [d1, d2] }
  | _ => none }
def fnExactNearestHandRow : OpenClaim := { program := "ytcbijfbeapeliaadoor", sum := "4e94af2b0a4fda2cc1211848f9827cc6dc94a6f6409c81758792494b8f317f23", func := "loop.example/g01398/laws.FnExactNearestHand", spec := "fnExactNearestHand", inPlace := ["internal/reflectlite.ValueOf", "(internal/reflectlite.Value).Type", "(internal/reflectlite.Value).IsNil", "internal/reflectlite.TypeOf", "(internal/reflectlite.Value).Elem", "(internal/reflectlite.Value).Set"], unfollowed := true, recurses := true, named := ["errors.errorType"], plainKeys := false, apart := false, laid := [("errors.errorType", laid_errors_errorType)] }
def FnExactNearestHandSaid : Prop := fnExactNearestHandRow.holds Tryd.pinned (OpenSpec.ofChange fnExactNearestHandSpec)

/-- ITS FALSE NEIGHBOUR: 'it returns false'. Refute it at one input. -/
def fnExactNearestHandWrong : ChangeSpec := { name := "fnExactNearestHand", fn := fun _ => fun
  | [d1, d2] => { results := [.lit (.bool false)], args := [d1, d2] }
  | _ => none }
def FnExactNearestHandWrongFalsely : Prop := fnExactNearestHandRow.holds Tryd.pinned (OpenSpec.ofChange fnExactNearestHandWrong)

/-- 'laws.FnExactGroupHands': WHATEVER THE INPUT: true; the input reads as it did. -/
def fnExactGroupHandsSpec : ChangeSpec := { name := "fnExactGroupHands", fn := fun _ => fun
  | [d1, d2] => { results := [.lit (.bool true)], args := [d1, d2] }
  | _ => none }
def fnExactGroupHandsRow : OpenClaim := { program := "ytcbijfbeapeliaadoor", sum := "4e94af2b0a4fda2cc1211848f9827cc6dc94a6f6409c81758792494b8f317f23", func := "loop.example/g01398/laws.FnExactGroupHands", spec := "fnExactGroupHands", inPlace := ["internal/reflectlite.ValueOf", "(internal/reflectlite.Value).Type", "(internal/reflectlite.Value).IsNil", "internal/reflectlite.TypeOf", "(internal/reflectlite.Value).Elem", "(internal/reflectlite.Value).Set"], unfollowed := true, recurses := true, named := ["errors.errorType"], plainKeys := false, apart := false, laid := [("errors.errorType", laid_errors_errorType)] }
def FnExactGroupHandsSaid : Prop := fnExactGroupHandsRow.holds Tryd.pinned (OpenSpec.ofChange fnExactGroupHandsSpec)

/-- ITS FALSE NEIGHBOUR: 'it returns false'. Refute it at one input. -/
def fnExactGroupHandsWrong : ChangeSpec := { name := "fnExactGroupHands", fn := fun _ => fun
  | [d1, d2] => { results := [.lit (.bool false)], args := [d1, d2] }
  | _ => none }
def FnExactGroupHandsWrongFalsely : Prop := fnExactGroupHandsRow.holds Tryd.pinned (OpenSpec.ofChange fnExactGroupHandsWrong)

/-- 'laws.FnExactBestShift': WHATEVER THE INPUT: true; the input reads as it did. -/
def fnExactBestShiftSpec : ChangeSpec := { name := "fnExactBestShift", fn := fun _ => fun
  | [d1, d2, d3] => { results := [.lit (.bool true)], args := [d1, d2, d3] }
  | _ => none }
def fnExactBestShiftRow : OpenClaim := { program := "ytcbijfbeapeliaadoor", sum := "4e94af2b0a4fda2cc1211848f9827cc6dc94a6f6409c81758792494b8f317f23", func := "loop.example/g01398/laws.FnExactBestShift", spec := "fnExactBestShift", inPlace := ["internal/bytealg.CountString", "internal/bytealg.IndexByteString", "internal/bytealg.IndexString", "internal/abi.NoEscape", "internal/bytealg.MakeNoZero"], unfollowed := true, recurses := true, named := ["internal/bytealg.MaxLen", "unicode/utf8.first", "unicode/utf8.acceptRanges"], plainKeys := false, apart := false, laid := [("unicode/utf8.acceptRanges", laid_unicode_utf8_acceptRanges), ("unicode/utf8.first", laid_unicode_utf8_first)] }
def FnExactBestShiftSaid : Prop := fnExactBestShiftRow.holds Tryd.pinned (OpenSpec.ofChange fnExactBestShiftSpec)

/-- ITS FALSE NEIGHBOUR: 'it returns false'. Refute it at one input. -/
def fnExactBestShiftWrong : ChangeSpec := { name := "fnExactBestShift", fn := fun _ => fun
  | [d1, d2, d3] => { results := [.lit (.bool false)], args := [d1, d2, d3] }
  | _ => none }
def FnExactBestShiftWrongFalsely : Prop := fnExactBestShiftRow.holds Tryd.pinned (OpenSpec.ofChange fnExactBestShiftWrong)

/-- 'laws.FnExactPricesText': WHATEVER THE INPUT: true; the input reads as it did. -/
def fnExactPricesTextSpec : ChangeSpec := { name := "fnExactPricesText", fn := fun _ => fun
  | [d] => { results := [.lit (.bool true)], args := [d] }
  | _ => none }
def fnExactPricesTextRow : OpenClaim := { program := "ytcbijfbeapeliaadoor", sum := "4e94af2b0a4fda2cc1211848f9827cc6dc94a6f6409c81758792494b8f317f23", func := "loop.example/g01398/laws.FnExactPricesText", spec := "fnExactPricesText", inPlace := ["internal/abi.NoEscape", "internal/bytealg.MakeNoZero"], unfollowed := true, recurses := true, named := ["internal/strconv.uint64pow10", "math/bits.deBruijn32tab", "math/bits.deBruijn64tab"], plainKeys := false, apart := false, laid := [("math/bits.deBruijn32tab", laid_math_bits_deBruijn32tab), ("math/bits.deBruijn64tab", laid_math_bits_deBruijn64tab), ("internal/strconv.uint64pow10", laid_internal_strconv_uint64pow10)] }
def FnExactPricesTextSaid : Prop := fnExactPricesTextRow.holds Tryd.pinned (OpenSpec.ofChange fnExactPricesTextSpec)

/-- ITS FALSE NEIGHBOUR: 'it returns false'. Refute it at one input. -/
def fnExactPricesTextWrong : ChangeSpec := { name := "fnExactPricesText", fn := fun _ => fun
  | [d] => { results := [.lit (.bool false)], args := [d] }
  | _ => none }
def FnExactPricesTextWrongFalsely : Prop := fnExactPricesTextRow.holds Tryd.pinned (OpenSpec.ofChange fnExactPricesTextWrong)

/- THE SECOND FORM. 'bulk': how many values and letters a reading holds, each counted each time it is reached (what is shared counts as often as it is met; a slice's spare places count too). A statement '..UptoSaid' is the law's where the arguments, and the package variables that the reading takes, are together of bulk at most 1048576: NARROWER than '..Said'. Prove '..Said' where nothing that the law and all that it calls make is longer than what came in: it says more and counts as full. Else prove '..UptoSaid'. A law counts once. -/
mutual
def uptoBulk {H : Type} : DataW H → Nat
  | .lit (.string bytes) => bytes.length + 1
  | .lit _ => 1
  | .nil => 1
  | .ptr d => uptoBulk d + 1
  | .slice elems spare => uptoBulkAll elems + uptoBulkAll spare + 1
  | .agg parts => uptoBulkAll parts + 1
  | .iface _ d => uptoBulk d + 1
  | .map entries => uptoBulkEntries entries + 1
  | .held _ => 1
def uptoBulkAll {H : Type} : List (DataW H) → Nat
  | [] => 0
  | d :: r => uptoBulk d + uptoBulkAll r
def uptoBulkEntries {H : Type} : List (Lit × DataW H) → Nat
  | [] => 0
  | x :: r => uptoBulkEntry x + uptoBulkEntries r
def uptoBulkEntry {H : Type} : Lit × DataW H → Nat
  | (.string bytes, d) => bytes.length + uptoBulk d + 1
  | (_, d) => uptoBulk d + 1
 end
def uptoSmall : (H : Type) → List (DataW H) → Bool := fun _ ds => decide (uptoBulkAll ds ≤ 1048576)
def OpenSpec.upto (s : _root_.Go.ChangeSpec) : _root_.Go.OpenSpec := { _root_.Go.OpenSpec.ofChange s with cond := some uptoSmall }

/-- 'laws.FnExactMoveRubbing', WHERE WHAT IT READS IS OF BULK AT MOST 1048576: true; the input reads as it did. -/
def fnExactMoveRubbingUptoRow : OpenClaim := { program := "ytcbijfbeapeliaadoor", sum := "4e94af2b0a4fda2cc1211848f9827cc6dc94a6f6409c81758792494b8f317f23", func := "loop.example/g01398/laws.FnExactMoveRubbing", spec := "fnExactMoveRubbing", inPlace := ["internal/reflectlite.ValueOf", "(internal/reflectlite.Value).Type", "(internal/reflectlite.Value).IsNil", "internal/reflectlite.TypeOf", "(internal/reflectlite.Value).Elem", "(internal/reflectlite.Value).Set"], unfollowed := true, recurses := true, named := ["errors.errorType"], plainKeys := false, apart := false, laid := [("errors.errorType", laid_errors_errorType)], narrowed := true }
def FnExactMoveRubbingUptoSaid : Prop := fnExactMoveRubbingUptoRow.holds Tryd.pinned (OpenSpec.upto fnExactMoveRubbingSpec)

/-- 'laws.FnExactMatchAt', WHERE WHAT IT READS IS OF BULK AT MOST 1048576: true; the input reads as it did. -/
def fnExactMatchAtUptoRow : OpenClaim := { program := "ytcbijfbeapeliaadoor", sum := "4e94af2b0a4fda2cc1211848f9827cc6dc94a6f6409c81758792494b8f317f23", func := "loop.example/g01398/laws.FnExactMatchAt", spec := "fnExactMatchAt", inPlace := ["internal/reflectlite.ValueOf", "(internal/reflectlite.Value).Type", "(internal/reflectlite.Value).IsNil", "internal/reflectlite.TypeOf", "(internal/reflectlite.Value).Elem", "(internal/reflectlite.Value).Set"], unfollowed := true, recurses := true, named := ["errors.errorType"], plainKeys := false, apart := false, laid := [("errors.errorType", laid_errors_errorType)], narrowed := true }
def FnExactMatchAtUptoSaid : Prop := fnExactMatchAtUptoRow.holds Tryd.pinned (OpenSpec.upto fnExactMatchAtSpec)

/-- 'laws.FnExactWearOnce', WHERE WHAT IT READS IS OF BULK AT MOST 1048576: true; the input reads as it did. -/
def fnExactWearOnceUptoRow : OpenClaim := { program := "ytcbijfbeapeliaadoor", sum := "4e94af2b0a4fda2cc1211848f9827cc6dc94a6f6409c81758792494b8f317f23", func := "loop.example/g01398/laws.FnExactWearOnce", spec := "fnExactWearOnce", inPlace := ["internal/reflectlite.ValueOf", "(internal/reflectlite.Value).Type", "(internal/reflectlite.Value).IsNil", "internal/reflectlite.TypeOf", "(internal/reflectlite.Value).Elem", "(internal/reflectlite.Value).Set"], unfollowed := true, recurses := true, named := ["errors.errorType"], plainKeys := false, apart := false, laid := [("errors.errorType", laid_errors_errorType)], narrowed := true }
def FnExactWearOnceUptoSaid : Prop := fnExactWearOnceUptoRow.holds Tryd.pinned (OpenSpec.upto fnExactWearOnceSpec)

/-- 'laws.FnExactWearUntil', WHERE WHAT IT READS IS OF BULK AT MOST 1048576: true; the input reads as it did. -/
def fnExactWearUntilUptoRow : OpenClaim := { program := "ytcbijfbeapeliaadoor", sum := "4e94af2b0a4fda2cc1211848f9827cc6dc94a6f6409c81758792494b8f317f23", func := "loop.example/g01398/laws.FnExactWearUntil", spec := "fnExactWearUntil", inPlace := ["internal/reflectlite.ValueOf", "(internal/reflectlite.Value).Type", "(internal/reflectlite.Value).IsNil", "internal/reflectlite.TypeOf", "(internal/reflectlite.Value).Elem", "(internal/reflectlite.Value).Set"], unfollowed := true, recurses := true, named := ["errors.errorType"], plainKeys := false, apart := false, laid := [("errors.errorType", laid_errors_errorType)], narrowed := true }
def FnExactWearUntilUptoSaid : Prop := fnExactWearUntilUptoRow.holds Tryd.pinned (OpenSpec.upto fnExactWearUntilSpec)

/-- 'laws.FnExactJoinRubbings', WHERE WHAT IT READS IS OF BULK AT MOST 1048576: true; the input reads as it did. -/
def fnExactJoinRubbingsUptoRow : OpenClaim := { program := "ytcbijfbeapeliaadoor", sum := "4e94af2b0a4fda2cc1211848f9827cc6dc94a6f6409c81758792494b8f317f23", func := "loop.example/g01398/laws.FnExactJoinRubbings", spec := "fnExactJoinRubbings", inPlace := ["internal/reflectlite.ValueOf", "(internal/reflectlite.Value).Type", "(internal/reflectlite.Value).IsNil", "internal/reflectlite.TypeOf", "(internal/reflectlite.Value).Elem", "(internal/reflectlite.Value).Set"], unfollowed := true, recurses := true, named := ["errors.errorType"], plainKeys := false, apart := false, laid := [("errors.errorType", laid_errors_errorType)], narrowed := true }
def FnExactJoinRubbingsUptoSaid : Prop := fnExactJoinRubbingsUptoRow.holds Tryd.pinned (OpenSpec.upto fnExactJoinRubbingsSpec)

/-- 'laws.FnExactSureDark', WHERE WHAT IT READS IS OF BULK AT MOST 1048576: true; the input reads as it did. -/
def fnExactSureDarkUptoRow : OpenClaim := { program := "ytcbijfbeapeliaadoor", sum := "4e94af2b0a4fda2cc1211848f9827cc6dc94a6f6409c81758792494b8f317f23", func := "loop.example/g01398/laws.FnExactSureDark", spec := "fnExactSureDark", inPlace := ["internal/reflectlite.ValueOf", "(internal/reflectlite.Value).Type", "(internal/reflectlite.Value).IsNil", "internal/reflectlite.TypeOf", "(internal/reflectlite.Value).Elem", "(internal/reflectlite.Value).Set"], unfollowed := true, recurses := true, named := ["errors.errorType"], plainKeys := false, apart := false, laid := [("errors.errorType", laid_errors_errorType)], narrowed := true }
def FnExactSureDarkUptoSaid : Prop := fnExactSureDarkUptoRow.holds Tryd.pinned (OpenSpec.upto fnExactSureDarkSpec)

/-- 'laws.FnExactGapsApart', WHERE WHAT IT READS IS OF BULK AT MOST 1048576: true; the input reads as it did. -/
def fnExactGapsApartUptoRow : OpenClaim := { program := "ytcbijfbeapeliaadoor", sum := "4e94af2b0a4fda2cc1211848f9827cc6dc94a6f6409c81758792494b8f317f23", func := "loop.example/g01398/laws.FnExactGapsApart", spec := "fnExactGapsApart", inPlace := ["internal/reflectlite.ValueOf", "(internal/reflectlite.Value).Type", "(internal/reflectlite.Value).IsNil", "internal/reflectlite.TypeOf", "(internal/reflectlite.Value).Elem", "(internal/reflectlite.Value).Set"], unfollowed := true, recurses := true, named := ["errors.errorType"], plainKeys := false, apart := false, laid := [("errors.errorType", laid_errors_errorType)], narrowed := true }
def FnExactGapsApartUptoSaid : Prop := fnExactGapsApartUptoRow.holds Tryd.pinned (OpenSpec.upto fnExactGapsApartSpec)

/-- 'laws.FnExactNearestHand', WHERE WHAT IT READS IS OF BULK AT MOST 1048576: true; the input reads as it did. -/
def fnExactNearestHandUptoRow : OpenClaim := { program := "ytcbijfbeapeliaadoor", sum := "4e94af2b0a4fda2cc1211848f9827cc6dc94a6f6409c81758792494b8f317f23", func := "loop.example/g01398/laws.FnExactNearestHand", spec := "fnExactNearestHand", inPlace := ["internal/reflectlite.ValueOf", "(internal/reflectlite.Value).Type", "(internal/reflectlite.Value).IsNil", "internal/reflectlite.TypeOf", "(internal/reflectlite.Value).Elem", "(internal/reflectlite.Value).Set"], unfollowed := true, recurses := true, named := ["errors.errorType"], plainKeys := false, apart := false, laid := [("errors.errorType", laid_errors_errorType)], narrowed := true }
def FnExactNearestHandUptoSaid : Prop := fnExactNearestHandUptoRow.holds Tryd.pinned (OpenSpec.upto fnExactNearestHandSpec)

/-- 'laws.FnExactGroupHands', WHERE WHAT IT READS IS OF BULK AT MOST 1048576: true; the input reads as it did. -/
def fnExactGroupHandsUptoRow : OpenClaim := { program := "ytcbijfbeapeliaadoor", sum := "4e94af2b0a4fda2cc1211848f9827cc6dc94a6f6409c81758792494b8f317f23", func := "loop.example/g01398/laws.FnExactGroupHands", spec := "fnExactGroupHands", inPlace := ["internal/reflectlite.ValueOf", "(internal/reflectlite.Value).Type", "(internal/reflectlite.Value).IsNil", "internal/reflectlite.TypeOf", "(internal/reflectlite.Value).Elem", "(internal/reflectlite.Value).Set"], unfollowed := true, recurses := true, named := ["errors.errorType"], plainKeys := false, apart := false, laid := [("errors.errorType", laid_errors_errorType)], narrowed := true }
def FnExactGroupHandsUptoSaid : Prop := fnExactGroupHandsUptoRow.holds Tryd.pinned (OpenSpec.upto fnExactGroupHandsSpec)

/-- 'laws.FnExactBestShift', WHERE WHAT IT READS IS OF BULK AT MOST 1048576: true; the input reads as it did. -/
def fnExactBestShiftUptoRow : OpenClaim := { program := "ytcbijfbeapeliaadoor", sum := "4e94af2b0a4fda2cc1211848f9827cc6dc94a6f6409c81758792494b8f317f23", func := "loop.example/g01398/laws.FnExactBestShift", spec := "fnExactBestShift", inPlace := ["internal/bytealg.CountString", "internal/bytealg.IndexByteString", "internal/bytealg.IndexString", "internal/abi.NoEscape", "internal/bytealg.MakeNoZero"], unfollowed := true, recurses := true, named := ["internal/bytealg.MaxLen", "unicode/utf8.first", "unicode/utf8.acceptRanges"], plainKeys := false, apart := false, laid := [("unicode/utf8.acceptRanges", laid_unicode_utf8_acceptRanges), ("unicode/utf8.first", laid_unicode_utf8_first)], narrowed := true }
def FnExactBestShiftUptoSaid : Prop := fnExactBestShiftUptoRow.holds Tryd.pinned (OpenSpec.upto fnExactBestShiftSpec)

/-- 'laws.FnExactPricesText', WHERE WHAT IT READS IS OF BULK AT MOST 1048576: true; the input reads as it did. -/
def fnExactPricesTextUptoRow : OpenClaim := { program := "ytcbijfbeapeliaadoor", sum := "4e94af2b0a4fda2cc1211848f9827cc6dc94a6f6409c81758792494b8f317f23", func := "loop.example/g01398/laws.FnExactPricesText", spec := "fnExactPricesText", inPlace := ["internal/abi.NoEscape", "internal/bytealg.MakeNoZero"], unfollowed := true, recurses := true, named := ["internal/strconv.uint64pow10", "math/bits.deBruijn32tab", "math/bits.deBruijn64tab"], plainKeys := false, apart := false, laid := [("math/bits.deBruijn32tab", laid_math_bits_deBruijn32tab), ("math/bits.deBruijn64tab", laid_math_bits_deBruijn64tab), ("internal/strconv.uint64pow10", laid_internal_strconv_uint64pow10)], narrowed := true }
def FnExactPricesTextUptoSaid : Prop := fnExactPricesTextUptoRow.holds Tryd.pinned (OpenSpec.upto fnExactPricesTextSpec)

end Rows
end Go.Proofs.YtcbijfbeapeliaaDoor
