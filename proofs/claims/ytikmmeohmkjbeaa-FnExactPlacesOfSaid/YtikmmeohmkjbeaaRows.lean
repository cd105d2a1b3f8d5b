/-
  No cell of these rows narrows 'for every input' (looked for: loops, veiled, ifaces, maps, wideKeys, modest, calm, conditions, laid).
  DERIVED. THE GIVEN ROWS OF THIS SEAT. 14 by the template 'for every input the law returns true; each argument reads behind the call as it read before'; 0 by the template 'total and deterministic' (their statements: YtikmmeohmkjbeaaTotals.lean).
  GIVEN WITH THE SEED: the statements are not yours to turn. If you find one false, say at which input.
  Laid BY PROGRAM, IN A SANDBOX (cutbox-rows.mjs): the forced cells as the released guide's own fill.sh prints them over the translation 54f4e401db0ae011… (all of the seat's roots in one cut). By AI agents, Wed Nov 11 2026. No macro, syntax, notation, axiom, sorry.
-/
import Derived.Test.YtikmmeohmkjbeaaChecked
import GoSem.Claim
import GoSem.ClaimJoined
import GoSem.ClaimMapViews
import Derived.JoinedTies
import Derived.KernelRfl
namespace Go.Proofs.Ytikmmeohmkjbeaa
/- THE CELL 'sum', in the pinned program and in every row, IS THE sha256 OF THE DUMP (.gsa) THAT YtikmmeohmkjbeaaProg.lean LOADS. Nothing in Lean hashes anything: it is a label: what it is worth is what the hold of that sum in a sandbox is worth. -/
noncomputable def Try.pinned : Pinned := { name := "ytikmmeohmkjbeaa", sum := "54f4e401db0ae011f774db8924f0da0264c360c8edeee7412e9594b53219b968", checked := Try.checked }
namespace Rows
def none {H : Type} : Left H := { results := [], args := [] }

/-- 'laws.FnExactCheckBreaks': WHATEVER THE INPUT: true; the input reads as it did. -/
def fnExactCheckBreaksSpec : ChangeSpec := { name := "fnExactCheckBreaks", fn := fun _ => fun
  | [d1, d2, d3, d4] => { results := [.lit (.bool true)], args := [d1, d2, d3, d4] }
  | _ => none }
def fnExactCheckBreaksRow : OpenClaim := { program := "ytikmmeohmkjbeaa", sum := "54f4e401db0ae011f774db8924f0da0264c360c8edeee7412e9594b53219b968", func := "loop.example/g01398/laws.FnExactCheckBreaks", spec := "fnExactCheckBreaks", inPlace := ["internal/bytealg.IndexByteString", "internal/bytealg.IndexString"], unfollowed := true, recurses := true, named := ["internal/bytealg.MaxLen"], apart := false }
def FnExactCheckBreaksSaid : Prop := fnExactCheckBreaksRow.holds Try.pinned (OpenSpec.ofChange fnExactCheckBreaksSpec)

/-- ITS FALSE NEIGHBOUR: 'it returns false'. Refute it at one input. -/
def fnExactCheckBreaksWrong : ChangeSpec := { name := "fnExactCheckBreaks", fn := fun _ => fun
  | [d1, d2, d3, d4] => { results := [.lit (.bool false)], args := [d1, d2, d3, d4] }
  | _ => none }
def FnExactCheckBreaksWrongFalsely : Prop := fnExactCheckBreaksRow.holds Try.pinned (OpenSpec.ofChange fnExactCheckBreaksWrong)

/-- 'laws.FnExactRightRoom': WHATEVER THE INPUT: true; the input reads as it did. -/
def fnExactRightRoomSpec : ChangeSpec := { name := "fnExactRightRoom", fn := fun _ => fun
  | [d1, d2, d3, d4] => { results := [.lit (.bool true)], args := [d1, d2, d3, d4] }
  | _ => none }
def fnExactRightRoomRow : OpenClaim := { program := "ytikmmeohmkjbeaa", sum := "54f4e401db0ae011f774db8924f0da0264c360c8edeee7412e9594b53219b968", func := "loop.example/g01398/laws.FnExactRightRoom", spec := "fnExactRightRoom", inPlace := ["internal/bytealg.IndexByteString", "internal/bytealg.IndexString"], unfollowed := true, recurses := true, named := ["internal/bytealg.MaxLen"], apart := false }
def FnExactRightRoomSaid : Prop := fnExactRightRoomRow.holds Try.pinned (OpenSpec.ofChange fnExactRightRoomSpec)

/-- ITS FALSE NEIGHBOUR: 'it returns false'. Refute it at one input. -/
def fnExactRightRoomWrong : ChangeSpec := { name := "fnExactRightRoom", fn := fun _ => fun
  | [d1, d2, d3, d4] => { results := [.lit (.bool false)], args := [d1, d2, d3, d4] }
  | _ => none }
def FnExactRightRoomWrongFalsely : Prop := fnExactRightRoomRow.holds Try.pinned (OpenSpec.ofChange fnExactRightRoomWrong)

/-- 'laws.FnExactUnevenOf': WHATEVER THE INPUT: true; the input reads as it did. -/
def fnExactUnevenOfSpec : ChangeSpec := { name := "fnExactUnevenOf", fn := fun _ => fun
  | [d1, d2, d3, d4] => { results := [.lit (.bool true)], args := [d1, d2, d3, d4] }
  | _ => none }
def fnExactUnevenOfRow : OpenClaim := { program := "ytikmmeohmkjbeaa", sum := "54f4e401db0ae011f774db8924f0da0264c360c8edeee7412e9594b53219b968", func := "loop.example/g01398/laws.FnExactUnevenOf", spec := "fnExactUnevenOf", inPlace := ["internal/bytealg.IndexByteString", "internal/bytealg.IndexString"], unfollowed := true, recurses := true, named := ["internal/bytealg.MaxLen"], apart := false }
def FnExactUnevenOfSaid : Prop := fnExactUnevenOfRow.holds Try.pinned (OpenSpec.ofChange fnExactUnevenOfSpec)

/-- ITS FALSE NEIGHBOUR: 'it returns false'. Refute it at one input. -/
def fnExactUnevenOfWrong : ChangeSpec := { name := "fnExactUnevenOf", fn := fun _ => fun
  | [d1, d2, d3, d4] => { results := [.lit (.bool false)], args := [d1, d2, d3, d4] }
  | _ => none }
def FnExactUnevenOfWrongFalsely : Prop := fnExactUnevenOfRow.holds Try.pinned (OpenSpec.ofChange fnExactUnevenOfWrong)

/-- 'laws.FnExactLinesOf': WHATEVER THE INPUT: true; the input reads as it did. -/
def fnExactLinesOfSpec : ChangeSpec := { name := "fnExactLinesOf", fn := fun _ => fun
  | [d1, d2] => { results := [.lit (.bool true)], args := [d1, d2] }
  | _ => none }
def fnExactLinesOfRow : OpenClaim := { program := "ytikmmeohmkjbeaa", sum := "54f4e401db0ae011f774db8924f0da0264c360c8edeee7412e9594b53219b968", func := "loop.example/g01398/laws.FnExactLinesOf", spec := "fnExactLinesOf", inPlace := ["internal/bytealg.IndexByteString", "internal/bytealg.IndexString", "internal/abi.NoEscape", "internal/bytealg.MakeNoZero"], unfollowed := true, recurses := true, named := ["internal/bytealg.MaxLen"], apart := false }
def FnExactLinesOfSaid : Prop := fnExactLinesOfRow.holds Try.pinned (OpenSpec.ofChange fnExactLinesOfSpec)

/-- ITS FALSE NEIGHBOUR: 'it returns false'. Refute it at one input. -/
def fnExactLinesOfWrong : ChangeSpec := { name := "fnExactLinesOf", fn := fun _ => fun
  | [d1, d2] => { results := [.lit (.bool false)], args := [d1, d2] }
  | _ => none }
def FnExactLinesOfWrongFalsely : Prop := fnExactLinesOfRow.holds Try.pinned (OpenSpec.ofChange fnExactLinesOfWrong)

/-- 'laws.FnExactCountBreaks': WHATEVER THE INPUT: true; the input reads as it did. -/
def fnExactCountBreaksSpec : ChangeSpec := { name := "fnExactCountBreaks", fn := fun _ => fun
  | [d1, d2, d3] => { results := [.lit (.bool true)], args := [d1, d2, d3] }
  | _ => none }
def fnExactCountBreaksRow : OpenClaim := { program := "ytikmmeohmkjbeaa", sum := "54f4e401db0ae011f774db8924f0da0264c360c8edeee7412e9594b53219b968", func := "loop.example/g01398/laws.FnExactCountBreaks", spec := "fnExactCountBreaks", inPlace := ["internal/bytealg.IndexByteString", "internal/bytealg.IndexString"], unfollowed := true, recurses := true, named := ["internal/bytealg.MaxLen"], apart := false }
def FnExactCountBreaksSaid : Prop := fnExactCountBreaksRow.holds Try.pinned (OpenSpec.ofChange fnExactCountBreaksSpec)

/-- ITS FALSE NEIGHBOUR: 'it returns false'. Refute it at one input. -/
def fnExactCountBreaksWrong : ChangeSpec := { name := "fnExactCountBreaks", fn := fun _ => fun
  | [d1, d2, d3] => { results := [.lit (.bool false)], args := [d1, d2, d3] }
  | _ => none }
def FnExactCountBreaksWrongFalsely : Prop := fnExactCountBreaksRow.holds Try.pinned (OpenSpec.ofChange fnExactCountBreaksWrong)

/-- 'laws.FnExactBestBreaks': WHATEVER THE INPUT: true; the input reads as it did. -/
def fnExactBestBreaksSpec : ChangeSpec := { name := "fnExactBestBreaks", fn := fun _ => fun
  | [d1, d2, d3] => { results := [.lit (.bool true)], args := [d1, d2, d3] }
  | _ => none }
def fnExactBestBreaksRow : OpenClaim := { program := "ytikmmeohmkjbeaa", sum := "54f4e401db0ae011f774db8924f0da0264c360c8edeee7412e9594b53219b968", func := "loop.example/g01398/laws.FnExactBestBreaks", spec := "fnExactBestBreaks", inPlace := ["internal/bytealg.IndexByteString", "internal/bytealg.IndexString"], unfollowed := true, recurses := true, named := ["internal/bytealg.MaxLen"], apart := false }
def FnExactBestBreaksSaid : Prop := fnExactBestBreaksRow.holds Try.pinned (OpenSpec.ofChange fnExactBestBreaksSpec)

/-- ITS FALSE NEIGHBOUR: 'it returns false'. Refute it at one input. -/
def fnExactBestBreaksWrong : ChangeSpec := { name := "fnExactBestBreaks", fn := fun _ => fun
  | [d1, d2, d3] => { results := [.lit (.bool false)], args := [d1, d2, d3] }
  | _ => none }
def FnExactBestBreaksWrongFalsely : Prop := fnExactBestBreaksRow.holds Try.pinned (OpenSpec.ofChange fnExactBestBreaksWrong)

/-- 'laws.FnExactLeastWide': WHATEVER THE INPUT: true; the input reads as it did. -/
def fnExactLeastWideSpec : ChangeSpec := { name := "fnExactLeastWide", fn := fun _ => fun
  | [d1, d2, d3] => { results := [.lit (.bool true)], args := [d1, d2, d3] }
  | _ => none }
def fnExactLeastWideRow : OpenClaim := { program := "ytikmmeohmkjbeaa", sum := "54f4e401db0ae011f774db8924f0da0264c360c8edeee7412e9594b53219b968", func := "loop.example/g01398/laws.FnExactLeastWide", spec := "fnExactLeastWide", inPlace := ["internal/bytealg.IndexByteString", "internal/bytealg.IndexString"], unfollowed := true, recurses := true, named := ["internal/bytealg.MaxLen"], apart := false }
def FnExactLeastWideSaid : Prop := fnExactLeastWideRow.holds Try.pinned (OpenSpec.ofChange fnExactLeastWideSpec)

/-- ITS FALSE NEIGHBOUR: 'it returns false'. Refute it at one input. -/
def fnExactLeastWideWrong : ChangeSpec := { name := "fnExactLeastWide", fn := fun _ => fun
  | [d1, d2, d3] => { results := [.lit (.bool false)], args := [d1, d2, d3] }
  | _ => none }
def FnExactLeastWideWrongFalsely : Prop := fnExactLeastWideRow.holds Try.pinned (OpenSpec.ofChange fnExactLeastWideWrong)

/-- 'laws.FnExactValidShorts': WHATEVER THE INPUT: true; the input reads as it did. -/
def fnExactValidShortsSpec : ChangeSpec := { name := "fnExactValidShorts", fn := fun _ => fun
  | [d] => { results := [.lit (.bool true)], args := [d] }
  | _ => none }
def fnExactValidShortsRow : OpenClaim := { program := "ytikmmeohmkjbeaa", sum := "54f4e401db0ae011f774db8924f0da0264c360c8edeee7412e9594b53219b968", func := "loop.example/g01398/laws.FnExactValidShorts", spec := "fnExactValidShorts", inPlace := ["internal/bytealg.IndexByteString", "internal/bytealg.IndexString"], unfollowed := true, recurses := true, named := ["internal/bytealg.MaxLen"], apart := false }
def FnExactValidShortsSaid : Prop := fnExactValidShortsRow.holds Try.pinned (OpenSpec.ofChange fnExactValidShortsSpec)

/-- ITS FALSE NEIGHBOUR: 'it returns false'. Refute it at one input. -/
def fnExactValidShortsWrong : ChangeSpec := { name := "fnExactValidShorts", fn := fun _ => fun
  | [d] => { results := [.lit (.bool false)], args := [d] }
  | _ => none }
def FnExactValidShortsWrongFalsely : Prop := fnExactValidShortsRow.holds Try.pinned (OpenSpec.ofChange fnExactValidShortsWrong)

/-- 'laws.FnExactShortenAt': WHATEVER THE INPUT: true; the input reads as it did. -/
def fnExactShortenAtSpec : ChangeSpec := { name := "fnExactShortenAt", fn := fun _ => fun
  | [d1, d2, d3] => { results := [.lit (.bool true)], args := [d1, d2, d3] }
  | _ => none }
def fnExactShortenAtRow : OpenClaim := { program := "ytikmmeohmkjbeaa", sum := "54f4e401db0ae011f774db8924f0da0264c360c8edeee7412e9594b53219b968", func := "loop.example/g01398/laws.FnExactShortenAt", spec := "fnExactShortenAt", inPlace := ["internal/bytealg.IndexByteString", "internal/bytealg.IndexString", "internal/abi.NoEscape", "internal/bytealg.MakeNoZero"], unfollowed := true, recurses := true, named := ["internal/bytealg.MaxLen"], apart := false }
def FnExactShortenAtSaid : Prop := fnExactShortenAtRow.holds Try.pinned (OpenSpec.ofChange fnExactShortenAtSpec)

/-- ITS FALSE NEIGHBOUR: 'it returns false'. Refute it at one input. -/
def fnExactShortenAtWrong : ChangeSpec := { name := "fnExactShortenAt", fn := fun _ => fun
  | [d1, d2, d3] => { results := [.lit (.bool false)], args := [d1, d2, d3] }
  | _ => none }
def FnExactShortenAtWrongFalsely : Prop := fnExactShortenAtRow.holds Try.pinned (OpenSpec.ofChange fnExactShortenAtWrong)

/-- 'laws.FnExactShortenAll': WHATEVER THE INPUT: true; the input reads as it did. -/
def fnExactShortenAllSpec : ChangeSpec := { name := "fnExactShortenAll", fn := fun _ => fun
  | [d1, d2] => { results := [.lit (.bool true)], args := [d1, d2] }
  | _ => none }
def fnExactShortenAllRow : OpenClaim := { program := "ytikmmeohmkjbeaa", sum := "54f4e401db0ae011f774db8924f0da0264c360c8edeee7412e9594b53219b968", func := "loop.example/g01398/laws.FnExactShortenAll", spec := "fnExactShortenAll", inPlace := ["internal/bytealg.IndexByteString", "internal/bytealg.IndexString", "internal/abi.NoEscape", "internal/bytealg.MakeNoZero"], unfollowed := true, recurses := true, named := ["internal/bytealg.MaxLen"], apart := false }
def FnExactShortenAllSaid : Prop := fnExactShortenAllRow.holds Try.pinned (OpenSpec.ofChange fnExactShortenAllSpec)

/-- ITS FALSE NEIGHBOUR: 'it returns false'. Refute it at one input. -/
def fnExactShortenAllWrong : ChangeSpec := { name := "fnExactShortenAll", fn := fun _ => fun
  | [d1, d2] => { results := [.lit (.bool false)], args := [d1, d2] }
  | _ => none }
def FnExactShortenAllWrongFalsely : Prop := fnExactShortenAllRow.holds Try.pinned (OpenSpec.ofChange fnExactShortenAllWrong)

/-- 'laws.FnExactLengthenAll': WHATEVER THE INPUT: true; the input reads as it did. -/
def fnExactLengthenAllSpec : ChangeSpec := { name := "fnExactLengthenAll", fn := fun _ => fun
  | [d1, d2] => { results := [.lit (.bool true)], args := [d1, d2] }
  | _ => none }
def fnExactLengthenAllRow : OpenClaim := { program := "ytikmmeohmkjbeaa", sum := "54f4e401db0ae011f774db8924f0da0264c360c8edeee7412e9594b53219b968", func := "loop.example/g01398/laws.FnExactLengthenAll", spec := "fnExactLengthenAll", inPlace := ["internal/bytealg.IndexByteString", "internal/bytealg.IndexString"], unfollowed := true, recurses := true, named := ["internal/bytealg.MaxLen"], apart := false }
def FnExactLengthenAllSaid : Prop := fnExactLengthenAllRow.holds Try.pinned (OpenSpec.ofChange fnExactLengthenAllSpec)

/-- ITS FALSE NEIGHBOUR: 'it returns false'. Refute it at one input. -/
def fnExactLengthenAllWrong : ChangeSpec := { name := "fnExactLengthenAll", fn := fun _ => fun
  | [d1, d2] => { results := [.lit (.bool false)], args := [d1, d2] }
  | _ => none }
def FnExactLengthenAllWrongFalsely : Prop := fnExactLengthenAllRow.holds Try.pinned (OpenSpec.ofChange fnExactLengthenAllWrong)

/-- 'laws.FnExactShortsText': WHATEVER THE INPUT: true; the input reads as it did. -/
def fnExactShortsTextSpec : ChangeSpec := { name := "fnExactShortsText", fn := fun _ => fun
  | [d] => { results := [.lit (.bool true)], args := [d] }
  | _ => none }
def fnExactShortsTextRow : OpenClaim := { program := "ytikmmeohmkjbeaa", sum := "54f4e401db0ae011f774db8924f0da0264c360c8edeee7412e9594b53219b968", func := "loop.example/g01398/laws.FnExactShortsText", spec := "fnExactShortsText", inPlace := ["internal/bytealg.IndexByteString", "internal/bytealg.IndexString", "internal/abi.NoEscape", "internal/bytealg.MakeNoZero"], unfollowed := true, recurses := true, named := ["internal/bytealg.MaxLen"], apart := false }
def FnExactShortsTextSaid : Prop := fnExactShortsTextRow.holds Try.pinned (OpenSpec.ofChange fnExactShortsTextSpec)

/-- ITS FALSE NEIGHBOUR: 'it returns false'. Refute it at one input. -/
def fnExactShortsTextWrong : ChangeSpec := { name := "fnExactShortsText", fn := fun _ => fun
  | [d] => { results := [.lit (.bool false)], args := [d] }
  | _ => none }
def FnExactShortsTextWrongFalsely : Prop := fnExactShortsTextRow.holds Try.pinned (OpenSpec.ofChange fnExactShortsTextWrong)

/-- 'laws.FnExactPlacesOf': WHATEVER THE INPUT: true; the input reads as it did. -/
def fnExactPlacesOfSpec : ChangeSpec := { name := "fnExactPlacesOf", fn := fun _ => fun
  | [d1, d2] => { results := [.lit (.bool true)], args := [d1, d2] }
  | _ => none }
def fnExactPlacesOfRow : OpenClaim := { program := "ytikmmeohmkjbeaa", sum := "54f4e401db0ae011f774db8924f0da0264c360c8edeee7412e9594b53219b968", func := "loop.example/g01398/laws.FnExactPlacesOf", spec := "fnExactPlacesOf", inPlace := ["internal/bytealg.IndexByteString", "internal/bytealg.IndexString"], unfollowed := true, recurses := true, named := ["internal/bytealg.MaxLen"], apart := false }
def FnExactPlacesOfSaid : Prop := fnExactPlacesOfRow.holds Try.pinned (OpenSpec.ofChange fnExactPlacesOfSpec)

/-- ITS FALSE NEIGHBOUR: 'it returns false'. Refute it at one input. -/
def fnExactPlacesOfWrong : ChangeSpec := { name := "fnExactPlacesOf", fn := fun _ => fun
  | [d1, d2] => { results := [.lit (.bool false)], args := [d1, d2] }
  | _ => none }
def FnExactPlacesOfWrongFalsely : Prop := fnExactPlacesOfRow.holds Try.pinned (OpenSpec.ofChange fnExactPlacesOfWrong)

/-- 'laws.FnExactWithPair': WHATEVER THE INPUT: true; the input reads as it did. -/
def fnExactWithPairSpec : ChangeSpec := { name := "fnExactWithPair", fn := fun _ => fun
  | [d1, d2] => { results := [.lit (.bool true)], args := [d1, d2] }
  | _ => none }
def fnExactWithPairRow : OpenClaim := { program := "ytikmmeohmkjbeaa", sum := "54f4e401db0ae011f774db8924f0da0264c360c8edeee7412e9594b53219b968", func := "loop.example/g01398/laws.FnExactWithPair", spec := "fnExactWithPair", unfollowed := true, recurses := true, apart := false }
def FnExactWithPairSaid : Prop := fnExactWithPairRow.holds Try.pinned (OpenSpec.ofChange fnExactWithPairSpec)

/-- ITS FALSE NEIGHBOUR: 'it returns false'. Refute it at one input. -/
def fnExactWithPairWrong : ChangeSpec := { name := "fnExactWithPair", fn := fun _ => fun
  | [d1, d2] => { results := [.lit (.bool false)], args := [d1, d2] }
  | _ => none }
def FnExactWithPairWrongFalsely : Prop := fnExactWithPairRow.holds Try.pinned (OpenSpec.ofChange fnExactWithPairWrong)

/- THE SECOND FORM. 'bulk': how many values and letters a reading holds, each counted each time it is reached (what is shared counts as often as it is met; a slice's spare places count too). A statement '..UptoSaid' is the law's where the arguments, and the package variables that the reading takes, are together of bulk at most 1048576: NARROWER than '..Said'. Prove '..Said' where nothing that the law and all that it calls make is longer than what came in: it says more and counts as full. Else prove '..UptoSaid'. A law counts once. -/
mutual
def uptoBulk {H : Type} : DataW H → Nat
  | .lit (.string bytes) => bytes.length + 1
  | .lit _ => 1
  | .nil => 1
  | .ptr d => uptoBulk d + 1
  | .slice elems spare => uptoBulkAll elems + uptoBulkAll spare + 1
  | .agg parts => uptoBulkAll parts + 1
  | .iface _ d => uptoBulk d + 1
  | .map entries => uptoBulkEntries entries + 1
  | .held _ => 1
def uptoBulkAll {H : Type} : List (DataW H) → Nat
  | [] => 0
  | d :: r => uptoBulk d + uptoBulkAll r
def uptoBulkEntries {H : Type} : List (Lit × DataW H) → Nat
  | [] => 0
  | x :: r => uptoBulkEntry x + uptoBulkEntries r
def uptoBulkEntry {H : Type} : Lit × DataW H → Nat
  | (.string bytes, d) => bytes.length + uptoBulk d + 1
  | (_, d) => uptoBulk d + 1
 end
def uptoSmall : (H : Type) → List (DataW H) → Bool := fun _ ds => decide (uptoBulkAll ds ≤ 1048576)
def OpenSpec.upto (s : _root_.Go.ChangeSpec) : _root_.Go.OpenSpec := { _root_.Go.OpenSpec.ofChange s with cond := some uptoSmall }

/-- 'laws.FnExactCheckBreaks', WHERE WHAT IT READS IS OF BULK AT MOST 1048576: true; the input reads as it did. -/
def fnExactCheckBreaksUptoRow : OpenClaim := { program := "ytikmmeohmkjbeaa", sum := "54f4e401db0ae011f774db8924f0da0264c360c8edeee7412e9594b53219b968", func := "loop.example/g01398/laws.FnExactCheckBreaks", spec := "fnExactCheckBreaks", inPlace := ["internal/bytealg.IndexByteString", "internal/bytealg.IndexString"], unfollowed := true, recurses := true, named := ["internal/bytealg.MaxLen"], apart := false, narrowed := true }
def FnExactCheckBreaksUptoSaid : Prop := fnExactCheckBreaksUptoRow.holds Try.pinned (OpenSpec.upto fnExactCheckBreaksSpec)

/-- 'laws.FnExactRightRoom', WHERE WHAT IT READS IS OF BULK AT MOST 1048576: true; the input reads as it did. -/
def fnExactRightRoomUptoRow : OpenClaim := { program := "ytikmmeohmkjbeaa", sum := "54f4e401db0ae011f774db8924f0da0264c360c8edeee7412e9594b53219b968", func := "loop.example/g01398/laws.FnExactRightRoom", spec := "fnExactRightRoom", inPlace := ["internal/bytealg.IndexByteString", "internal/bytealg.IndexString"], unfollowed := true, recurses := true, named := ["internal/bytealg.MaxLen"], apart := false, narrowed := true }
def FnExactRightRoomUptoSaid : Prop := fnExactRightRoomUptoRow.holds Try.pinned (OpenSpec.upto fnExactRightRoomSpec)

/-- 'laws.FnExactUnevenOf', WHERE WHAT IT READS IS OF BULK AT MOST 1048576: true; the input reads as it did. -/
def fnExactUnevenOfUptoRow : OpenClaim := { program := "ytikmmeohmkjbeaa", sum := "54f4e401db0ae011f774db8924f0da0264c360c8edeee7412e9594b53219b968", func := "loop.example/g01398/laws.FnExactUnevenOf", spec := "fnExactUnevenOf", inPlace := ["internal/bytealg.IndexByteString", "internal/bytealg.IndexString"], unfollowed := true, recurses := true, named := ["internal/bytealg.MaxLen"], apart := false, narrowed := true }
def FnExactUnevenOfUptoSaid : Prop := fnExactUnevenOfUptoRow.holds Try.pinned (OpenSpec.upto fnExactUnevenOfSpec)

/-- 'laws.FnExactLinesOf', WHERE WHAT IT READS IS OF BULK AT MOST 1048576: true; the input reads as it did. -/
def fnExactLinesOfUptoRow : OpenClaim := { program := "ytikmmeohmkjbeaa", sum := "54f4e401db0ae011f774db8924f0da0264c360c8edeee7412e9594b53219b968", func := "loop.example/g01398/laws.FnExactLinesOf", spec := "fnExactLinesOf", inPlace := ["internal/bytealg.IndexByteString", "internal/bytealg.IndexString", "internal/abi.NoEscape", "internal/bytealg.MakeNoZero"], unfollowed := true, recurses := true, named := ["internal/bytealg.MaxLen"], apart := false, narrowed := true }
def FnExactLinesOfUptoSaid : Prop := fnExactLinesOfUptoRow.holds Try.pinned (OpenSpec.upto fnExactLinesOfSpec)

/-- 'laws.FnExactCountBreaks', WHERE WHAT IT READS IS OF BULK AT MOST 1048576: true; the input reads as it did. -/
def fnExactCountBreaksUptoRow : OpenClaim := { program := "ytikmmeohmkjbeaa", sum := "54f4e401db0ae011f774db8924f0da0264c360c8edeee7412e9594b53219b968", func := "loop.example/g01398/laws.FnExactCountBreaks", spec := "fnExactCountBreaks", inPlace := ["internal/bytealg.IndexByteString", "internal/bytealg.IndexString"], unfollowed := true, recurses := true, named := ["internal/bytealg.MaxLen"], apart := false, narrowed := true }
def FnExactCountBreaksUptoSaid : Prop := fnExactCountBreaksUptoRow.holds Try.pinned (OpenSpec.upto fnExactCountBreaksSpec)

/-- 'laws.FnExactBestBreaks', WHERE WHAT IT READS IS OF BULK AT MOST 1048576: true; the input reads as it did. -/
def fnExactBestBreaksUptoRow : OpenClaim := { program := "ytikmmeohmkjbeaa", sum := "54f4e401db0ae011f774db8924f0da0264c360c8edeee7412e9594b53219b968", func := "loop.example/g01398/laws.FnExactBestBreaks", spec := "fnExactBestBreaks", inPlace := ["internal/bytealg.IndexByteString", "internal/bytealg.IndexString"], unfollowed := true, recurses := true, named := ["internal/bytealg.MaxLen"], apart := false, narrowed := true }
def FnExactBestBreaksUptoSaid : Prop := fnExactBestBreaksUptoRow.holds Try.pinned (OpenSpec.upto fnExactBestBreaksSpec)

/-- 'laws.FnExactLeastWide', WHERE WHAT IT READS IS OF BULK AT MOST 1048576: true; the input reads as it did. -/
def fnExactLeastWideUptoRow : OpenClaim := { program := "ytikmmeohmkjbeaa", sum := "54f4e401db0ae011f774db8924f0da0264c360c8edeee7412e9594b53219b968", func := "loop.example/g01398/laws.FnExactLeastWide", spec := "fnExactLeastWide", inPlace := ["internal/bytealg.IndexByteString", "internal/bytealg.IndexString"], unfollowed := true, recurses := true, named := ["internal/bytealg.MaxLen"], apart := false, narrowed := true }
def FnExactLeastWideUptoSaid : Prop := fnExactLeastWideUptoRow.holds Try.pinned (OpenSpec.upto fnExactLeastWideSpec)

/-- 'laws.FnExactValidShorts', WHERE WHAT IT READS IS OF BULK AT MOST 1048576: true; the input reads as it did. -/
def fnExactValidShortsUptoRow : OpenClaim := { program := "ytikmmeohmkjbeaa", sum := "54f4e401db0ae011f774db8924f0da0264c360c8edeee7412e9594b53219b968", func := "loop.example/g01398/laws.FnExactValidShorts", spec := "fnExactValidShorts", inPlace := ["internal/bytealg.IndexByteString", "internal/bytealg.IndexString"], unfollowed := true, recurses := true, named := ["internal/bytealg.MaxLen"], apart := false, narrowed := true }
def FnExactValidShortsUptoSaid : Prop := fnExactValidShortsUptoRow.holds Try.pinned (OpenSpec.upto fnExactValidShortsSpec)

/-- 'laws.FnExactShortenAt', WHERE WHAT IT READS IS OF BULK AT MOST 1048576: true; the input reads as it did. -/
def fnExactShortenAtUptoRow : OpenClaim := { program := "ytikmmeohmkjbeaa", sum := "54f4e401db0ae011f774db8924f0da0264c360c8edeee7412e9594b53219b968", func := "loop.example/g01398/laws.FnExactShortenAt", spec := "fnExactShortenAt", inPlace := ["internal/bytealg.IndexByteString", "internal/bytealg.IndexString", "internal/abi.NoEscape", "internal/bytealg.MakeNoZero"], unfollowed := true, recurses := true, named := ["internal/bytealg.MaxLen"], apart := false, narrowed := true }
def FnExactShortenAtUptoSaid : Prop := fnExactShortenAtUptoRow.holds Try.pinned (OpenSpec.upto fnExactShortenAtSpec)

/-- 'laws.FnExactShortenAll', WHERE WHAT IT READS IS OF BULK AT MOST 1048576: true; the input reads as it did. -/
def fnExactShortenAllUptoRow : OpenClaim := { program := "ytikmmeohmkjbeaa", sum := "54f4e401db0ae011f774db8924f0da0264c360c8edeee7412e9594b53219b968", func := "loop.example/g01398/laws.FnExactShortenAll", spec := "fnExactShortenAll", inPlace := ["internal/bytealg.IndexByteString", "internal/bytealg.IndexString", "internal/abi.NoEscape", "internal/bytealg.MakeNoZero"], unfollowed := true, recurses := true, named := ["internal/bytealg.MaxLen"], apart := false, narrowed := true }
def FnExactShortenAllUptoSaid : Prop := fnExactShortenAllUptoRow.holds Try.pinned (OpenSpec.upto fnExactShortenAllSpec)

/-- 'laws.FnExactLengthenAll', WHERE WHAT IT READS IS OF BULK AT MOST 1048576: true; the input reads as it did. -/
def fnExactLengthenAllUptoRow : OpenClaim := { program := "ytikmmeohmkjbeaa", sum := "54f4e401db0ae011f774db8924f0da0264c360c8edeee7412e9594b53219b968", func := "loop.example/g01398/laws.FnExactLengthenAll", spec := "fnExactLengthenAll", inPlace := ["internal/bytealg.IndexByteString", "internal/bytealg.IndexString"], unfollowed := true, recurses := true, named := ["internal/bytealg.MaxLen"], apart := false, narrowed := true }
def FnExactLengthenAllUptoSaid : Prop := fnExactLengthenAllUptoRow.holds Try.pinned (OpenSpec.upto fnExactLengthenAllSpec)

/-- 'laws.FnExactShortsText', WHERE WHAT IT READS IS OF BULK AT MOST 1048576: true; the input reads as it did. -/
def fnExactShortsTextUptoRow : OpenClaim := { program := "ytikmmeohmkjbeaa", sum := "54f4e401db0ae011f774db8924f0da0264c360c8edeee7412e9594b53219b968", func := "loop.example/g01398/laws.FnExactShortsText", spec := "fnExactShortsText", inPlace := ["internal/bytealg.IndexByteString", "internal/bytealg.IndexString", "internal/abi.NoEscape", "internal/bytealg.MakeNoZero"], unfollowed := true, recurses := true, named := ["internal/bytealg.MaxLen"], apart := false, narrowed := true }
def FnExactShortsTextUptoSaid : Prop := fnExactShortsTextUptoRow.holds Try.pinned (OpenSpec.upto fnExactShortsTextSpec)

/-- 'laws.FnExactPlacesOf', WHERE WHAT IT READS IS OF BULK AT MOST 1048576: true; the input reads as it did. -/
def fnExactPlacesOfUptoRow : OpenClaim := { program := "ytikmmeohmkjbeaa", sum := "54f4e401db0ae011f774db8924f0da0264c360c8edeee7412e9594b53219b968", func := "loop.example/g01398/laws.FnExactPlacesOf", spec := "fnExactPlacesOf", inPlace := ["internal/bytealg.IndexByteString", "internal/bytealg.IndexString"], unfollowed := true, recurses := true, named := ["internal/bytealg.MaxLen"], apart := false, narrowed := true }
def FnExactPlacesOfUptoSaid : Prop := fnExactPlacesOfUptoRow.holds Try.pinned (OpenSpec.upto fnExactPlacesOfSpec)

/-- 'laws.FnExactWithPair', WHERE WHAT IT READS IS OF BULK AT MOST 1048576: true; the input reads as it did. -/
def fnExactWithPairUptoRow : OpenClaim := { program := "ytikmmeohmkjbeaa", sum := "54f4e401db0ae011f774db8924f0da0264c360c8edeee7412e9594b53219b968", func := "loop.example/g01398/laws.FnExactWithPair", spec := "fnExactWithPair", unfollowed := true, recurses := true, apart := false, narrowed := true }
def FnExactWithPairUptoSaid : Prop := fnExactWithPairUptoRow.holds Try.pinned (OpenSpec.upto fnExactWithPairSpec)

end Rows
end Go.Proofs.Ytikmmeohmkjbeaa
