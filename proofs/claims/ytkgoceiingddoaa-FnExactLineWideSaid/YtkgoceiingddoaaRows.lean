/-
  No cell of these rows narrows 'for every input' (looked for: loops, veiled, ifaces, maps, wideKeys, modest, calm, conditions, laid).
  DERIVED. THE GIVEN ROWS OF THIS SEAT. 16 by the template 'for every input the law returns true; each argument reads behind the call as it read before'; 0 by the template 'total and deterministic' (their statements: YtkgoceiingddoaaTotals.lean).
  GIVEN WITH THE SEED: the statements are not yours to turn. If you find one false, say at which input.
  Laid BY PROGRAM, IN A SANDBOX (cutbox-rows.mjs): the forced cells as the released guide's own fill.sh prints them over the translation d6cc16ccf48d3a92… (all of the seat's roots in one cut). By AI agents, Wed Nov 11 2026. No macro, syntax, notation, axiom, sorry.
-/
import Derived.Test.YtkgoceiingddoaaChecked
import GoSem.Claim
import GoSem.ClaimJoined
import GoSem.ClaimMapViews
import Derived.JoinedTies
import Derived.KernelRfl
namespace Go.Proofs.Ytkgoceiingddoaa
/- THE CELL 'sum', in the pinned program and in every row, IS THE sha256 OF THE DUMP (.gsa) THAT YtkgoceiingddoaaProg.lean LOADS. Nothing in Lean hashes anything: it is a label: what it is worth is what the hold of that sum in a sandbox is worth. -/
noncomputable def Try.pinned : Pinned := { name := "ytkgoceiingddoaa", sum := "d6cc16ccf48d3a9267b662ad36e111971bed3691b2c0a49efc5ba0e97ade33e7", checked := Try.checked }
namespace Rows
def none {H : Type} : Left H := { results := [], args := [] }

/-- 'laws.FnExactCodeName': WHATEVER THE INPUT: true; the input reads as it did. -/
def fnExactCodeNameSpec : ChangeSpec := { name := "fnExactCodeName", fn := fun _ => fun
  | [d] => { results := [.lit (.bool true)], args := [d] }
  | _ => none }
def fnExactCodeNameRow : OpenClaim := { program := "ytkgoceiingddoaa", sum := "d6cc16ccf48d3a9267b662ad36e111971bed3691b2c0a49efc5ba0e97ade33e7", func := "loop.example/g01398/laws.FnExactCodeName", spec := "fnExactCodeName", apart := false }
def FnExactCodeNameSaid : Prop := fnExactCodeNameRow.holds Try.pinned (OpenSpec.ofChange fnExactCodeNameSpec)

/-- ITS FALSE NEIGHBOUR: 'it returns false'. Refute it at one input. -/
def fnExactCodeNameWrong : ChangeSpec := { name := "fnExactCodeName", fn := fun _ => fun
  | [d] => { results := [.lit (.bool false)], args := [d] }
  | _ => none }
def FnExactCodeNameWrongFalsely : Prop := fnExactCodeNameRow.holds Try.pinned (OpenSpec.ofChange fnExactCodeNameWrong)

/-- 'laws.FnExactValidFace': WHATEVER THE INPUT: true; the input reads as it did. -/
def fnExactValidFaceSpec : ChangeSpec := { name := "fnExactValidFace", fn := fun _ => fun
  | [d] => { results := [.lit (.bool true)], args := [d] }
  | _ => none }
def fnExactValidFaceRow : OpenClaim := { program := "ytkgoceiingddoaa", sum := "d6cc16ccf48d3a9267b662ad36e111971bed3691b2c0a49efc5ba0e97ade33e7", func := "loop.example/g01398/laws.FnExactValidFace", spec := "fnExactValidFace", apart := false }
def FnExactValidFaceSaid : Prop := fnExactValidFaceRow.holds Try.pinned (OpenSpec.ofChange fnExactValidFaceSpec)

/-- ITS FALSE NEIGHBOUR: 'it returns false'. Refute it at one input. -/
def fnExactValidFaceWrong : ChangeSpec := { name := "fnExactValidFace", fn := fun _ => fun
  | [d] => { results := [.lit (.bool false)], args := [d] }
  | _ => none }
def FnExactValidFaceWrongFalsely : Prop := fnExactValidFaceRow.holds Try.pinned (OpenSpec.ofChange fnExactValidFaceWrong)

/-- 'laws.FnExactSameFace': WHATEVER THE INPUT: true; the input reads as it did. -/
def fnExactSameFaceSpec : ChangeSpec := { name := "fnExactSameFace", fn := fun _ => fun
  | [d1, d2] => { results := [.lit (.bool true)], args := [d1, d2] }
  | _ => none }
def fnExactSameFaceRow : OpenClaim := { program := "ytkgoceiingddoaa", sum := "d6cc16ccf48d3a9267b662ad36e111971bed3691b2c0a49efc5ba0e97ade33e7", func := "loop.example/g01398/laws.FnExactSameFace", spec := "fnExactSameFace", apart := false }
def FnExactSameFaceSaid : Prop := fnExactSameFaceRow.holds Try.pinned (OpenSpec.ofChange fnExactSameFaceSpec)

/-- ITS FALSE NEIGHBOUR: 'it returns false'. Refute it at one input. -/
def fnExactSameFaceWrong : ChangeSpec := { name := "fnExactSameFace", fn := fun _ => fun
  | [d1, d2] => { results := [.lit (.bool false)], args := [d1, d2] }
  | _ => none }
def FnExactSameFaceWrongFalsely : Prop := fnExactSameFaceRow.holds Try.pinned (OpenSpec.ofChange fnExactSameFaceWrong)

/-- 'laws.FnExactValidText': WHATEVER THE INPUT: true; the input reads as it did. -/
def fnExactValidTextSpec : ChangeSpec := { name := "fnExactValidText", fn := fun _ => fun
  | [d] => { results := [.lit (.bool true)], args := [d] }
  | _ => none }
def fnExactValidTextRow : OpenClaim := { program := "ytkgoceiingddoaa", sum := "d6cc16ccf48d3a9267b662ad36e111971bed3691b2c0a49efc5ba0e97ade33e7", func := "loop.example/g01398/laws.FnExactValidText", spec := "fnExactValidText", unfollowed := true, recurses := true, apart := false }
def FnExactValidTextSaid : Prop := fnExactValidTextRow.holds Try.pinned (OpenSpec.ofChange fnExactValidTextSpec)

/-- ITS FALSE NEIGHBOUR: 'it returns false'. Refute it at one input. -/
def fnExactValidTextWrong : ChangeSpec := { name := "fnExactValidText", fn := fun _ => fun
  | [d] => { results := [.lit (.bool false)], args := [d] }
  | _ => none }
def FnExactValidTextWrongFalsely : Prop := fnExactValidTextRow.holds Try.pinned (OpenSpec.ofChange fnExactValidTextWrong)

/-- 'laws.FnExactWordsOf': WHATEVER THE INPUT: true; the input reads as it did. -/
def fnExactWordsOfSpec : ChangeSpec := { name := "fnExactWordsOf", fn := fun _ => fun
  | [d] => { results := [.lit (.bool true)], args := [d] }
  | _ => none }
def fnExactWordsOfRow : OpenClaim := { program := "ytkgoceiingddoaa", sum := "d6cc16ccf48d3a9267b662ad36e111971bed3691b2c0a49efc5ba0e97ade33e7", func := "loop.example/g01398/laws.FnExactWordsOf", spec := "fnExactWordsOf", inPlace := ["internal/bytealg.IndexByteString", "internal/bytealg.IndexString"], unfollowed := true, recurses := true, named := ["internal/bytealg.MaxLen"], apart := false }
def FnExactWordsOfSaid : Prop := fnExactWordsOfRow.holds Try.pinned (OpenSpec.ofChange fnExactWordsOfSpec)

/-- ITS FALSE NEIGHBOUR: 'it returns false'. Refute it at one input. -/
def fnExactWordsOfWrong : ChangeSpec := { name := "fnExactWordsOf", fn := fun _ => fun
  | [d] => { results := [.lit (.bool false)], args := [d] }
  | _ => none }
def FnExactWordsOfWrongFalsely : Prop := fnExactWordsOfRow.holds Try.pinned (OpenSpec.ofChange fnExactWordsOfWrong)

/-- 'laws.FnExactJoinWords': WHATEVER THE INPUT: true; the input reads as it did. -/
def fnExactJoinWordsSpec : ChangeSpec := { name := "fnExactJoinWords", fn := fun _ => fun
  | [d] => { results := [.lit (.bool true)], args := [d] }
  | _ => none }
def fnExactJoinWordsRow : OpenClaim := { program := "ytkgoceiingddoaa", sum := "d6cc16ccf48d3a9267b662ad36e111971bed3691b2c0a49efc5ba0e97ade33e7", func := "loop.example/g01398/laws.FnExactJoinWords", spec := "fnExactJoinWords", inPlace := ["internal/bytealg.IndexByteString", "internal/bytealg.IndexString", "internal/abi.NoEscape", "internal/bytealg.MakeNoZero"], unfollowed := true, recurses := true, named := ["internal/bytealg.MaxLen"], apart := false }
def FnExactJoinWordsSaid : Prop := fnExactJoinWordsRow.holds Try.pinned (OpenSpec.ofChange fnExactJoinWordsSpec)

/-- ITS FALSE NEIGHBOUR: 'it returns false'. Refute it at one input. -/
def fnExactJoinWordsWrong : ChangeSpec := { name := "fnExactJoinWords", fn := fun _ => fun
  | [d] => { results := [.lit (.bool false)], args := [d] }
  | _ => none }
def FnExactJoinWordsWrongFalsely : Prop := fnExactJoinWordsRow.holds Try.pinned (OpenSpec.ofChange fnExactJoinWordsWrong)

/-- 'laws.FnExactPairBy': WHATEVER THE INPUT: true; the input reads as it did. -/
def fnExactPairBySpec : ChangeSpec := { name := "fnExactPairBy", fn := fun _ => fun
  | [d1, d2, d3] => { results := [.lit (.bool true)], args := [d1, d2, d3] }
  | _ => none }
def fnExactPairByRow : OpenClaim := { program := "ytkgoceiingddoaa", sum := "d6cc16ccf48d3a9267b662ad36e111971bed3691b2c0a49efc5ba0e97ade33e7", func := "loop.example/g01398/laws.FnExactPairBy", spec := "fnExactPairBy", unfollowed := true, recurses := true, apart := false }
def FnExactPairBySaid : Prop := fnExactPairByRow.holds Try.pinned (OpenSpec.ofChange fnExactPairBySpec)

/-- ITS FALSE NEIGHBOUR: 'it returns false'. Refute it at one input. -/
def fnExactPairByWrong : ChangeSpec := { name := "fnExactPairBy", fn := fun _ => fun
  | [d1, d2, d3] => { results := [.lit (.bool false)], args := [d1, d2, d3] }
  | _ => none }
def FnExactPairByWrongFalsely : Prop := fnExactPairByRow.holds Try.pinned (OpenSpec.ofChange fnExactPairByWrong)

/-- 'laws.FnExactWithPair': WHATEVER THE INPUT: true; the input reads as it did. -/
def fnExactWithPairSpec : ChangeSpec := { name := "fnExactWithPair", fn := fun _ => fun
  | [d1, d2] => { results := [.lit (.bool true)], args := [d1, d2] }
  | _ => none }
def fnExactWithPairRow : OpenClaim := { program := "ytkgoceiingddoaa", sum := "d6cc16ccf48d3a9267b662ad36e111971bed3691b2c0a49efc5ba0e97ade33e7", func := "loop.example/g01398/laws.FnExactWithPair", spec := "fnExactWithPair", unfollowed := true, recurses := true, apart := false }
def FnExactWithPairSaid : Prop := fnExactWithPairRow.holds Try.pinned (OpenSpec.ofChange fnExactWithPairSpec)

/-- ITS FALSE NEIGHBOUR: 'it returns false'. Refute it at one input. -/
def fnExactWithPairWrong : ChangeSpec := { name := "fnExactWithPair", fn := fun _ => fun
  | [d1, d2] => { results := [.lit (.bool false)], args := [d1, d2] }
  | _ => none }
def FnExactWithPairWrongFalsely : Prop := fnExactWithPairRow.holds Try.pinned (OpenSpec.ofChange fnExactWithPairWrong)

/-- 'laws.FnExactWordWide': WHATEVER THE INPUT: true; the input reads as it did. -/
def fnExactWordWideSpec : ChangeSpec := { name := "fnExactWordWide", fn := fun _ => fun
  | [d1, d2] => { results := [.lit (.bool true)], args := [d1, d2] }
  | _ => none }
def fnExactWordWideRow : OpenClaim := { program := "ytkgoceiingddoaa", sum := "d6cc16ccf48d3a9267b662ad36e111971bed3691b2c0a49efc5ba0e97ade33e7", func := "loop.example/g01398/laws.FnExactWordWide", spec := "fnExactWordWide", inPlace := ["internal/bytealg.IndexByteString", "internal/bytealg.IndexString"], unfollowed := true, recurses := true, named := ["internal/bytealg.MaxLen"], apart := false }
def FnExactWordWideSaid : Prop := fnExactWordWideRow.holds Try.pinned (OpenSpec.ofChange fnExactWordWideSpec)

/-- ITS FALSE NEIGHBOUR: 'it returns false'. Refute it at one input. -/
def fnExactWordWideWrong : ChangeSpec := { name := "fnExactWordWide", fn := fun _ => fun
  | [d1, d2] => { results := [.lit (.bool false)], args := [d1, d2] }
  | _ => none }
def FnExactWordWideWrongFalsely : Prop := fnExactWordWideRow.holds Try.pinned (OpenSpec.ofChange fnExactWordWideWrong)

/-- 'laws.FnExactLineWide': WHATEVER THE INPUT: true; the input reads as it did. -/
def fnExactLineWideSpec : ChangeSpec := { name := "fnExactLineWide", fn := fun _ => fun
  | [d1, d2] => { results := [.lit (.bool true)], args := [d1, d2] }
  | _ => none }
def fnExactLineWideRow : OpenClaim := { program := "ytkgoceiingddoaa", sum := "d6cc16ccf48d3a9267b662ad36e111971bed3691b2c0a49efc5ba0e97ade33e7", func := "loop.example/g01398/laws.FnExactLineWide", spec := "fnExactLineWide", inPlace := ["internal/bytealg.CountString", "internal/bytealg.IndexByteString", "internal/bytealg.IndexString"], unfollowed := true, recurses := true, named := ["internal/bytealg.MaxLen"], apart := false }
def FnExactLineWideSaid : Prop := fnExactLineWideRow.holds Try.pinned (OpenSpec.ofChange fnExactLineWideSpec)

/-- ITS FALSE NEIGHBOUR: 'it returns false'. Refute it at one input. -/
def fnExactLineWideWrong : ChangeSpec := { name := "fnExactLineWide", fn := fun _ => fun
  | [d1, d2] => { results := [.lit (.bool false)], args := [d1, d2] }
  | _ => none }
def FnExactLineWideWrongFalsely : Prop := fnExactLineWideRow.holds Try.pinned (OpenSpec.ofChange fnExactLineWideWrong)

/-- 'laws.FnExactPlacesOf': WHATEVER THE INPUT: true; the input reads as it did. -/
def fnExactPlacesOfSpec : ChangeSpec := { name := "fnExactPlacesOf", fn := fun _ => fun
  | [d1, d2] => { results := [.lit (.bool true)], args := [d1, d2] }
  | _ => none }
def fnExactPlacesOfRow : OpenClaim := { program := "ytkgoceiingddoaa", sum := "d6cc16ccf48d3a9267b662ad36e111971bed3691b2c0a49efc5ba0e97ade33e7", func := "loop.example/g01398/laws.FnExactPlacesOf", spec := "fnExactPlacesOf", inPlace := ["internal/bytealg.IndexByteString", "internal/bytealg.IndexString"], unfollowed := true, recurses := true, named := ["internal/bytealg.MaxLen"], apart := false }
def FnExactPlacesOfSaid : Prop := fnExactPlacesOfRow.holds Try.pinned (OpenSpec.ofChange fnExactPlacesOfSpec)

/-- ITS FALSE NEIGHBOUR: 'it returns false'. Refute it at one input. -/
def fnExactPlacesOfWrong : ChangeSpec := { name := "fnExactPlacesOf", fn := fun _ => fun
  | [d1, d2] => { results := [.lit (.bool false)], args := [d1, d2] }
  | _ => none }
def FnExactPlacesOfWrongFalsely : Prop := fnExactPlacesOfRow.holds Try.pinned (OpenSpec.ofChange fnExactPlacesOfWrong)

/-- 'laws.FnExactWidestWord': WHATEVER THE INPUT: true; the input reads as it did. -/
def fnExactWidestWordSpec : ChangeSpec := { name := "fnExactWidestWord", fn := fun _ => fun
  | [d1, d2] => { results := [.lit (.bool true)], args := [d1, d2] }
  | _ => none }
def fnExactWidestWordRow : OpenClaim := { program := "ytkgoceiingddoaa", sum := "d6cc16ccf48d3a9267b662ad36e111971bed3691b2c0a49efc5ba0e97ade33e7", func := "loop.example/g01398/laws.FnExactWidestWord", spec := "fnExactWidestWord", inPlace := ["internal/bytealg.IndexByteString", "internal/bytealg.IndexString"], unfollowed := true, recurses := true, named := ["internal/bytealg.MaxLen"], apart := false }
def FnExactWidestWordSaid : Prop := fnExactWidestWordRow.holds Try.pinned (OpenSpec.ofChange fnExactWidestWordSpec)

/-- ITS FALSE NEIGHBOUR: 'it returns false'. Refute it at one input. -/
def fnExactWidestWordWrong : ChangeSpec := { name := "fnExactWidestWord", fn := fun _ => fun
  | [d1, d2] => { results := [.lit (.bool false)], args := [d1, d2] }
  | _ => none }
def FnExactWidestWordWrongFalsely : Prop := fnExactWidestWordRow.holds Try.pinned (OpenSpec.ofChange fnExactWidestWordWrong)

/-- 'laws.FnExactCentreLine': WHATEVER THE INPUT: true; the input reads as it did. -/
def fnExactCentreLineSpec : ChangeSpec := { name := "fnExactCentreLine", fn := fun _ => fun
  | [d1, d2, d3] => { results := [.lit (.bool true)], args := [d1, d2, d3] }
  | _ => none }
def fnExactCentreLineRow : OpenClaim := { program := "ytkgoceiingddoaa", sum := "d6cc16ccf48d3a9267b662ad36e111971bed3691b2c0a49efc5ba0e97ade33e7", func := "loop.example/g01398/laws.FnExactCentreLine", spec := "fnExactCentreLine", inPlace := ["internal/bytealg.CountString", "internal/bytealg.IndexByteString", "internal/bytealg.IndexString"], unfollowed := true, recurses := true, named := ["internal/bytealg.MaxLen"], apart := false }
def FnExactCentreLineSaid : Prop := fnExactCentreLineRow.holds Try.pinned (OpenSpec.ofChange fnExactCentreLineSpec)

/-- ITS FALSE NEIGHBOUR: 'it returns false'. Refute it at one input. -/
def fnExactCentreLineWrong : ChangeSpec := { name := "fnExactCentreLine", fn := fun _ => fun
  | [d1, d2, d3] => { results := [.lit (.bool false)], args := [d1, d2, d3] }
  | _ => none }
def FnExactCentreLineWrongFalsely : Prop := fnExactCentreLineRow.holds Try.pinned (OpenSpec.ofChange fnExactCentreLineWrong)

/-- 'laws.FnExactJustifyLine': WHATEVER THE INPUT: true; the input reads as it did. -/
def fnExactJustifyLineSpec : ChangeSpec := { name := "fnExactJustifyLine", fn := fun _ => fun
  | [d1, d2, d3] => { results := [.lit (.bool true)], args := [d1, d2, d3] }
  | _ => none }
def fnExactJustifyLineRow : OpenClaim := { program := "ytkgoceiingddoaa", sum := "d6cc16ccf48d3a9267b662ad36e111971bed3691b2c0a49efc5ba0e97ade33e7", func := "loop.example/g01398/laws.FnExactJustifyLine", spec := "fnExactJustifyLine", inPlace := ["internal/bytealg.CountString", "internal/bytealg.IndexByteString", "internal/bytealg.IndexString"], unfollowed := true, recurses := true, named := ["internal/bytealg.MaxLen"], apart := false }
def FnExactJustifyLineSaid : Prop := fnExactJustifyLineRow.holds Try.pinned (OpenSpec.ofChange fnExactJustifyLineSpec)

/-- ITS FALSE NEIGHBOUR: 'it returns false'. Refute it at one input. -/
def fnExactJustifyLineWrong : ChangeSpec := { name := "fnExactJustifyLine", fn := fun _ => fun
  | [d1, d2, d3] => { results := [.lit (.bool false)], args := [d1, d2, d3] }
  | _ => none }
def FnExactJustifyLineWrongFalsely : Prop := fnExactJustifyLineRow.holds Try.pinned (OpenSpec.ofChange fnExactJustifyLineWrong)

/-- 'laws.FnExactLongestFit': WHATEVER THE INPUT: true; the input reads as it did. -/
def fnExactLongestFitSpec : ChangeSpec := { name := "fnExactLongestFit", fn := fun _ => fun
  | [d1, d2, d3] => { results := [.lit (.bool true)], args := [d1, d2, d3] }
  | _ => none }
def fnExactLongestFitRow : OpenClaim := { program := "ytkgoceiingddoaa", sum := "d6cc16ccf48d3a9267b662ad36e111971bed3691b2c0a49efc5ba0e97ade33e7", func := "loop.example/g01398/laws.FnExactLongestFit", spec := "fnExactLongestFit", inPlace := ["internal/bytealg.IndexByteString", "internal/bytealg.IndexString"], unfollowed := true, recurses := true, named := ["internal/bytealg.MaxLen"], apart := false }
def FnExactLongestFitSaid : Prop := fnExactLongestFitRow.holds Try.pinned (OpenSpec.ofChange fnExactLongestFitSpec)

/-- ITS FALSE NEIGHBOUR: 'it returns false'. Refute it at one input. -/
def fnExactLongestFitWrong : ChangeSpec := { name := "fnExactLongestFit", fn := fun _ => fun
  | [d1, d2, d3] => { results := [.lit (.bool false)], args := [d1, d2, d3] }
  | _ => none }
def FnExactLongestFitWrongFalsely : Prop := fnExactLongestFitRow.holds Try.pinned (OpenSpec.ofChange fnExactLongestFitWrong)

/-- 'laws.FnExactLoosenFace': WHATEVER THE INPUT: true; the input reads as it did. -/
def fnExactLoosenFaceSpec : ChangeSpec := { name := "fnExactLoosenFace", fn := fun _ => fun
  | [d1, d2] => { results := [.lit (.bool true)], args := [d1, d2] }
  | _ => none }
def fnExactLoosenFaceRow : OpenClaim := { program := "ytkgoceiingddoaa", sum := "d6cc16ccf48d3a9267b662ad36e111971bed3691b2c0a49efc5ba0e97ade33e7", func := "loop.example/g01398/laws.FnExactLoosenFace", spec := "fnExactLoosenFace", apart := false }
def FnExactLoosenFaceSaid : Prop := fnExactLoosenFaceRow.holds Try.pinned (OpenSpec.ofChange fnExactLoosenFaceSpec)

/-- ITS FALSE NEIGHBOUR: 'it returns false'. Refute it at one input. -/
def fnExactLoosenFaceWrong : ChangeSpec := { name := "fnExactLoosenFace", fn := fun _ => fun
  | [d1, d2] => { results := [.lit (.bool false)], args := [d1, d2] }
  | _ => none }
def FnExactLoosenFaceWrongFalsely : Prop := fnExactLoosenFaceRow.holds Try.pinned (OpenSpec.ofChange fnExactLoosenFaceWrong)

/- THE SECOND FORM. 'bulk': how many values and letters a reading holds, each counted each time it is reached (what is shared counts as often as it is met; a slice's spare places count too). A statement '..UptoSaid' is the law's where the arguments, and the package variables that the reading takes, are together of bulk at most 1048576: NARROWER than '..Said'. Prove '..Said' where nothing that the law and all that it calls make is longer than what came in: it says more and counts as full. Else prove '..UptoSaid'. A law counts once. -/
mutual
def uptoBulk {H : Type} : DataW H → Nat
  | .lit (.string bytes) => bytes.length + 1
  | .lit _ => 1
  | .nil => 1
  | .ptr d => uptoBulk d + 1
  | .slice elems spare => uptoBulkAll elems + uptoBulkAll spare + 1
  | .agg parts => uptoBulkAll parts + 1
  | .iface _ d => uptoBulk d + 1
  | .map entries => uptoBulkEntries entries + 1
  | .held _ => 1
def uptoBulkAll {H : Type} : List (DataW H) → Nat
  | [] => 0
  | d :: r => uptoBulk d + uptoBulkAll r
def uptoBulkEntries {H : Type} : List (Lit × DataW H) → Nat
  | [] => 0
  | x :: r => uptoBulkEntry x + uptoBulkEntries r
def uptoBulkEntry {H : Type} : Lit × DataW H → Nat
  | (.string bytes, d) => bytes.length + uptoBulk d + 1
  | (_, d) => uptoBulk d + 1
 end
def uptoSmall : (H : Type) → List (DataW H) → Bool := fun _ ds => decide (uptoBulkAll ds ≤ 1048576)
def OpenSpec.upto (s : _root_.Go.ChangeSpec) : _root_.Go.OpenSpec := { _root_.Go.OpenSpec.ofChange s with cond := some uptoSmall }

/-- 'laws.FnExactCodeName', WHERE WHAT IT READS IS OF BULK AT MOST 1048576: true; the input reads as it did. -/
def fnExactCodeNameUptoRow : OpenClaim := { program := "ytkgoceiingddoaa", sum := "d6cc16ccf48d3a9267b662ad36e111971bed3691b2c0a49efc5ba0e97ade33e7", func := "loop.example/g01398/laws.FnExactCodeName", spec := "fnExactCodeName", apart := false, narrowed := true }
def FnExactCodeNameUptoSaid : Prop := fnExactCodeNameUptoRow.holds Try.pinned (OpenSpec.upto fnExactCodeNameSpec)

/-- 'laws.FnExactValidFace', WHERE WHAT IT READS IS OF BULK AT MOST 1048576: true; the input reads as it did. -/
def fnExactValidFaceUptoRow : OpenClaim := { program := "ytkgoceiingddoaa", sum := "d6cc16ccf48d3a9267b662ad36e111971bed3691b2c0a49efc5ba0e97ade33e7", func := "loop.example/g01398/laws.FnExactValidFace", spec := "fnExactValidFace", apart := false, narrowed := true }
def FnExactValidFaceUptoSaid : Prop := fnExactValidFaceUptoRow.holds Try.pinned (OpenSpec.upto fnExactValidFaceSpec)

/-- 'laws.FnExactSameFace', WHERE WHAT IT READS IS OF BULK AT MOST 1048576: true; the input reads as it did. -/
def fnExactSameFaceUptoRow : OpenClaim := { program := "ytkgoceiingddoaa", sum := "d6cc16ccf48d3a9267b662ad36e111971bed3691b2c0a49efc5ba0e97ade33e7", func := "loop.example/g01398/laws.FnExactSameFace", spec := "fnExactSameFace", apart := false, narrowed := true }
def FnExactSameFaceUptoSaid : Prop := fnExactSameFaceUptoRow.holds Try.pinned (OpenSpec.upto fnExactSameFaceSpec)

/-- 'laws.FnExactValidText', WHERE WHAT IT READS IS OF BULK AT MOST 1048576: true; the input reads as it did. -/
def fnExactValidTextUptoRow : OpenClaim := { program := "ytkgoceiingddoaa", sum := "d6cc16ccf48d3a9267b662ad36e111971bed3691b2c0a49efc5ba0e97ade33e7", func := "loop.example/g01398/laws.FnExactValidText", spec := "fnExactValidText", unfollowed := true, recurses := true, apart := false, narrowed := true }
def FnExactValidTextUptoSaid : Prop := fnExactValidTextUptoRow.holds Try.pinned (OpenSpec.upto fnExactValidTextSpec)

/-- 'laws.FnExactWordsOf', WHERE WHAT IT READS IS OF BULK AT MOST 1048576: true; the input reads as it did. -/
def fnExactWordsOfUptoRow : OpenClaim := { program := "ytkgoceiingddoaa", sum := "d6cc16ccf48d3a9267b662ad36e111971bed3691b2c0a49efc5ba0e97ade33e7", func := "loop.example/g01398/laws.FnExactWordsOf", spec := "fnExactWordsOf", inPlace := ["internal/bytealg.IndexByteString", "internal/bytealg.IndexString"], unfollowed := true, recurses := true, named := ["internal/bytealg.MaxLen"], apart := false, narrowed := true }
def FnExactWordsOfUptoSaid : Prop := fnExactWordsOfUptoRow.holds Try.pinned (OpenSpec.upto fnExactWordsOfSpec)

/-- 'laws.FnExactJoinWords', WHERE WHAT IT READS IS OF BULK AT MOST 1048576: true; the input reads as it did. -/
def fnExactJoinWordsUptoRow : OpenClaim := { program := "ytkgoceiingddoaa", sum := "d6cc16ccf48d3a9267b662ad36e111971bed3691b2c0a49efc5ba0e97ade33e7", func := "loop.example/g01398/laws.FnExactJoinWords", spec := "fnExactJoinWords", inPlace := ["internal/bytealg.IndexByteString", "internal/bytealg.IndexString", "internal/abi.NoEscape", "internal/bytealg.MakeNoZero"], unfollowed := true, recurses := true, named := ["internal/bytealg.MaxLen"], apart := false, narrowed := true }
def FnExactJoinWordsUptoSaid : Prop := fnExactJoinWordsUptoRow.holds Try.pinned (OpenSpec.upto fnExactJoinWordsSpec)

/-- 'laws.FnExactPairBy', WHERE WHAT IT READS IS OF BULK AT MOST 1048576: true; the input reads as it did. -/
def fnExactPairByUptoRow : OpenClaim := { program := "ytkgoceiingddoaa", sum := "d6cc16ccf48d3a9267b662ad36e111971bed3691b2c0a49efc5ba0e97ade33e7", func := "loop.example/g01398/laws.FnExactPairBy", spec := "fnExactPairBy", unfollowed := true, recurses := true, apart := false, narrowed := true }
def FnExactPairByUptoSaid : Prop := fnExactPairByUptoRow.holds Try.pinned (OpenSpec.upto fnExactPairBySpec)

/-- 'laws.FnExactWithPair', WHERE WHAT IT READS IS OF BULK AT MOST 1048576: true; the input reads as it did. -/
def fnExactWithPairUptoRow : OpenClaim := { program := "ytkgoceiingddoaa", sum := "d6cc16ccf48d3a9267b662ad36e111971bed3691b2c0a49efc5ba0e97ade33e7", func := "loop.example/g01398/laws.FnExactWithPair", spec := "fnExactWithPair", unfollowed := true, recurses := true, apart := false, narrowed := true }
def FnExactWithPairUptoSaid : Prop := fnExactWithPairUptoRow.holds Try.pinned (OpenSpec.upto fnExactWithPairSpec)

/-- 'laws.FnExactWordWide', WHERE WHAT IT READS IS OF BULK AT MOST 1048576: true; the input reads as it did. -/
def fnExactWordWideUptoRow : OpenClaim := { program := "ytkgoceiingddoaa", sum := "d6cc16ccf48d3a9267b662ad36e111971bed3691b2c0a49efc5ba0e97ade33e7", func := "loop.example/g01398/laws.FnExactWordWide", spec := "fnExactWordWide", inPlace := ["internal/bytealg.IndexByteString", "internal/bytealg.IndexString"], unfollowed := true, recurses := true, named := ["internal/bytealg.MaxLen"], apart := false, narrowed := true }
def FnExactWordWideUptoSaid : Prop := fnExactWordWideUptoRow.holds Try.pinned (OpenSpec.upto fnExactWordWideSpec)

/-- 'laws.FnExactLineWide', WHERE WHAT IT READS IS OF BULK AT MOST 1048576: true; the input reads as it did. -/
def fnExactLineWideUptoRow : OpenClaim := { program := "ytkgoceiingddoaa", sum := "d6cc16ccf48d3a9267b662ad36e111971bed3691b2c0a49efc5ba0e97ade33e7", func := "loop.example/g01398/laws.FnExactLineWide", spec := "fnExactLineWide", inPlace := ["internal/bytealg.CountString", "internal/bytealg.IndexByteString", "internal/bytealg.IndexString"], unfollowed := true, recurses := true, named := ["internal/bytealg.MaxLen"], apart := false, narrowed := true }
def FnExactLineWideUptoSaid : Prop := fnExactLineWideUptoRow.holds Try.pinned (OpenSpec.upto fnExactLineWideSpec)

/-- 'laws.FnExactPlacesOf', WHERE WHAT IT READS IS OF BULK AT MOST 1048576: true; the input reads as it did. -/
def fnExactPlacesOfUptoRow : OpenClaim := { program := "ytkgoceiingddoaa", sum := "d6cc16ccf48d3a9267b662ad36e111971bed3691b2c0a49efc5ba0e97ade33e7", func := "loop.example/g01398/laws.FnExactPlacesOf", spec := "fnExactPlacesOf", inPlace := ["internal/bytealg.IndexByteString", "internal/bytealg.IndexString"], unfollowed := true, recurses := true, named := ["internal/bytealg.MaxLen"], apart := false, narrowed := true }
def FnExactPlacesOfUptoSaid : Prop := fnExactPlacesOfUptoRow.holds Try.pinned (OpenSpec.upto fnExactPlacesOfSpec)

/-- 'laws.FnExactWidestWord', WHERE WHAT IT READS IS OF BULK AT MOST 1048576: true; the input reads as it did. -/
def fnExactWidestWordUptoRow : OpenClaim := { program := "ytkgoceiingddoaa", sum := "d6cc16ccf48d3a9267b662ad36e111971bed3691b2c0a49efc5ba0e97ade33e7", func := "loop.example/g01398/laws.FnExactWidestWord", spec := "fnExactWidestWord", inPlace := ["internal/bytealg.IndexByteString", "internal/bytealg.IndexString"], unfollowed := true, recurses := true, named := ["internal/bytealg.MaxLen"], apart := false, narrowed := true }
def FnExactWidestWordUptoSaid : Prop := fnExactWidestWordUptoRow.holds Try.pinned (OpenSpec.upto fnExactWidestWordSpec)

/-- 'laws.FnExactCentreLine', WHERE WHAT IT READS IS OF BULK AT MOST 1048576: true; the input reads as it did. -/
def fnExactCentreLineUptoRow : OpenClaim := { program := "ytkgoceiingddoaa", sum := "d6cc16ccf48d3a9267b662ad36e111971bed3691b2c0a49efc5ba0e97ade33e7", func := "loop.example/g01398/laws.FnExactCentreLine", spec := "fnExactCentreLine", inPlace := ["internal/bytealg.CountString", "internal/bytealg.IndexByteString", "internal/bytealg.IndexString"], unfollowed := true, recurses := true, named := ["internal/bytealg.MaxLen"], apart := false, narrowed := true }
def FnExactCentreLineUptoSaid : Prop := fnExactCentreLineUptoRow.holds Try.pinned (OpenSpec.upto fnExactCentreLineSpec)

/-- 'laws.FnExactJustifyLine', WHERE WHAT IT READS IS OF BULK AT MOST 1048576: true; the input reads as it did. -/
def fnExactJustifyLineUptoRow : OpenClaim := { program := "ytkgoceiingddoaa", sum := "d6cc16ccf48d3a9267b662ad36e111971bed3691b2c0a49efc5ba0e97ade33e7", func := "loop.example/g01398/laws.FnExactJustifyLine", spec := "fnExactJustifyLine", inPlace := ["internal/bytealg.CountString", "internal/bytealg.IndexByteString", "internal/bytealg.IndexString"], unfollowed := true, recurses := true, named := ["internal/bytealg.MaxLen"], apart := false, narrowed := true }
def FnExactJustifyLineUptoSaid : Prop := fnExactJustifyLineUptoRow.holds Try.pinned (OpenSpec.upto fnExactJustifyLineSpec)

/-- 'laws.FnExactLongestFit', WHERE WHAT IT READS IS OF BULK AT MOST 1048576: true; the input reads as it did. -/
def fnExactLongestFitUptoRow : OpenClaim := { program := "ytkgoceiingddoaa", sum := "d6cc16ccf48d3a9267b662ad36e111971bed3691b2c0a49efc5ba0e97ade33e7", func := "loop.example/g01398/laws.FnExactLongestFit", spec := "fnExactLongestFit", inPlace := ["internal/bytealg.IndexByteString", "internal/bytealg.IndexString"], unfollowed := true, recurses := true, named := ["internal/bytealg.MaxLen"], apart := false, narrowed := true }
def FnExactLongestFitUptoSaid : Prop := fnExactLongestFitUptoRow.holds Try.pinned (OpenSpec.upto fnExactLongestFitSpec)

/-- 'laws.FnExactLoosenFace', WHERE WHAT IT READS IS OF BULK AT MOST 1048576: true; the input reads as it did. -/
def fnExactLoosenFaceUptoRow : OpenClaim := { program := "ytkgoceiingddoaa", sum := "d6cc16ccf48d3a9267b662ad36e111971bed3691b2c0a49efc5ba0e97ade33e7", func := "loop.example/g01398/laws.FnExactLoosenFace", spec := "fnExactLoosenFace", apart := false, narrowed := true }
def FnExactLoosenFaceUptoSaid : Prop := fnExactLoosenFaceUptoRow.holds Try.pinned (OpenSpec.upto fnExactLoosenFaceSpec)

end Rows
end Go.Proofs.Ytkgoceiingddoaa
