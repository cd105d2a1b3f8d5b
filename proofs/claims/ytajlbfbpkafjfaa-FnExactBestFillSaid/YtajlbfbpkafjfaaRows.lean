/-
  No cell of these rows narrows 'for every input' (looked for: loops, veiled, ifaces, maps, wideKeys, modest, calm, conditions, laid).
  DERIVED. THE GIVEN ROWS OF THIS SEAT. 15 by the template 'for every input the law returns true; each argument reads behind the call as it read before'; 0 by the template 'total and deterministic' (their statements: YtajlbfbpkafjfaaTotals.lean).
  GIVEN WITH THE SEED: the statements are not yours to turn. If you find one false, say at which input.
  Laid BY PROGRAM, IN A SANDBOX (cutbox-rows.mjs): the forced cells as the released guide's own fill.sh prints them over the translation 03f2271cdf5124c4… (all of the seat's roots in one cut). By AI agents, Wed Nov 11 2026. No macro, syntax, notation, axiom, sorry.
-/
import Derived.Test.YtajlbfbpkafjfaaChecked
import GoSem.Claim
import GoSem.ClaimJoined
import GoSem.ClaimMapViews
import Derived.JoinedTies
import Derived.KernelRfl
namespace Go.Proofs.Ytajlbfbpkafjfaa
/- THE CELL 'sum', in the pinned program and in every row, IS THE sha256 OF THE DUMP (.gsa) THAT YtajlbfbpkafjfaaProg.lean LOADS. Nothing in Lean hashes anything: it is a label: what it is worth is what the hold of that sum in a sandbox is worth. -/
noncomputable def Try.pinned : Pinned := { name := "ytajlbfbpkafjfaa", sum := "03f2271cdf5124c4038404b3831bfb93e86209424eebfe79a090328e7dff885f", checked := Try.checked }
namespace Rows
def none {H : Type} : Left H := { results := [], args := [] }

/-- 'laws.FnExactValidList': WHATEVER THE INPUT: true; the input reads as it did. -/
def fnExactValidListSpec : ChangeSpec := { name := "fnExactValidList", fn := fun _ => fun
  | [d] => { results := [.lit (.bool true)], args := [d] }
  | _ => none }
def fnExactValidListRow : OpenClaim := { program := "ytajlbfbpkafjfaa", sum := "03f2271cdf5124c4038404b3831bfb93e86209424eebfe79a090328e7dff885f", func := "loop.example/g01398/laws.FnExactValidList", spec := "fnExactValidList", inPlace := ["internal/bytealg.IndexByteString", "internal/bytealg.IndexString"], unfollowed := true, recurses := true, named := ["internal/bytealg.MaxLen"], apart := false }
def FnExactValidListSaid : Prop := fnExactValidListRow.holds Try.pinned (OpenSpec.ofChange fnExactValidListSpec)

/-- ITS FALSE NEIGHBOUR: 'it returns false'. Refute it at one input. -/
def fnExactValidListWrong : ChangeSpec := { name := "fnExactValidList", fn := fun _ => fun
  | [d] => { results := [.lit (.bool false)], args := [d] }
  | _ => none }
def FnExactValidListWrongFalsely : Prop := fnExactValidListRow.holds Try.pinned (OpenSpec.ofChange fnExactValidListWrong)

/-- 'laws.FnExactFillWord': WHATEVER THE INPUT: true; the input reads as it did. -/
def fnExactFillWordSpec : ChangeSpec := { name := "fnExactFillWord", fn := fun _ => fun
  | [d1, d2, d3, d4, d5, d6] => { results := [.lit (.bool true)], args := [d1, d2, d3, d4, d5, d6] }
  | _ => none }
def fnExactFillWordRow : OpenClaim := { program := "ytajlbfbpkafjfaa", sum := "03f2271cdf5124c4038404b3831bfb93e86209424eebfe79a090328e7dff885f", func := "loop.example/g01398/laws.FnExactFillWord", spec := "fnExactFillWord", inPlace := ["internal/bytealg.IndexByteString", "internal/bytealg.IndexString", "internal/bytealg.CountString"], unfollowed := true, recurses := true, named := ["internal/bytealg.MaxLen"], apart := false }
def FnExactFillWordSaid : Prop := fnExactFillWordRow.holds Try.pinned (OpenSpec.ofChange fnExactFillWordSpec)

/-- ITS FALSE NEIGHBOUR: 'it returns false'. Refute it at one input. -/
def fnExactFillWordWrong : ChangeSpec := { name := "fnExactFillWord", fn := fun _ => fun
  | [d1, d2, d3, d4, d5, d6] => { results := [.lit (.bool false)], args := [d1, d2, d3, d4, d5, d6] }
  | _ => none }
def FnExactFillWordWrongFalsely : Prop := fnExactFillWordRow.holds Try.pinned (OpenSpec.ofChange fnExactFillWordWrong)

/-- 'laws.FnExactBestFill': WHATEVER THE INPUT: true; the input reads as it did. -/
def fnExactBestFillSpec : ChangeSpec := { name := "fnExactBestFill", fn := fun _ => fun
  | [d1, d2, d3, d4, d5] => { results := [.lit (.bool true)], args := [d1, d2, d3, d4, d5] }
  | _ => none }
def fnExactBestFillRow : OpenClaim := { program := "ytajlbfbpkafjfaa", sum := "03f2271cdf5124c4038404b3831bfb93e86209424eebfe79a090328e7dff885f", func := "loop.example/g01398/laws.FnExactBestFill", spec := "fnExactBestFill", inPlace := ["internal/bytealg.IndexByteString", "internal/bytealg.IndexString", "internal/bytealg.CountString"], unfollowed := true, recurses := true, named := ["internal/bytealg.MaxLen"], apart := false }
def FnExactBestFillSaid : Prop := fnExactBestFillRow.holds Try.pinned (OpenSpec.ofChange fnExactBestFillSpec)

/-- ITS FALSE NEIGHBOUR: 'it returns false'. Refute it at one input. -/
def fnExactBestFillWrong : ChangeSpec := { name := "fnExactBestFill", fn := fun _ => fun
  | [d1, d2, d3, d4, d5] => { results := [.lit (.bool false)], args := [d1, d2, d3, d4, d5] }
  | _ => none }
def FnExactBestFillWrongFalsely : Prop := fnExactBestFillRow.holds Try.pinned (OpenSpec.ofChange fnExactBestFillWrong)

/-- 'laws.FnExactFillTwo': WHATEVER THE INPUT: true; the input reads as it did. -/
def fnExactFillTwoSpec : ChangeSpec := { name := "fnExactFillTwo", fn := fun _ => fun
  | [d1, d2, d3, d4, d5, d6] => { results := [.lit (.bool true)], args := [d1, d2, d3, d4, d5, d6] }
  | _ => none }
def fnExactFillTwoRow : OpenClaim := { program := "ytajlbfbpkafjfaa", sum := "03f2271cdf5124c4038404b3831bfb93e86209424eebfe79a090328e7dff885f", func := "loop.example/g01398/laws.FnExactFillTwo", spec := "fnExactFillTwo", inPlace := ["internal/bytealg.IndexByteString", "internal/bytealg.IndexString", "internal/bytealg.CountString"], unfollowed := true, recurses := true, named := ["internal/bytealg.MaxLen"], apart := false }
def FnExactFillTwoSaid : Prop := fnExactFillTwoRow.holds Try.pinned (OpenSpec.ofChange fnExactFillTwoSpec)

/-- ITS FALSE NEIGHBOUR: 'it returns false'. Refute it at one input. -/
def fnExactFillTwoWrong : ChangeSpec := { name := "fnExactFillTwo", fn := fun _ => fun
  | [d1, d2, d3, d4, d5, d6] => { results := [.lit (.bool false)], args := [d1, d2, d3, d4, d5, d6] }
  | _ => none }
def FnExactFillTwoWrongFalsely : Prop := fnExactFillTwoRow.holds Try.pinned (OpenSpec.ofChange fnExactFillTwoWrong)

/-- 'laws.FnExactFillLetter': WHATEVER THE INPUT: true; the input reads as it did. -/
def fnExactFillLetterSpec : ChangeSpec := { name := "fnExactFillLetter", fn := fun _ => fun
  | [d1, d2, d3, d4, d5] => { results := [.lit (.bool true)], args := [d1, d2, d3, d4, d5] }
  | _ => none }
def fnExactFillLetterRow : OpenClaim := { program := "ytajlbfbpkafjfaa", sum := "03f2271cdf5124c4038404b3831bfb93e86209424eebfe79a090328e7dff885f", func := "loop.example/g01398/laws.FnExactFillLetter", spec := "fnExactFillLetter", inPlace := ["internal/bytealg.IndexByteString", "internal/bytealg.IndexString", "internal/bytealg.CountString"], unfollowed := true, recurses := true, named := ["internal/bytealg.MaxLen"], apart := false }
def FnExactFillLetterSaid : Prop := fnExactFillLetterRow.holds Try.pinned (OpenSpec.ofChange fnExactFillLetterSpec)

/-- ITS FALSE NEIGHBOUR: 'it returns false'. Refute it at one input. -/
def fnExactFillLetterWrong : ChangeSpec := { name := "fnExactFillLetter", fn := fun _ => fun
  | [d1, d2, d3, d4, d5] => { results := [.lit (.bool false)], args := [d1, d2, d3, d4, d5] }
  | _ => none }
def FnExactFillLetterWrongFalsely : Prop := fnExactFillLetterRow.holds Try.pinned (OpenSpec.ofChange fnExactFillLetterWrong)

/-- 'laws.FnExactMatchWorn': WHATEVER THE INPUT: true; the input reads as it did. -/
def fnExactMatchWornSpec : ChangeSpec := { name := "fnExactMatchWorn", fn := fun _ => fun
  | [d1, d2] => { results := [.lit (.bool true)], args := [d1, d2] }
  | _ => none }
def fnExactMatchWornRow : OpenClaim := { program := "ytajlbfbpkafjfaa", sum := "03f2271cdf5124c4038404b3831bfb93e86209424eebfe79a090328e7dff885f", func := "loop.example/g01398/laws.FnExactMatchWorn", spec := "fnExactMatchWorn", inPlace := ["internal/bytealg.IndexByteString", "internal/bytealg.IndexString"], unfollowed := true, recurses := true, named := ["internal/bytealg.MaxLen"], apart := false }
def FnExactMatchWornSaid : Prop := fnExactMatchWornRow.holds Try.pinned (OpenSpec.ofChange fnExactMatchWornSpec)

/-- ITS FALSE NEIGHBOUR: 'it returns false'. Refute it at one input. -/
def fnExactMatchWornWrong : ChangeSpec := { name := "fnExactMatchWorn", fn := fun _ => fun
  | [d1, d2] => { results := [.lit (.bool false)], args := [d1, d2] }
  | _ => none }
def FnExactMatchWornWrongFalsely : Prop := fnExactMatchWornRow.holds Try.pinned (OpenSpec.ofChange fnExactMatchWornWrong)

/-- 'laws.FnExactWornOf': WHATEVER THE INPUT: true; the input reads as it did. -/
def fnExactWornOfSpec : ChangeSpec := { name := "fnExactWornOf", fn := fun _ => fun
  | [d1, d2] => { results := [.lit (.bool true)], args := [d1, d2] }
  | _ => none }
def fnExactWornOfRow : OpenClaim := { program := "ytajlbfbpkafjfaa", sum := "03f2271cdf5124c4038404b3831bfb93e86209424eebfe79a090328e7dff885f", func := "loop.example/g01398/laws.FnExactWornOf", spec := "fnExactWornOf", inPlace := ["internal/bytealg.IndexByteString", "internal/bytealg.IndexString"], unfollowed := true, recurses := true, named := ["internal/bytealg.MaxLen"], apart := false }
def FnExactWornOfSaid : Prop := fnExactWornOfRow.holds Try.pinned (OpenSpec.ofChange fnExactWornOfSpec)

/-- ITS FALSE NEIGHBOUR: 'it returns false'. Refute it at one input. -/
def fnExactWornOfWrong : ChangeSpec := { name := "fnExactWornOf", fn := fun _ => fun
  | [d1, d2] => { results := [.lit (.bool false)], args := [d1, d2] }
  | _ => none }
def FnExactWornOfWrongFalsely : Prop := fnExactWornOfRow.holds Try.pinned (OpenSpec.ofChange fnExactWornOfWrong)

/-- 'laws.FnExactAgree': WHATEVER THE INPUT: true; the input reads as it did. -/
def fnExactAgreeSpec : ChangeSpec := { name := "fnExactAgree", fn := fun _ => fun
  | [d1, d2] => { results := [.lit (.bool true)], args := [d1, d2] }
  | _ => none }
def fnExactAgreeRow : OpenClaim := { program := "ytajlbfbpkafjfaa", sum := "03f2271cdf5124c4038404b3831bfb93e86209424eebfe79a090328e7dff885f", func := "loop.example/g01398/laws.FnExactAgree", spec := "fnExactAgree", unfollowed := true, recurses := true, apart := false }
def FnExactAgreeSaid : Prop := fnExactAgreeRow.holds Try.pinned (OpenSpec.ofChange fnExactAgreeSpec)

/-- ITS FALSE NEIGHBOUR: 'it returns false'. Refute it at one input. -/
def fnExactAgreeWrong : ChangeSpec := { name := "fnExactAgree", fn := fun _ => fun
  | [d1, d2] => { results := [.lit (.bool false)], args := [d1, d2] }
  | _ => none }
def FnExactAgreeWrongFalsely : Prop := fnExactAgreeRow.holds Try.pinned (OpenSpec.ofChange fnExactAgreeWrong)

/-- 'laws.FnExactCanTurn': WHATEVER THE INPUT: true; the input reads as it did. -/
def fnExactCanTurnSpec : ChangeSpec := { name := "fnExactCanTurn", fn := fun _ => fun
  | [d] => { results := [.lit (.bool true)], args := [d] }
  | _ => none }
def fnExactCanTurnRow : OpenClaim := { program := "ytajlbfbpkafjfaa", sum := "03f2271cdf5124c4038404b3831bfb93e86209424eebfe79a090328e7dff885f", func := "loop.example/g01398/laws.FnExactCanTurn", spec := "fnExactCanTurn", unfollowed := true, recurses := true, apart := false }
def FnExactCanTurnSaid : Prop := fnExactCanTurnRow.holds Try.pinned (OpenSpec.ofChange fnExactCanTurnSpec)

/-- ITS FALSE NEIGHBOUR: 'it returns false'. Refute it at one input. -/
def fnExactCanTurnWrong : ChangeSpec := { name := "fnExactCanTurn", fn := fun _ => fun
  | [d] => { results := [.lit (.bool false)], args := [d] }
  | _ => none }
def FnExactCanTurnWrongFalsely : Prop := fnExactCanTurnRow.holds Try.pinned (OpenSpec.ofChange fnExactCanTurnWrong)

/-- 'laws.FnExactTurnText': WHATEVER THE INPUT: true; the input reads as it did. -/
def fnExactTurnTextSpec : ChangeSpec := { name := "fnExactTurnText", fn := fun _ => fun
  | [d] => { results := [.lit (.bool true)], args := [d] }
  | _ => none }
def fnExactTurnTextRow : OpenClaim := { program := "ytajlbfbpkafjfaa", sum := "03f2271cdf5124c4038404b3831bfb93e86209424eebfe79a090328e7dff885f", func := "loop.example/g01398/laws.FnExactTurnText", spec := "fnExactTurnText", unfollowed := true, recurses := true, apart := false }
def FnExactTurnTextSaid : Prop := fnExactTurnTextRow.holds Try.pinned (OpenSpec.ofChange fnExactTurnTextSpec)

/-- ITS FALSE NEIGHBOUR: 'it returns false'. Refute it at one input. -/
def fnExactTurnTextWrong : ChangeSpec := { name := "fnExactTurnText", fn := fun _ => fun
  | [d] => { results := [.lit (.bool false)], args := [d] }
  | _ => none }
def FnExactTurnTextWrongFalsely : Prop := fnExactTurnTextRow.holds Try.pinned (OpenSpec.ofChange fnExactTurnTextWrong)

/-- 'laws.FnExactTurnedWords': WHATEVER THE INPUT: true; the input reads as it did. -/
def fnExactTurnedWordsSpec : ChangeSpec := { name := "fnExactTurnedWords", fn := fun _ => fun
  | [d] => { results := [.lit (.bool true)], args := [d] }
  | _ => none }
def fnExactTurnedWordsRow : OpenClaim := { program := "ytajlbfbpkafjfaa", sum := "03f2271cdf5124c4038404b3831bfb93e86209424eebfe79a090328e7dff885f", func := "loop.example/g01398/laws.FnExactTurnedWords", spec := "fnExactTurnedWords", inPlace := ["internal/bytealg.IndexByteString", "internal/bytealg.IndexString"], unfollowed := true, recurses := true, named := ["internal/bytealg.MaxLen"], apart := false }
def FnExactTurnedWordsSaid : Prop := fnExactTurnedWordsRow.holds Try.pinned (OpenSpec.ofChange fnExactTurnedWordsSpec)

/-- ITS FALSE NEIGHBOUR: 'it returns false'. Refute it at one input. -/
def fnExactTurnedWordsWrong : ChangeSpec := { name := "fnExactTurnedWords", fn := fun _ => fun
  | [d] => { results := [.lit (.bool false)], args := [d] }
  | _ => none }
def FnExactTurnedWordsWrongFalsely : Prop := fnExactTurnedWordsRow.holds Try.pinned (OpenSpec.ofChange fnExactTurnedWordsWrong)

/-- 'laws.FnExactValidPieces': WHATEVER THE INPUT: true; the input reads as it did. -/
def fnExactValidPiecesSpec : ChangeSpec := { name := "fnExactValidPieces", fn := fun _ => fun
  | [d] => { results := [.lit (.bool true)], args := [d] }
  | _ => none }
def fnExactValidPiecesRow : OpenClaim := { program := "ytajlbfbpkafjfaa", sum := "03f2271cdf5124c4038404b3831bfb93e86209424eebfe79a090328e7dff885f", func := "loop.example/g01398/laws.FnExactValidPieces", spec := "fnExactValidPieces", unfollowed := true, recurses := true, apart := false }
def FnExactValidPiecesSaid : Prop := fnExactValidPiecesRow.holds Try.pinned (OpenSpec.ofChange fnExactValidPiecesSpec)

/-- ITS FALSE NEIGHBOUR: 'it returns false'. Refute it at one input. -/
def fnExactValidPiecesWrong : ChangeSpec := { name := "fnExactValidPieces", fn := fun _ => fun
  | [d] => { results := [.lit (.bool false)], args := [d] }
  | _ => none }
def FnExactValidPiecesWrongFalsely : Prop := fnExactValidPiecesRow.holds Try.pinned (OpenSpec.ofChange fnExactValidPiecesWrong)

/-- 'laws.FnExactJoinsOf': WHATEVER THE INPUT: true; the input reads as it did. -/
def fnExactJoinsOfSpec : ChangeSpec := { name := "fnExactJoinsOf", fn := fun _ => fun
  | [d] => { results := [.lit (.bool true)], args := [d] }
  | _ => none }
def fnExactJoinsOfRow : OpenClaim := { program := "ytajlbfbpkafjfaa", sum := "03f2271cdf5124c4038404b3831bfb93e86209424eebfe79a090328e7dff885f", func := "loop.example/g01398/laws.FnExactJoinsOf", spec := "fnExactJoinsOf", unfollowed := true, recurses := true, apart := false }
def FnExactJoinsOfSaid : Prop := fnExactJoinsOfRow.holds Try.pinned (OpenSpec.ofChange fnExactJoinsOfSpec)

/-- ITS FALSE NEIGHBOUR: 'it returns false'. Refute it at one input. -/
def fnExactJoinsOfWrong : ChangeSpec := { name := "fnExactJoinsOf", fn := fun _ => fun
  | [d] => { results := [.lit (.bool false)], args := [d] }
  | _ => none }
def FnExactJoinsOfWrongFalsely : Prop := fnExactJoinsOfRow.holds Try.pinned (OpenSpec.ofChange fnExactJoinsOfWrong)

/-- 'laws.FnExactJoinAll': WHATEVER THE INPUT: true; the input reads as it did. -/
def fnExactJoinAllSpec : ChangeSpec := { name := "fnExactJoinAll", fn := fun _ => fun
  | [d1, d2] => { results := [.lit (.bool true)], args := [d1, d2] }
  | _ => none }
def fnExactJoinAllRow : OpenClaim := { program := "ytajlbfbpkafjfaa", sum := "03f2271cdf5124c4038404b3831bfb93e86209424eebfe79a090328e7dff885f", func := "loop.example/g01398/laws.FnExactJoinAll", spec := "fnExactJoinAll", unfollowed := true, recurses := true, apart := false }
def FnExactJoinAllSaid : Prop := fnExactJoinAllRow.holds Try.pinned (OpenSpec.ofChange fnExactJoinAllSpec)

/-- ITS FALSE NEIGHBOUR: 'it returns false'. Refute it at one input. -/
def fnExactJoinAllWrong : ChangeSpec := { name := "fnExactJoinAll", fn := fun _ => fun
  | [d1, d2] => { results := [.lit (.bool false)], args := [d1, d2] }
  | _ => none }
def FnExactJoinAllWrongFalsely : Prop := fnExactJoinAllRow.holds Try.pinned (OpenSpec.ofChange fnExactJoinAllWrong)

/-- 'laws.FnExactWithPair': WHATEVER THE INPUT: true; the input reads as it did. -/
def fnExactWithPairSpec : ChangeSpec := { name := "fnExactWithPair", fn := fun _ => fun
  | [d1, d2] => { results := [.lit (.bool true)], args := [d1, d2] }
  | _ => none }
def fnExactWithPairRow : OpenClaim := { program := "ytajlbfbpkafjfaa", sum := "03f2271cdf5124c4038404b3831bfb93e86209424eebfe79a090328e7dff885f", func := "loop.example/g01398/laws.FnExactWithPair", spec := "fnExactWithPair", unfollowed := true, recurses := true, apart := false }
def FnExactWithPairSaid : Prop := fnExactWithPairRow.holds Try.pinned (OpenSpec.ofChange fnExactWithPairSpec)

/-- ITS FALSE NEIGHBOUR: 'it returns false'. Refute it at one input. -/
def fnExactWithPairWrong : ChangeSpec := { name := "fnExactWithPair", fn := fun _ => fun
  | [d1, d2] => { results := [.lit (.bool false)], args := [d1, d2] }
  | _ => none }
def FnExactWithPairWrongFalsely : Prop := fnExactWithPairRow.holds Try.pinned (OpenSpec.ofChange fnExactWithPairWrong)

/- THE SECOND FORM. 'bulk': how many values and letters a reading holds, each counted each time it is reached (what is shared counts as often as it is met; a slice's spare places count too). A statement '..UptoSaid' is the law's where the arguments, and the package variables that the reading takes, are together of bulk at most 1048576: NARROWER than '..Said'. Prove '..Said' where nothing that the law and all that it calls make is longer than what came in: it says more and counts as full. Else prove '..UptoSaid'. A law counts once. -/
mutual
def uptoBulk {H : Type} : DataW H → Nat
  | .lit (.string bytes) => bytes.length + 1
  | .lit _ => 1
  | .nil => 1
  | .ptr d => uptoBulk d + 1
  | .slice elems spare => uptoBulkAll elems + uptoBulkAll spare + 1
  | .agg parts => uptoBulkAll parts + 1
  | .iface _ d => uptoBulk d + 1
  | .map entries => uptoBulkEntries entries + 1
  | .held _ => 1
def uptoBulkAll {H : Type} : List (DataW H) → Nat
  | [] => 0
  | d :: r => uptoBulk d + uptoBulkAll r
def uptoBulkEntries {H : Type} : List (Lit × DataW H) → Nat
  | [] => 0
  | x :: r => uptoBulkEntry x + uptoBulkEntries r
def uptoBulkEntry {H : Type} : Lit × DataW H → Nat
  | (.string bytes, d) => bytes.length + uptoBulk d + 1
  | (_, d) => uptoBulk d + 1
 end
def uptoSmall : (H : Type) → List (DataW H) → Bool := fun _ ds => decide (uptoBulkAll ds ≤ 1048576)
def OpenSpec.upto (s : _root_.Go.ChangeSpec) : _root_.Go.OpenSpec := { _root_.Go.OpenSpec.ofChange s with cond := some uptoSmall }

/-- 'laws.FnExactValidList', WHERE WHAT IT READS IS OF BULK AT MOST 1048576: true; the input reads as it did. -/
def fnExactValidListUptoRow : OpenClaim := { program := "ytajlbfbpkafjfaa", sum := "03f2271cdf5124c4038404b3831bfb93e86209424eebfe79a090328e7dff885f", func := "loop.example/g01398/laws.FnExactValidList", spec := "fnExactValidList", inPlace := ["internal/bytealg.IndexByteString", "internal/bytealg.IndexString"], unfollowed := true, recurses := true, named := ["internal/bytealg.MaxLen"], apart := false, narrowed := true }
def FnExactValidListUptoSaid : Prop := fnExactValidListUptoRow.holds Try.pinned (OpenSpec.upto fnExactValidListSpec)

/-- 'laws.FnExactFillWord', WHERE WHAT IT READS IS OF BULK AT MOST 1048576: true; the input reads as it did. -/
def fnExactFillWordUptoRow : OpenClaim := { program := "ytajlbfbpkafjfaa", sum := "03f2271cdf5124c4038404b3831bfb93e86209424eebfe79a090328e7dff885f", func := "loop.example/g01398/laws.FnExactFillWord", spec := "fnExactFillWord", inPlace := ["internal/bytealg.IndexByteString", "internal/bytealg.IndexString", "internal/bytealg.CountString"], unfollowed := true, recurses := true, named := ["internal/bytealg.MaxLen"], apart := false, narrowed := true }
def FnExactFillWordUptoSaid : Prop := fnExactFillWordUptoRow.holds Try.pinned (OpenSpec.upto fnExactFillWordSpec)

/-- 'laws.FnExactBestFill', WHERE WHAT IT READS IS OF BULK AT MOST 1048576: true; the input reads as it did. -/
def fnExactBestFillUptoRow : OpenClaim := { program := "ytajlbfbpkafjfaa", sum := "03f2271cdf5124c4038404b3831bfb93e86209424eebfe79a090328e7dff885f", func := "loop.example/g01398/laws.FnExactBestFill", spec := "fnExactBestFill", inPlace := ["internal/bytealg.IndexByteString", "internal/bytealg.IndexString", "internal/bytealg.CountString"], unfollowed := true, recurses := true, named := ["internal/bytealg.MaxLen"], apart := false, narrowed := true }
def FnExactBestFillUptoSaid : Prop := fnExactBestFillUptoRow.holds Try.pinned (OpenSpec.upto fnExactBestFillSpec)

/-- 'laws.FnExactFillTwo', WHERE WHAT IT READS IS OF BULK AT MOST 1048576: true; the input reads as it did. -/
def fnExactFillTwoUptoRow : OpenClaim := { program := "ytajlbfbpkafjfaa", sum := "03f2271cdf5124c4038404b3831bfb93e86209424eebfe79a090328e7dff885f", func := "loop.example/g01398/laws.FnExactFillTwo", spec := "fnExactFillTwo", inPlace := ["internal/bytealg.IndexByteString", "internal/bytealg.IndexString", "internal/bytealg.CountString"], unfollowed := true, recurses := true, named := ["internal/bytealg.MaxLen"], apart := false, narrowed := true }
def FnExactFillTwoUptoSaid : Prop := fnExactFillTwoUptoRow.holds Try.pinned (OpenSpec.upto fnExactFillTwoSpec)

/-- 'laws.FnExactFillLetter', WHERE WHAT IT READS IS OF BULK AT MOST 1048576: true; the input reads as it did. -/
def fnExactFillLetterUptoRow : OpenClaim := { program := "ytajlbfbpkafjfaa", sum := "03f2271cdf5124c4038404b3831bfb93e86209424eebfe79a090328e7dff885f", func := "loop.example/g01398/laws.FnExactFillLetter", spec := "fnExactFillLetter", inPlace := ["internal/bytealg.IndexByteString", "internal/bytealg.IndexString", "internal/bytealg.CountString"], unfollowed := true, recurses := true, named := ["internal/bytealg.MaxLen"], apart := false, narrowed := true }
def FnExactFillLetterUptoSaid : Prop := fnExactFillLetterUptoRow.holds Try.pinned (OpenSpec.upto fnExactFillLetterSpec)

/-- 'laws.FnExactMatchWorn', WHERE WHAT IT READS IS OF BULK AT MOST 1048576: true; the input reads as it did. -/
def fnExactMatchWornUptoRow : OpenClaim := { program := "ytajlbfbpkafjfaa", sum := "03f2271cdf5124c4038404b3831bfb93e86209424eebfe79a090328e7dff885f", func := "loop.example/g01398/laws.FnExactMatchWorn", spec := "fnExactMatchWorn", inPlace := ["internal/bytealg.IndexByteString", "internal/bytealg.IndexString"], unfollowed := true, recurses := true, named := ["internal/bytealg.MaxLen"], apart := false, narrowed := true }
def FnExactMatchWornUptoSaid : Prop := fnExactMatchWornUptoRow.holds Try.pinned (OpenSpec.upto fnExactMatchWornSpec)

/-- 'laws.FnExactWornOf', WHERE WHAT IT READS IS OF BULK AT MOST 1048576: true; the input reads as it did. -/
def fnExactWornOfUptoRow : OpenClaim := { program := "ytajlbfbpkafjfaa", sum := "03f2271cdf5124c4038404b3831bfb93e86209424eebfe79a090328e7dff885f", func := "loop.example/g01398/laws.FnExactWornOf", spec := "fnExactWornOf", inPlace := ["internal/bytealg.IndexByteString", "internal/bytealg.IndexString"], unfollowed := true, recurses := true, named := ["internal/bytealg.MaxLen"], apart := false, narrowed := true }
def FnExactWornOfUptoSaid : Prop := fnExactWornOfUptoRow.holds Try.pinned (OpenSpec.upto fnExactWornOfSpec)

/-- 'laws.FnExactAgree', WHERE WHAT IT READS IS OF BULK AT MOST 1048576: true; the input reads as it did. -/
def fnExactAgreeUptoRow : OpenClaim := { program := "ytajlbfbpkafjfaa", sum := "03f2271cdf5124c4038404b3831bfb93e86209424eebfe79a090328e7dff885f", func := "loop.example/g01398/laws.FnExactAgree", spec := "fnExactAgree", unfollowed := true, recurses := true, apart := false, narrowed := true }
def FnExactAgreeUptoSaid : Prop := fnExactAgreeUptoRow.holds Try.pinned (OpenSpec.upto fnExactAgreeSpec)

/-- 'laws.FnExactCanTurn', WHERE WHAT IT READS IS OF BULK AT MOST 1048576: true; the input reads as it did. -/
def fnExactCanTurnUptoRow : OpenClaim := { program := "ytajlbfbpkafjfaa", sum := "03f2271cdf5124c4038404b3831bfb93e86209424eebfe79a090328e7dff885f", func := "loop.example/g01398/laws.FnExactCanTurn", spec := "fnExactCanTurn", unfollowed := true, recurses := true, apart := false, narrowed := true }
def FnExactCanTurnUptoSaid : Prop := fnExactCanTurnUptoRow.holds Try.pinned (OpenSpec.upto fnExactCanTurnSpec)

/-- 'laws.FnExactTurnText', WHERE WHAT IT READS IS OF BULK AT MOST 1048576: true; the input reads as it did. -/
def fnExactTurnTextUptoRow : OpenClaim := { program := "ytajlbfbpkafjfaa", sum := "03f2271cdf5124c4038404b3831bfb93e86209424eebfe79a090328e7dff885f", func := "loop.example/g01398/laws.FnExactTurnText", spec := "fnExactTurnText", unfollowed := true, recurses := true, apart := false, narrowed := true }
def FnExactTurnTextUptoSaid : Prop := fnExactTurnTextUptoRow.holds Try.pinned (OpenSpec.upto fnExactTurnTextSpec)

/-- 'laws.FnExactTurnedWords', WHERE WHAT IT READS IS OF BULK AT MOST 1048576: true; the input reads as it did. -/
def fnExactTurnedWordsUptoRow : OpenClaim := { program := "ytajlbfbpkafjfaa", sum := "03f2271cdf5124c4038404b3831bfb93e86209424eebfe79a090328e7dff885f", func := "loop.example/g01398/laws.FnExactTurnedWords", spec := "fnExactTurnedWords", inPlace := ["internal/bytealg.IndexByteString", "internal/bytealg.IndexString"], unfollowed := true, recurses := true, named := ["internal/bytealg.MaxLen"], apart := false, narrowed := true }
def FnExactTurnedWordsUptoSaid : Prop := fnExactTurnedWordsUptoRow.holds Try.pinned (OpenSpec.upto fnExactTurnedWordsSpec)

/-- 'laws.FnExactValidPieces', WHERE WHAT IT READS IS OF BULK AT MOST 1048576: true; the input reads as it did. -/
def fnExactValidPiecesUptoRow : OpenClaim := { program := "ytajlbfbpkafjfaa", sum := "03f2271cdf5124c4038404b3831bfb93e86209424eebfe79a090328e7dff885f", func := "loop.example/g01398/laws.FnExactValidPieces", spec := "fnExactValidPieces", unfollowed := true, recurses := true, apart := false, narrowed := true }
def FnExactValidPiecesUptoSaid : Prop := fnExactValidPiecesUptoRow.holds Try.pinned (OpenSpec.upto fnExactValidPiecesSpec)

/-- 'laws.FnExactJoinsOf', WHERE WHAT IT READS IS OF BULK AT MOST 1048576: true; the input reads as it did. -/
def fnExactJoinsOfUptoRow : OpenClaim := { program := "ytajlbfbpkafjfaa", sum := "03f2271cdf5124c4038404b3831bfb93e86209424eebfe79a090328e7dff885f", func := "loop.example/g01398/laws.FnExactJoinsOf", spec := "fnExactJoinsOf", unfollowed := true, recurses := true, apart := false, narrowed := true }
def FnExactJoinsOfUptoSaid : Prop := fnExactJoinsOfUptoRow.holds Try.pinned (OpenSpec.upto fnExactJoinsOfSpec)

/-- 'laws.FnExactJoinAll', WHERE WHAT IT READS IS OF BULK AT MOST 1048576: true; the input reads as it did. -/
def fnExactJoinAllUptoRow : OpenClaim := { program := "ytajlbfbpkafjfaa", sum := "03f2271cdf5124c4038404b3831bfb93e86209424eebfe79a090328e7dff885f", func := "loop.example/g01398/laws.FnExactJoinAll", spec := "fnExactJoinAll", unfollowed := true, recurses := true, apart := false, narrowed := true }
def FnExactJoinAllUptoSaid : Prop := fnExactJoinAllUptoRow.holds Try.pinned (OpenSpec.upto fnExactJoinAllSpec)

/-- 'laws.FnExactWithPair', WHERE WHAT IT READS IS OF BULK AT MOST 1048576: true; the input reads as it did. -/
def fnExactWithPairUptoRow : OpenClaim := { program := "ytajlbfbpkafjfaa", sum := "03f2271cdf5124c4038404b3831bfb93e86209424eebfe79a090328e7dff885f", func := "loop.example/g01398/laws.FnExactWithPair", spec := "fnExactWithPair", unfollowed := true, recurses := true, apart := false, narrowed := true }
def FnExactWithPairUptoSaid : Prop := fnExactWithPairUptoRow.holds Try.pinned (OpenSpec.upto fnExactWithPairSpec)

end Rows
end Go.Proofs.Ytajlbfbpkafjfaa
