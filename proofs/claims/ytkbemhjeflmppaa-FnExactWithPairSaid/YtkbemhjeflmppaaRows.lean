/-
  No cell of these rows narrows 'for every input' (looked for: loops, veiled, ifaces, maps, wideKeys, modest, calm, conditions, laid).
  DERIVED. THE GIVEN ROWS OF THIS SEAT. 10 by the template 'for every input the law returns true; each argument reads behind the call as it read before'; 0 by the template 'total and deterministic' (their statements: YtkbemhjeflmppaaTotals.lean).
  GIVEN WITH THE SEED: the statements are not yours to turn. If you find one false, say at which input.
  Laid BY PROGRAM, IN A SANDBOX (cutbox-rows.mjs): the forced cells as the released guide's own fill.sh prints them over the translation ad8f6cf3a6bb786d… (all of the seat's roots in one cut). By AI agents, Wed Nov 11 2026. No macro, syntax, notation, axiom, sorry.
-/
import Derived.Test.YtkbemhjeflmppaaChecked
import GoSem.Claim
import GoSem.ClaimJoined
import GoSem.ClaimMapViews
import Derived.JoinedTies
import Derived.KernelRfl
namespace Go.Proofs.Ytkbemhjeflmppaa
/- THE CELL 'sum', in the pinned program and in every row, IS THE sha256 OF THE DUMP (.gsa) THAT YtkbemhjeflmppaaProg.lean LOADS. Nothing in Lean hashes anything: it is a label: what it is worth is what the hold of that sum in a sandbox is worth. -/
noncomputable def Try.pinned : Pinned := { name := "ytkbemhjeflmppaa", sum := "ad8f6cf3a6bb786d43c33a72009712d09e7367b8427a3c6392975b3480d7633c", checked := Try.checked }
namespace Rows
def none {H : Type} : Left H := { results := [], args := [] }

/-- 'laws.FnExactValidStrokes': WHATEVER THE INPUT: true; the input reads as it did. -/
def fnExactValidStrokesSpec : ChangeSpec := { name := "fnExactValidStrokes", fn := fun _ => fun
  | [d] => { results := [.lit (.bool true)], args := [d] }
  | _ => none }
def fnExactValidStrokesRow : OpenClaim := { program := "ytkbemhjeflmppaa", sum := "ad8f6cf3a6bb786d43c33a72009712d09e7367b8427a3c6392975b3480d7633c", func := "loop.example/g01398/laws.FnExactValidStrokes", spec := "fnExactValidStrokes", plainKeys := false, apart := false }
def FnExactValidStrokesSaid : Prop := fnExactValidStrokesRow.holds Try.pinned (OpenSpec.ofChange fnExactValidStrokesSpec)

/-- ITS FALSE NEIGHBOUR: 'it returns false'. Refute it at one input. -/
def fnExactValidStrokesWrong : ChangeSpec := { name := "fnExactValidStrokes", fn := fun _ => fun
  | [d] => { results := [.lit (.bool false)], args := [d] }
  | _ => none }
def FnExactValidStrokesWrongFalsely : Prop := fnExactValidStrokesRow.holds Try.pinned (OpenSpec.ofChange fnExactValidStrokesWrong)

/-- 'laws.FnExactValidChisel': WHATEVER THE INPUT: true; the input reads as it did. -/
def fnExactValidChiselSpec : ChangeSpec := { name := "fnExactValidChisel", fn := fun _ => fun
  | [d] => { results := [.lit (.bool true)], args := [d] }
  | _ => none }
def fnExactValidChiselRow : OpenClaim := { program := "ytkbemhjeflmppaa", sum := "ad8f6cf3a6bb786d43c33a72009712d09e7367b8427a3c6392975b3480d7633c", func := "loop.example/g01398/laws.FnExactValidChisel", spec := "fnExactValidChisel", plainKeys := false, apart := false }
def FnExactValidChiselSaid : Prop := fnExactValidChiselRow.holds Try.pinned (OpenSpec.ofChange fnExactValidChiselSpec)

/-- ITS FALSE NEIGHBOUR: 'it returns false'. Refute it at one input. -/
def fnExactValidChiselWrong : ChangeSpec := { name := "fnExactValidChisel", fn := fun _ => fun
  | [d] => { results := [.lit (.bool false)], args := [d] }
  | _ => none }
def FnExactValidChiselWrongFalsely : Prop := fnExactValidChiselRow.holds Try.pinned (OpenSpec.ofChange fnExactValidChiselWrong)

/-- 'laws.FnExactDaysFor': WHATEVER THE INPUT: true; the input reads as it did. -/
def fnExactDaysForSpec : ChangeSpec := { name := "fnExactDaysFor", fn := fun _ => fun
  | [d1, d2] => { results := [.lit (.bool true)], args := [d1, d2] }
  | _ => none }
def fnExactDaysForRow : OpenClaim := { program := "ytkbemhjeflmppaa", sum := "ad8f6cf3a6bb786d43c33a72009712d09e7367b8427a3c6392975b3480d7633c", func := "loop.example/g01398/laws.FnExactDaysFor", spec := "fnExactDaysFor", unfollowed := true, recurses := true, plainKeys := false, leaving := true, apart := false }
def FnExactDaysForSaid : Prop := fnExactDaysForRow.holds Try.pinned (OpenSpec.ofChange fnExactDaysForSpec)

/-- ITS FALSE NEIGHBOUR: 'it returns false'. Refute it at one input. -/
def fnExactDaysForWrong : ChangeSpec := { name := "fnExactDaysFor", fn := fun _ => fun
  | [d1, d2] => { results := [.lit (.bool false)], args := [d1, d2] }
  | _ => none }
def FnExactDaysForWrongFalsely : Prop := fnExactDaysForRow.holds Try.pinned (OpenSpec.ofChange fnExactDaysForWrong)

/-- 'laws.FnExactLateLines': WHATEVER THE INPUT: true; the input reads as it did. -/
def fnExactLateLinesSpec : ChangeSpec := { name := "fnExactLateLines", fn := fun _ => fun
  | [d1, d2] => { results := [.lit (.bool true)], args := [d1, d2] }
  | _ => none }
def fnExactLateLinesRow : OpenClaim := { program := "ytkbemhjeflmppaa", sum := "ad8f6cf3a6bb786d43c33a72009712d09e7367b8427a3c6392975b3480d7633c", func := "loop.example/g01398/laws.FnExactLateLines", spec := "fnExactLateLines", unfollowed := true, recurses := true, plainKeys := false, leaving := true, apart := false }
def FnExactLateLinesSaid : Prop := fnExactLateLinesRow.holds Try.pinned (OpenSpec.ofChange fnExactLateLinesSpec)

/-- ITS FALSE NEIGHBOUR: 'it returns false'. Refute it at one input. -/
def fnExactLateLinesWrong : ChangeSpec := { name := "fnExactLateLines", fn := fun _ => fun
  | [d1, d2] => { results := [.lit (.bool false)], args := [d1, d2] }
  | _ => none }
def FnExactLateLinesWrongFalsely : Prop := fnExactLateLinesRow.holds Try.pinned (OpenSpec.ofChange fnExactLateLinesWrong)

/-- 'laws.FnExactFewestLate': WHATEVER THE INPUT: true; the input reads as it did. -/
def fnExactFewestLateSpec : ChangeSpec := { name := "fnExactFewestLate", fn := fun _ => fun
  | [d1, d2] => { results := [.lit (.bool true)], args := [d1, d2] }
  | _ => none }
def fnExactFewestLateRow : OpenClaim := { program := "ytkbemhjeflmppaa", sum := "ad8f6cf3a6bb786d43c33a72009712d09e7367b8427a3c6392975b3480d7633c", func := "loop.example/g01398/laws.FnExactFewestLate", spec := "fnExactFewestLate", unfollowed := true, recurses := true, plainKeys := false, leaving := true, apart := false }
def FnExactFewestLateSaid : Prop := fnExactFewestLateRow.holds Try.pinned (OpenSpec.ofChange fnExactFewestLateSpec)

/-- ITS FALSE NEIGHBOUR: 'it returns false'. Refute it at one input. -/
def fnExactFewestLateWrong : ChangeSpec := { name := "fnExactFewestLate", fn := fun _ => fun
  | [d1, d2] => { results := [.lit (.bool false)], args := [d1, d2] }
  | _ => none }
def FnExactFewestLateWrongFalsely : Prop := fnExactFewestLateRow.holds Try.pinned (OpenSpec.ofChange fnExactFewestLateWrong)

/-- 'laws.FnExactShareLines': WHATEVER THE INPUT: true; the input reads as it did. -/
def fnExactShareLinesSpec : ChangeSpec := { name := "fnExactShareLines", fn := fun _ => fun
  | [d1, d2] => { results := [.lit (.bool true)], args := [d1, d2] }
  | _ => none }
def fnExactShareLinesRow : OpenClaim := { program := "ytkbemhjeflmppaa", sum := "ad8f6cf3a6bb786d43c33a72009712d09e7367b8427a3c6392975b3480d7633c", func := "loop.example/g01398/laws.FnExactShareLines", spec := "fnExactShareLines", unfollowed := true, recurses := true, plainKeys := false, leaving := true, apart := false }
def FnExactShareLinesSaid : Prop := fnExactShareLinesRow.holds Try.pinned (OpenSpec.ofChange fnExactShareLinesSpec)

/-- ITS FALSE NEIGHBOUR: 'it returns false'. Refute it at one input. -/
def fnExactShareLinesWrong : ChangeSpec := { name := "fnExactShareLines", fn := fun _ => fun
  | [d1, d2] => { results := [.lit (.bool false)], args := [d1, d2] }
  | _ => none }
def FnExactShareLinesWrongFalsely : Prop := fnExactShareLinesRow.holds Try.pinned (OpenSpec.ofChange fnExactShareLinesWrong)

/-- 'laws.FnExactShareAny': WHATEVER THE INPUT: true; the input reads as it did. -/
def fnExactShareAnySpec : ChangeSpec := { name := "fnExactShareAny", fn := fun _ => fun
  | [d1, d2] => { results := [.lit (.bool true)], args := [d1, d2] }
  | _ => none }
def fnExactShareAnyRow : OpenClaim := { program := "ytkbemhjeflmppaa", sum := "ad8f6cf3a6bb786d43c33a72009712d09e7367b8427a3c6392975b3480d7633c", func := "loop.example/g01398/laws.FnExactShareAny", spec := "fnExactShareAny", unfollowed := true, recurses := true, plainKeys := false, leaving := true, apart := false }
def FnExactShareAnySaid : Prop := fnExactShareAnyRow.holds Try.pinned (OpenSpec.ofChange fnExactShareAnySpec)

/-- ITS FALSE NEIGHBOUR: 'it returns false'. Refute it at one input. -/
def fnExactShareAnyWrong : ChangeSpec := { name := "fnExactShareAny", fn := fun _ => fun
  | [d1, d2] => { results := [.lit (.bool false)], args := [d1, d2] }
  | _ => none }
def FnExactShareAnyWrongFalsely : Prop := fnExactShareAnyRow.holds Try.pinned (OpenSpec.ofChange fnExactShareAnyWrong)

/-- 'laws.FnExactLengthenAll': WHATEVER THE INPUT: true; the input reads as it did. -/
def fnExactLengthenAllSpec : ChangeSpec := { name := "fnExactLengthenAll", fn := fun _ => fun
  | [d1, d2] => { results := [.lit (.bool true)], args := [d1, d2] }
  | _ => none }
def fnExactLengthenAllRow : OpenClaim := { program := "ytkbemhjeflmppaa", sum := "ad8f6cf3a6bb786d43c33a72009712d09e7367b8427a3c6392975b3480d7633c", func := "loop.example/g01398/laws.FnExactLengthenAll", spec := "fnExactLengthenAll", inPlace := ["internal/bytealg.IndexByteString", "internal/bytealg.IndexString"], unfollowed := true, recurses := true, named := ["internal/bytealg.MaxLen"], plainKeys := false, leaving := true, apart := false }
def FnExactLengthenAllSaid : Prop := fnExactLengthenAllRow.holds Try.pinned (OpenSpec.ofChange fnExactLengthenAllSpec)

/-- ITS FALSE NEIGHBOUR: 'it returns false'. Refute it at one input. -/
def fnExactLengthenAllWrong : ChangeSpec := { name := "fnExactLengthenAll", fn := fun _ => fun
  | [d1, d2] => { results := [.lit (.bool false)], args := [d1, d2] }
  | _ => none }
def FnExactLengthenAllWrongFalsely : Prop := fnExactLengthenAllRow.holds Try.pinned (OpenSpec.ofChange fnExactLengthenAllWrong)

/-- 'laws.FnExactWithPair': WHATEVER THE INPUT: true; the input reads as it did. -/
def fnExactWithPairSpec : ChangeSpec := { name := "fnExactWithPair", fn := fun _ => fun
  | [d1, d2] => { results := [.lit (.bool true)], args := [d1, d2] }
  | _ => none }
def fnExactWithPairRow : OpenClaim := { program := "ytkbemhjeflmppaa", sum := "ad8f6cf3a6bb786d43c33a72009712d09e7367b8427a3c6392975b3480d7633c", func := "loop.example/g01398/laws.FnExactWithPair", spec := "fnExactWithPair", unfollowed := true, recurses := true, plainKeys := false, leaving := true, apart := false }
def FnExactWithPairSaid : Prop := fnExactWithPairRow.holds Try.pinned (OpenSpec.ofChange fnExactWithPairSpec)

/-- ITS FALSE NEIGHBOUR: 'it returns false'. Refute it at one input. -/
def fnExactWithPairWrong : ChangeSpec := { name := "fnExactWithPair", fn := fun _ => fun
  | [d1, d2] => { results := [.lit (.bool false)], args := [d1, d2] }
  | _ => none }
def FnExactWithPairWrongFalsely : Prop := fnExactWithPairRow.holds Try.pinned (OpenSpec.ofChange fnExactWithPairWrong)

/-- 'laws.FnExactLongestRow': WHATEVER THE INPUT: true; the input reads as it did. -/
def fnExactLongestRowSpec : ChangeSpec := { name := "fnExactLongestRow", fn := fun _ => fun
  | [d] => { results := [.lit (.bool true)], args := [d] }
  | _ => none }
def fnExactLongestRowRow : OpenClaim := { program := "ytkbemhjeflmppaa", sum := "ad8f6cf3a6bb786d43c33a72009712d09e7367b8427a3c6392975b3480d7633c", func := "loop.example/g01398/laws.FnExactLongestRow", spec := "fnExactLongestRow", unfollowed := true, recurses := true, plainKeys := false, leaving := true, apart := false }
def FnExactLongestRowSaid : Prop := fnExactLongestRowRow.holds Try.pinned (OpenSpec.ofChange fnExactLongestRowSpec)

/-- ITS FALSE NEIGHBOUR: 'it returns false'. Refute it at one input. -/
def fnExactLongestRowWrong : ChangeSpec := { name := "fnExactLongestRow", fn := fun _ => fun
  | [d] => { results := [.lit (.bool false)], args := [d] }
  | _ => none }
def FnExactLongestRowWrongFalsely : Prop := fnExactLongestRowRow.holds Try.pinned (OpenSpec.ofChange fnExactLongestRowWrong)

/- THE SECOND FORM. 'bulk': how many values and letters a reading holds, each counted each time it is reached (what is shared counts as often as it is met; a slice's spare places count too). A statement '..UptoSaid' is the law's where the arguments, and the package variables that the reading takes, are together of bulk at most 1048576: NARROWER than '..Said'. Prove '..Said' where nothing that the law and all that it calls make is longer than what came in: it says more and counts as full. Else prove '..UptoSaid'. A law counts once. -/
mutual
def uptoBulk {H : Type} : DataW H → Nat
  | .lit (.string bytes) => bytes.length + 1
  | .lit _ => 1
  | .nil => 1
  | .ptr d => uptoBulk d + 1
  | .slice elems spare => uptoBulkAll elems + uptoBulkAll spare + 1
  | .agg parts => uptoBulkAll parts + 1
  | .iface _ d => uptoBulk d + 1
  | .map entries => uptoBulkEntries entries + 1
  | .held _ => 1
def uptoBulkAll {H : Type} : List (DataW H) → Nat
  | [] => 0
  | d :: r => uptoBulk d + uptoBulkAll r
def uptoBulkEntries {H : Type} : List (Lit × DataW H) → Nat
  | [] => 0
  | x :: r => uptoBulkEntry x + uptoBulkEntries r
def uptoBulkEntry {H : Type} : Lit × DataW H → Nat
  | (.string bytes, d) => bytes.length + uptoBulk d + 1
  | (_, d) => uptoBulk d + 1
 end
def uptoSmall : (H : Type) → List (DataW H) → Bool := fun _ ds => decide (uptoBulkAll ds ≤ 1048576)
def OpenSpec.upto (s : _root_.Go.ChangeSpec) : _root_.Go.OpenSpec := { _root_.Go.OpenSpec.ofChange s with cond := some uptoSmall }

/-- 'laws.FnExactValidStrokes', WHERE WHAT IT READS IS OF BULK AT MOST 1048576: true; the input reads as it did. -/
def fnExactValidStrokesUptoRow : OpenClaim := { program := "ytkbemhjeflmppaa", sum := "ad8f6cf3a6bb786d43c33a72009712d09e7367b8427a3c6392975b3480d7633c", func := "loop.example/g01398/laws.FnExactValidStrokes", spec := "fnExactValidStrokes", plainKeys := false, apart := false, narrowed := true }
def FnExactValidStrokesUptoSaid : Prop := fnExactValidStrokesUptoRow.holds Try.pinned (OpenSpec.upto fnExactValidStrokesSpec)

/-- 'laws.FnExactValidChisel', WHERE WHAT IT READS IS OF BULK AT MOST 1048576: true; the input reads as it did. -/
def fnExactValidChiselUptoRow : OpenClaim := { program := "ytkbemhjeflmppaa", sum := "ad8f6cf3a6bb786d43c33a72009712d09e7367b8427a3c6392975b3480d7633c", func := "loop.example/g01398/laws.FnExactValidChisel", spec := "fnExactValidChisel", plainKeys := false, apart := false, narrowed := true }
def FnExactValidChiselUptoSaid : Prop := fnExactValidChiselUptoRow.holds Try.pinned (OpenSpec.upto fnExactValidChiselSpec)

/-- 'laws.FnExactDaysFor', WHERE WHAT IT READS IS OF BULK AT MOST 1048576: true; the input reads as it did. -/
def fnExactDaysForUptoRow : OpenClaim := { program := "ytkbemhjeflmppaa", sum := "ad8f6cf3a6bb786d43c33a72009712d09e7367b8427a3c6392975b3480d7633c", func := "loop.example/g01398/laws.FnExactDaysFor", spec := "fnExactDaysFor", unfollowed := true, recurses := true, plainKeys := false, leaving := true, apart := false, narrowed := true }
def FnExactDaysForUptoSaid : Prop := fnExactDaysForUptoRow.holds Try.pinned (OpenSpec.upto fnExactDaysForSpec)

/-- 'laws.FnExactLateLines', WHERE WHAT IT READS IS OF BULK AT MOST 1048576: true; the input reads as it did. -/
def fnExactLateLinesUptoRow : OpenClaim := { program := "ytkbemhjeflmppaa", sum := "ad8f6cf3a6bb786d43c33a72009712d09e7367b8427a3c6392975b3480d7633c", func := "loop.example/g01398/laws.FnExactLateLines", spec := "fnExactLateLines", unfollowed := true, recurses := true, plainKeys := false, leaving := true, apart := false, narrowed := true }
def FnExactLateLinesUptoSaid : Prop := fnExactLateLinesUptoRow.holds Try.pinned (OpenSpec.upto fnExactLateLinesSpec)

/-- 'laws.FnExactFewestLate', WHERE WHAT IT READS IS OF BULK AT MOST 1048576: true; the input reads as it did. -/
def fnExactFewestLateUptoRow : OpenClaim := { program := "ytkbemhjeflmppaa", sum := "ad8f6cf3a6bb786d43c33a72009712d09e7367b8427a3c6392975b3480d7633c", func := "loop.example/g01398/laws.FnExactFewestLate", spec := "fnExactFewestLate", unfollowed := true, recurses := true, plainKeys := false, leaving := true, apart := false, narrowed := true }
def FnExactFewestLateUptoSaid : Prop := fnExactFewestLateUptoRow.holds Try.pinned (OpenSpec.upto fnExactFewestLateSpec)

/-- 'laws.FnExactShareLines', WHERE WHAT IT READS IS OF BULK AT MOST 1048576: true; the input reads as it did. -/
def fnExactShareLinesUptoRow : OpenClaim := { program := "ytkbemhjeflmppaa", sum := "ad8f6cf3a6bb786d43c33a72009712d09e7367b8427a3c6392975b3480d7633c", func := "loop.example/g01398/laws.FnExactShareLines", spec := "fnExactShareLines", unfollowed := true, recurses := true, plainKeys := false, leaving := true, apart := false, narrowed := true }
def FnExactShareLinesUptoSaid : Prop := fnExactShareLinesUptoRow.holds Try.pinned (OpenSpec.upto fnExactShareLinesSpec)

/-- 'laws.FnExactShareAny', WHERE WHAT IT READS IS OF BULK AT MOST 1048576: true; the input reads as it did. -/
def fnExactShareAnyUptoRow : OpenClaim := { program := "ytkbemhjeflmppaa", sum := "ad8f6cf3a6bb786d43c33a72009712d09e7367b8427a3c6392975b3480d7633c", func := "loop.example/g01398/laws.FnExactShareAny", spec := "fnExactShareAny", unfollowed := true, recurses := true, plainKeys := false, leaving := true, apart := false, narrowed := true }
def FnExactShareAnyUptoSaid : Prop := fnExactShareAnyUptoRow.holds Try.pinned (OpenSpec.upto fnExactShareAnySpec)

/-- 'laws.FnExactLengthenAll', WHERE WHAT IT READS IS OF BULK AT MOST 1048576: true; the input reads as it did. -/
def fnExactLengthenAllUptoRow : OpenClaim := { program := "ytkbemhjeflmppaa", sum := "ad8f6cf3a6bb786d43c33a72009712d09e7367b8427a3c6392975b3480d7633c", func := "loop.example/g01398/laws.FnExactLengthenAll", spec := "fnExactLengthenAll", inPlace := ["internal/bytealg.IndexByteString", "internal/bytealg.IndexString"], unfollowed := true, recurses := true, named := ["internal/bytealg.MaxLen"], plainKeys := false, leaving := true, apart := false, narrowed := true }
def FnExactLengthenAllUptoSaid : Prop := fnExactLengthenAllUptoRow.holds Try.pinned (OpenSpec.upto fnExactLengthenAllSpec)

/-- 'laws.FnExactWithPair', WHERE WHAT IT READS IS OF BULK AT MOST 1048576: true; the input reads as it did. -/
def fnExactWithPairUptoRow : OpenClaim := { program := "ytkbemhjeflmppaa", sum := "ad8f6cf3a6bb786d43c33a72009712d09e7367b8427a3c6392975b3480d7633c", func := "loop.example/g01398/laws.FnExactWithPair", spec := "fnExactWithPair", unfollowed := true, recurses := true, plainKeys := false, leaving := true, apart := false, narrowed := true }
def FnExactWithPairUptoSaid : Prop := fnExactWithPairUptoRow.holds Try.pinned (OpenSpec.upto fnExactWithPairSpec)

/-- 'laws.FnExactLongestRow', WHERE WHAT IT READS IS OF BULK AT MOST 1048576: true; the input reads as it did. -/
def fnExactLongestRowUptoRow : OpenClaim := { program := "ytkbemhjeflmppaa", sum := "ad8f6cf3a6bb786d43c33a72009712d09e7367b8427a3c6392975b3480d7633c", func := "loop.example/g01398/laws.FnExactLongestRow", spec := "fnExactLongestRow", unfollowed := true, recurses := true, plainKeys := false, leaving := true, apart := false, narrowed := true }
def FnExactLongestRowUptoSaid : Prop := fnExactLongestRowUptoRow.holds Try.pinned (OpenSpec.upto fnExactLongestRowSpec)

end Rows
end Go.Proofs.Ytkbemhjeflmppaa
