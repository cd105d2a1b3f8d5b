/-
  No cell of these rows narrows 'for every input' (looked for: loops, veiled, ifaces, maps, wideKeys, modest, calm, conditions, laid).
  DERIVED. THE GIVEN ROWS OF THIS SEAT. 11 by the template 'for every input the law returns true; each argument reads behind the call as it read before'; 0 by the template 'total and deterministic' (their statements: YtgklhdacnklhdaaTotals.lean).
  GIVEN WITH THE SEED: the statements are not yours to turn. If you find one false, say at which input.
  Laid BY PROGRAM, IN A SANDBOX (cutbox-rows.mjs): the forced cells as the released guide's own fill.sh prints them over the translation 4ac728a806b00f82… (all of the seat's roots in one cut). By AI agents, Wed Nov 11 2026. No macro, syntax, notation, axiom, sorry.
-/
import Derived.Test.YtgklhdacnklhdaaChecked
import GoSem.Claim
import GoSem.ClaimJoined
import GoSem.ClaimMapViews
import Derived.JoinedTies
import Derived.KernelRfl
namespace Go.Proofs.Ytgklhdacnklhdaa
/- THE CELL 'sum', in the pinned program and in every row, IS THE sha256 OF THE DUMP (.gsa) THAT YtgklhdacnklhdaaProg.lean LOADS. Nothing in Lean hashes anything: it is a label: what it is worth is what the hold of that sum in a sandbox is worth. -/
noncomputable def Try.pinned : Pinned := { name := "ytgklhdacnklhdaa", sum := "4ac728a806b00f82530404106bc2f5e06c565215851fddfd467506382ecca789", checked := Try.checked }
namespace Rows
def none {H : Type} : Left H := { results := [], args := [] }

/-- 'laws.FnExactWithPair': WHATEVER THE INPUT: true; the input reads as it did. -/
def fnExactWithPairSpec : ChangeSpec := { name := "fnExactWithPair", fn := fun _ => fun
  | [d1, d2] => { results := [.lit (.bool true)], args := [d1, d2] }
  | _ => none }
def fnExactWithPairRow : OpenClaim := { program := "ytgklhdacnklhdaa", sum := "4ac728a806b00f82530404106bc2f5e06c565215851fddfd467506382ecca789", func := "loop.example/g01398/laws.FnExactWithPair", spec := "fnExactWithPair", unfollowed := true, recurses := true, plainKeys := false, apart := false }
def FnExactWithPairSaid : Prop := fnExactWithPairRow.holds Try.pinned (OpenSpec.ofChange fnExactWithPairSpec)

/-- ITS FALSE NEIGHBOUR: 'it returns false'. Refute it at one input. -/
def fnExactWithPairWrong : ChangeSpec := { name := "fnExactWithPair", fn := fun _ => fun
  | [d1, d2] => { results := [.lit (.bool false)], args := [d1, d2] }
  | _ => none }
def FnExactWithPairWrongFalsely : Prop := fnExactWithPairRow.holds Try.pinned (OpenSpec.ofChange fnExactWithPairWrong)

/-- 'laws.FnExactBestBreaks': WHATEVER THE INPUT: true; the input reads as it did. -/
def fnExactBestBreaksSpec : ChangeSpec := { name := "fnExactBestBreaks", fn := fun _ => fun
  | [d1, d2, d3] => { results := [.lit (.bool true)], args := [d1, d2, d3] }
  | _ => none }
def fnExactBestBreaksRow : OpenClaim := { program := "ytgklhdacnklhdaa", sum := "4ac728a806b00f82530404106bc2f5e06c565215851fddfd467506382ecca789", func := "loop.example/g01398/laws.FnExactBestBreaks", spec := "fnExactBestBreaks", inPlace := ["internal/bytealg.IndexByteString", "internal/bytealg.IndexString"], unfollowed := true, recurses := true, named := ["internal/bytealg.MaxLen"], plainKeys := false, apart := false }
def FnExactBestBreaksSaid : Prop := fnExactBestBreaksRow.holds Try.pinned (OpenSpec.ofChange fnExactBestBreaksSpec)

/-- ITS FALSE NEIGHBOUR: 'it returns false'. Refute it at one input. -/
def fnExactBestBreaksWrong : ChangeSpec := { name := "fnExactBestBreaks", fn := fun _ => fun
  | [d1, d2, d3] => { results := [.lit (.bool false)], args := [d1, d2, d3] }
  | _ => none }
def FnExactBestBreaksWrongFalsely : Prop := fnExactBestBreaksRow.holds Try.pinned (OpenSpec.ofChange fnExactBestBreaksWrong)

/-- 'laws.FnExactCountBreaks': WHATEVER THE INPUT: true; the input reads as it did. -/
def fnExactCountBreaksSpec : ChangeSpec := { name := "fnExactCountBreaks", fn := fun _ => fun
  | [d1, d2, d3] => { results := [.lit (.bool true)], args := [d1, d2, d3] }
  | _ => none }
def fnExactCountBreaksRow : OpenClaim := { program := "ytgklhdacnklhdaa", sum := "4ac728a806b00f82530404106bc2f5e06c565215851fddfd467506382ecca789", func := "loop.example/g01398/laws.FnExactCountBreaks", spec := "fnExactCountBreaks", inPlace := ["internal/bytealg.IndexByteString", "internal/bytealg.IndexString"], unfollowed := true, recurses := true, named := ["internal/bytealg.MaxLen"], plainKeys := false, apart := false }
def FnExactCountBreaksSaid : Prop := fnExactCountBreaksRow.holds Try.pinned (OpenSpec.ofChange fnExactCountBreaksSpec)

/-- ITS FALSE NEIGHBOUR: 'it returns false'. Refute it at one input. -/
def fnExactCountBreaksWrong : ChangeSpec := { name := "fnExactCountBreaks", fn := fun _ => fun
  | [d1, d2, d3] => { results := [.lit (.bool false)], args := [d1, d2, d3] }
  | _ => none }
def FnExactCountBreaksWrongFalsely : Prop := fnExactCountBreaksRow.holds Try.pinned (OpenSpec.ofChange fnExactCountBreaksWrong)

/-- 'laws.FnExactLengthenAll': WHATEVER THE INPUT: true; the input reads as it did. -/
def fnExactLengthenAllSpec : ChangeSpec := { name := "fnExactLengthenAll", fn := fun _ => fun
  | [d1, d2] => { results := [.lit (.bool true)], args := [d1, d2] }
  | _ => none }
def fnExactLengthenAllRow : OpenClaim := { program := "ytgklhdacnklhdaa", sum := "4ac728a806b00f82530404106bc2f5e06c565215851fddfd467506382ecca789", func := "loop.example/g01398/laws.FnExactLengthenAll", spec := "fnExactLengthenAll", inPlace := ["internal/bytealg.IndexByteString", "internal/bytealg.IndexString"], unfollowed := true, recurses := true, named := ["internal/bytealg.MaxLen"], plainKeys := false, apart := false }
def FnExactLengthenAllSaid : Prop := fnExactLengthenAllRow.holds Try.pinned (OpenSpec.ofChange fnExactLengthenAllSpec)

/-- ITS FALSE NEIGHBOUR: 'it returns false'. Refute it at one input. -/
def fnExactLengthenAllWrong : ChangeSpec := { name := "fnExactLengthenAll", fn := fun _ => fun
  | [d1, d2] => { results := [.lit (.bool false)], args := [d1, d2] }
  | _ => none }
def FnExactLengthenAllWrongFalsely : Prop := fnExactLengthenAllRow.holds Try.pinned (OpenSpec.ofChange fnExactLengthenAllWrong)

/-- 'laws.FnExactValidSystem': WHATEVER THE INPUT: true; the input reads as it did. -/
def fnExactValidSystemSpec : ChangeSpec := { name := "fnExactValidSystem", fn := fun _ => fun
  | [d] => { results := [.lit (.bool true)], args := [d] }
  | _ => none }
def fnExactValidSystemRow : OpenClaim := { program := "ytgklhdacnklhdaa", sum := "4ac728a806b00f82530404106bc2f5e06c565215851fddfd467506382ecca789", func := "loop.example/g01398/laws.FnExactValidSystem", spec := "fnExactValidSystem", inPlace := ["internal/bytealg.Compare"], plainKeys := false, apart := false }
def FnExactValidSystemSaid : Prop := fnExactValidSystemRow.holds Try.pinned (OpenSpec.ofChange fnExactValidSystemSpec)

/-- ITS FALSE NEIGHBOUR: 'it returns false'. Refute it at one input. -/
def fnExactValidSystemWrong : ChangeSpec := { name := "fnExactValidSystem", fn := fun _ => fun
  | [d] => { results := [.lit (.bool false)], args := [d] }
  | _ => none }
def FnExactValidSystemWrongFalsely : Prop := fnExactValidSystemRow.holds Try.pinned (OpenSpec.ofChange fnExactValidSystemWrong)

/-- 'laws.FnExactSameSystem': WHATEVER THE INPUT: true; the input reads as it did. -/
def fnExactSameSystemSpec : ChangeSpec := { name := "fnExactSameSystem", fn := fun _ => fun
  | [d1, d2] => { results := [.lit (.bool true)], args := [d1, d2] }
  | _ => none }
def fnExactSameSystemRow : OpenClaim := { program := "ytgklhdacnklhdaa", sum := "4ac728a806b00f82530404106bc2f5e06c565215851fddfd467506382ecca789", func := "loop.example/g01398/laws.FnExactSameSystem", spec := "fnExactSameSystem", plainKeys := false, apart := false }
def FnExactSameSystemSaid : Prop := fnExactSameSystemRow.holds Try.pinned (OpenSpec.ofChange fnExactSameSystemSpec)

/-- ITS FALSE NEIGHBOUR: 'it returns false'. Refute it at one input. -/
def fnExactSameSystemWrong : ChangeSpec := { name := "fnExactSameSystem", fn := fun _ => fun
  | [d1, d2] => { results := [.lit (.bool false)], args := [d1, d2] }
  | _ => none }
def FnExactSameSystemWrongFalsely : Prop := fnExactSameSystemRow.holds Try.pinned (OpenSpec.ofChange fnExactSameSystemWrong)

/-- 'laws.FnExactOldSystem': WHATEVER THE INPUT: true; the input reads as it did. -/
def fnExactOldSystemSpec : ChangeSpec := { name := "fnExactOldSystem", fn := fun _ => fun
  | [d] => { results := [.lit (.bool true)], args := [d] }
  | _ => none }
def fnExactOldSystemRow : OpenClaim := { program := "ytgklhdacnklhdaa", sum := "4ac728a806b00f82530404106bc2f5e06c565215851fddfd467506382ecca789", func := "loop.example/g01398/laws.FnExactOldSystem", spec := "fnExactOldSystem", plainKeys := false, apart := false }
def FnExactOldSystemSaid : Prop := fnExactOldSystemRow.holds Try.pinned (OpenSpec.ofChange fnExactOldSystemSpec)

/-- ITS FALSE NEIGHBOUR: 'it returns false'. Refute it at one input. -/
def fnExactOldSystemWrong : ChangeSpec := { name := "fnExactOldSystem", fn := fun _ => fun
  | [d] => { results := [.lit (.bool false)], args := [d] }
  | _ => none }
def FnExactOldSystemWrongFalsely : Prop := fnExactOldSystemRow.holds Try.pinned (OpenSpec.ofChange fnExactOldSystemWrong)

/-- 'laws.FnExactPlainSystem': WHATEVER THE INPUT: true; the input reads as it did. -/
def fnExactPlainSystemSpec : ChangeSpec := { name := "fnExactPlainSystem", fn := fun _ => fun
  | [d] => { results := [.lit (.bool true)], args := [d] }
  | _ => none }
def fnExactPlainSystemRow : OpenClaim := { program := "ytgklhdacnklhdaa", sum := "4ac728a806b00f82530404106bc2f5e06c565215851fddfd467506382ecca789", func := "loop.example/g01398/laws.FnExactPlainSystem", spec := "fnExactPlainSystem", inPlace := ["internal/bytealg.Compare"], plainKeys := false, apart := false }
def FnExactPlainSystemSaid : Prop := fnExactPlainSystemRow.holds Try.pinned (OpenSpec.ofChange fnExactPlainSystemSpec)

/-- ITS FALSE NEIGHBOUR: 'it returns false'. Refute it at one input. -/
def fnExactPlainSystemWrong : ChangeSpec := { name := "fnExactPlainSystem", fn := fun _ => fun
  | [d] => { results := [.lit (.bool false)], args := [d] }
  | _ => none }
def FnExactPlainSystemWrongFalsely : Prop := fnExactPlainSystemRow.holds Try.pinned (OpenSpec.ofChange fnExactPlainSystemWrong)

/-- 'laws.FnExactGreedyFor': WHATEVER THE INPUT: true; the input reads as it did. -/
def fnExactGreedyForSpec : ChangeSpec := { name := "fnExactGreedyFor", fn := fun _ => fun
  | [d1, d2] => { results := [.lit (.bool true)], args := [d1, d2] }
  | _ => none }
def fnExactGreedyForRow : OpenClaim := { program := "ytgklhdacnklhdaa", sum := "4ac728a806b00f82530404106bc2f5e06c565215851fddfd467506382ecca789", func := "loop.example/g01398/laws.FnExactGreedyFor", spec := "fnExactGreedyFor", inPlace := ["internal/bytealg.Compare"], unfollowed := true, recurses := true, plainKeys := false, apart := false }
def FnExactGreedyForSaid : Prop := fnExactGreedyForRow.holds Try.pinned (OpenSpec.ofChange fnExactGreedyForSpec)

/-- ITS FALSE NEIGHBOUR: 'it returns false'. Refute it at one input. -/
def fnExactGreedyForWrong : ChangeSpec := { name := "fnExactGreedyFor", fn := fun _ => fun
  | [d1, d2] => { results := [.lit (.bool false)], args := [d1, d2] }
  | _ => none }
def FnExactGreedyForWrongFalsely : Prop := fnExactGreedyForRow.holds Try.pinned (OpenSpec.ofChange fnExactGreedyForWrong)

/-- 'laws.FnExactGreatestOf': WHATEVER THE INPUT: true; the input reads as it did. -/
def fnExactGreatestOfSpec : ChangeSpec := { name := "fnExactGreatestOf", fn := fun _ => fun
  | [d1, d2] => { results := [.lit (.bool true)], args := [d1, d2] }
  | _ => none }
def fnExactGreatestOfRow : OpenClaim := { program := "ytgklhdacnklhdaa", sum := "4ac728a806b00f82530404106bc2f5e06c565215851fddfd467506382ecca789", func := "loop.example/g01398/laws.FnExactGreatestOf", spec := "fnExactGreatestOf", inPlace := ["internal/bytealg.Compare", "internal/abi.NoEscape", "internal/bytealg.MakeNoZero"], recurses := true, plainKeys := false, apart := false }
def FnExactGreatestOfSaid : Prop := fnExactGreatestOfRow.holds Try.pinned (OpenSpec.ofChange fnExactGreatestOfSpec)

/-- ITS FALSE NEIGHBOUR: 'it returns false'. Refute it at one input. -/
def fnExactGreatestOfWrong : ChangeSpec := { name := "fnExactGreatestOf", fn := fun _ => fun
  | [d1, d2] => { results := [.lit (.bool false)], args := [d1, d2] }
  | _ => none }
def FnExactGreatestOfWrongFalsely : Prop := fnExactGreatestOfRow.holds Try.pinned (OpenSpec.ofChange fnExactGreatestOfWrong)

/-- 'laws.FnExactCountRight': WHATEVER THE INPUT: true; the input reads as it did. -/
def fnExactCountRightSpec : ChangeSpec := { name := "fnExactCountRight", fn := fun _ => fun
  | [d1, d2, d3] => { results := [.lit (.bool true)], args := [d1, d2, d3] }
  | _ => none }
def fnExactCountRightRow : OpenClaim := { program := "ytgklhdacnklhdaa", sum := "4ac728a806b00f82530404106bc2f5e06c565215851fddfd467506382ecca789", func := "loop.example/g01398/laws.FnExactCountRight", spec := "fnExactCountRight", inPlace := ["internal/bytealg.Compare"], unfollowed := true, recurses := true, plainKeys := false, apart := false }
def FnExactCountRightSaid : Prop := fnExactCountRightRow.holds Try.pinned (OpenSpec.ofChange fnExactCountRightSpec)

/-- ITS FALSE NEIGHBOUR: 'it returns false'. Refute it at one input. -/
def fnExactCountRightWrong : ChangeSpec := { name := "fnExactCountRight", fn := fun _ => fun
  | [d1, d2, d3] => { results := [.lit (.bool false)], args := [d1, d2, d3] }
  | _ => none }
def FnExactCountRightWrongFalsely : Prop := fnExactCountRightRow.holds Try.pinned (OpenSpec.ofChange fnExactCountRightWrong)

/- THE SECOND FORM. 'bulk': how many values and letters a reading holds, each counted each time it is reached (what is shared counts as often as it is met; a slice's spare places count too). A statement '..UptoSaid' is the law's where the arguments, and the package variables that the reading takes, are together of bulk at most 1048576: NARROWER than '..Said'. Prove '..Said' where nothing that the law and all that it calls make is longer than what came in: it says more and counts as full. Else prove '..UptoSaid'. A law counts once. -/
mutual
def uptoBulk {H : Type} : DataW H → Nat
  | .lit (.string bytes) => bytes.length + 1
  | .lit _ => 1
  | .nil => 1
  | .ptr d => uptoBulk d + 1
  | .slice elems spare => uptoBulkAll elems + uptoBulkAll spare + 1
  | .agg parts => uptoBulkAll parts + 1
  | .iface _ d => uptoBulk d + 1
  | .map entries => uptoBulkEntries entries + 1
  | .held _ => 1
def uptoBulkAll {H : Type} : List (DataW H) → Nat
  | [] => 0
  | d :: r => uptoBulk d + uptoBulkAll r
def uptoBulkEntries {H : Type} : List (Lit × DataW H) → Nat
  | [] => 0
  | x :: r => uptoBulkEntry x + uptoBulkEntries r
def uptoBulkEntry {H : Type} : Lit × DataW H → Nat
  | (.string bytes, d) => bytes.length + uptoBulk d + 1
  | (_, d) => uptoBulk d + 1
 end
def uptoSmall : (H : Type) → List (DataW H) → Bool := fun _ ds => decide (uptoBulkAll ds ≤ 1048576)
def OpenSpec.upto (s : _root_.Go.ChangeSpec) : _root_.Go.OpenSpec := { _root_.Go.OpenSpec.ofChange s with cond := some uptoSmall }

/-- 'laws.FnExactWithPair', WHERE WHAT IT READS IS OF BULK AT MOST 1048576: true; the input reads as it did. -/
def fnExactWithPairUptoRow : OpenClaim := { program := "ytgklhdacnklhdaa", sum := "4ac728a806b00f82530404106bc2f5e06c565215851fddfd467506382ecca789", func := "loop.example/g01398/laws.FnExactWithPair", spec := "fnExactWithPair", unfollowed := true, recurses := true, plainKeys := false, apart := false, narrowed := true }
def FnExactWithPairUptoSaid : Prop := fnExactWithPairUptoRow.holds Try.pinned (OpenSpec.upto fnExactWithPairSpec)

/-- 'laws.FnExactBestBreaks', WHERE WHAT IT READS IS OF BULK AT MOST 1048576: true; the input reads as it did. -/
def fnExactBestBreaksUptoRow : OpenClaim := { program := "ytgklhdacnklhdaa", sum := "4ac728a806b00f82530404106bc2f5e06c565215851fddfd467506382ecca789", func := "loop.example/g01398/laws.FnExactBestBreaks", spec := "fnExactBestBreaks", inPlace := ["internal/bytealg.IndexByteString", "internal/bytealg.IndexString"], unfollowed := true, recurses := true, named := ["internal/bytealg.MaxLen"], plainKeys := false, apart := false, narrowed := true }
def FnExactBestBreaksUptoSaid : Prop := fnExactBestBreaksUptoRow.holds Try.pinned (OpenSpec.upto fnExactBestBreaksSpec)

/-- 'laws.FnExactCountBreaks', WHERE WHAT IT READS IS OF BULK AT MOST 1048576: true; the input reads as it did. -/
def fnExactCountBreaksUptoRow : OpenClaim := { program := "ytgklhdacnklhdaa", sum := "4ac728a806b00f82530404106bc2f5e06c565215851fddfd467506382ecca789", func := "loop.example/g01398/laws.FnExactCountBreaks", spec := "fnExactCountBreaks", inPlace := ["internal/bytealg.IndexByteString", "internal/bytealg.IndexString"], unfollowed := true, recurses := true, named := ["internal/bytealg.MaxLen"], plainKeys := false, apart := false, narrowed := true }
def FnExactCountBreaksUptoSaid : Prop := fnExactCountBreaksUptoRow.holds Try.pinned (OpenSpec.upto fnExactCountBreaksSpec)

/-- 'laws.FnExactLengthenAll', WHERE WHAT IT READS IS OF BULK AT MOST 1048576: true; the input reads as it did. -/
def fnExactLengthenAllUptoRow : OpenClaim := { program := "ytgklhdacnklhdaa", sum := "4ac728a806b00f82530404106bc2f5e06c565215851fddfd467506382ecca789", func := "loop.example/g01398/laws.FnExactLengthenAll", spec := "fnExactLengthenAll", inPlace := ["internal/bytealg.IndexByteString", "internal/bytealg.IndexString"], unfollowed := true, recurses := true, named := ["internal/bytealg.MaxLen"], plainKeys := false, apart := false, narrowed := true }
def FnExactLengthenAllUptoSaid : Prop := fnExactLengthenAllUptoRow.holds Try.pinned (OpenSpec.upto fnExactLengthenAllSpec)

/-- 'laws.FnExactValidSystem', WHERE WHAT IT READS IS OF BULK AT MOST 1048576: true; the input reads as it did. -/
def fnExactValidSystemUptoRow : OpenClaim := { program := "ytgklhdacnklhdaa", sum := "4ac728a806b00f82530404106bc2f5e06c565215851fddfd467506382ecca789", func := "loop.example/g01398/laws.FnExactValidSystem", spec := "fnExactValidSystem", inPlace := ["internal/bytealg.Compare"], plainKeys := false, apart := false, narrowed := true }
def FnExactValidSystemUptoSaid : Prop := fnExactValidSystemUptoRow.holds Try.pinned (OpenSpec.upto fnExactValidSystemSpec)

/-- 'laws.FnExactSameSystem', WHERE WHAT IT READS IS OF BULK AT MOST 1048576: true; the input reads as it did. -/
def fnExactSameSystemUptoRow : OpenClaim := { program := "ytgklhdacnklhdaa", sum := "4ac728a806b00f82530404106bc2f5e06c565215851fddfd467506382ecca789", func := "loop.example/g01398/laws.FnExactSameSystem", spec := "fnExactSameSystem", plainKeys := false, apart := false, narrowed := true }
def FnExactSameSystemUptoSaid : Prop := fnExactSameSystemUptoRow.holds Try.pinned (OpenSpec.upto fnExactSameSystemSpec)

/-- 'laws.FnExactOldSystem', WHERE WHAT IT READS IS OF BULK AT MOST 1048576: true; the input reads as it did. -/
def fnExactOldSystemUptoRow : OpenClaim := { program := "ytgklhdacnklhdaa", sum := "4ac728a806b00f82530404106bc2f5e06c565215851fddfd467506382ecca789", func := "loop.example/g01398/laws.FnExactOldSystem", spec := "fnExactOldSystem", plainKeys := false, apart := false, narrowed := true }
def FnExactOldSystemUptoSaid : Prop := fnExactOldSystemUptoRow.holds Try.pinned (OpenSpec.upto fnExactOldSystemSpec)

/-- 'laws.FnExactPlainSystem', WHERE WHAT IT READS IS OF BULK AT MOST 1048576: true; the input reads as it did. -/
def fnExactPlainSystemUptoRow : OpenClaim := { program := "ytgklhdacnklhdaa", sum := "4ac728a806b00f82530404106bc2f5e06c565215851fddfd467506382ecca789", func := "loop.example/g01398/laws.FnExactPlainSystem", spec := "fnExactPlainSystem", inPlace := ["internal/bytealg.Compare"], plainKeys := false, apart := false, narrowed := true }
def FnExactPlainSystemUptoSaid : Prop := fnExactPlainSystemUptoRow.holds Try.pinned (OpenSpec.upto fnExactPlainSystemSpec)

/-- 'laws.FnExactGreedyFor', WHERE WHAT IT READS IS OF BULK AT MOST 1048576: true; the input reads as it did. -/
def fnExactGreedyForUptoRow : OpenClaim := { program := "ytgklhdacnklhdaa", sum := "4ac728a806b00f82530404106bc2f5e06c565215851fddfd467506382ecca789", func := "loop.example/g01398/laws.FnExactGreedyFor", spec := "fnExactGreedyFor", inPlace := ["internal/bytealg.Compare"], unfollowed := true, recurses := true, plainKeys := false, apart := false, narrowed := true }
def FnExactGreedyForUptoSaid : Prop := fnExactGreedyForUptoRow.holds Try.pinned (OpenSpec.upto fnExactGreedyForSpec)

/-- 'laws.FnExactGreatestOf', WHERE WHAT IT READS IS OF BULK AT MOST 1048576: true; the input reads as it did. -/
def fnExactGreatestOfUptoRow : OpenClaim := { program := "ytgklhdacnklhdaa", sum := "4ac728a806b00f82530404106bc2f5e06c565215851fddfd467506382ecca789", func := "loop.example/g01398/laws.FnExactGreatestOf", spec := "fnExactGreatestOf", inPlace := ["internal/bytealg.Compare", "internal/abi.NoEscape", "internal/bytealg.MakeNoZero"], recurses := true, plainKeys := false, apart := false, narrowed := true }
def FnExactGreatestOfUptoSaid : Prop := fnExactGreatestOfUptoRow.holds Try.pinned (OpenSpec.upto fnExactGreatestOfSpec)

/-- 'laws.FnExactCountRight', WHERE WHAT IT READS IS OF BULK AT MOST 1048576: true; the input reads as it did. -/
def fnExactCountRightUptoRow : OpenClaim := { program := "ytgklhdacnklhdaa", sum := "4ac728a806b00f82530404106bc2f5e06c565215851fddfd467506382ecca789", func := "loop.example/g01398/laws.FnExactCountRight", spec := "fnExactCountRight", inPlace := ["internal/bytealg.Compare"], unfollowed := true, recurses := true, plainKeys := false, apart := false, narrowed := true }
def FnExactCountRightUptoSaid : Prop := fnExactCountRightUptoRow.holds Try.pinned (OpenSpec.upto fnExactCountRightSpec)

end Rows
end Go.Proofs.Ytgklhdacnklhdaa
