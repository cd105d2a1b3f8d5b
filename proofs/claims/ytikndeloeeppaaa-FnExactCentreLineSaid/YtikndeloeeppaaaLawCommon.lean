/- The face's part of every law. -/
import Derived.Test.YtikndeloeeppaaaSpecFace2
import Derived.Test.YtikndeloeeppaaaImplFace
import Derived.Test.YtikndeloeeppaaaFace2
import Derived.Test.YtikndeloeeppaaaFace3
import Derived.Test.YtikndeloeeppaaaRegion2
namespace Go.Proofs.Ytikndeloeeppaaa
open Go.RowKit

theorem loadAt_over {P : Program} {W : World} {b o : Nat} {cs : List Value} {ty : TypeId} {d : TypeDesc} (hc : W.rangeAt b o cs) (hlt : b < W.heap.size)
    (hu : P.underlying ty = some d) (hd : d.isRow = true) (hi : (P.info? ty).map (·.size) = some cs.length) :
    ∀ w', Below W.heap.size W w' → (Instr.loadAt ty (.pointer (some ⟨b, o, none⟩))).run P w' = .ok (.agg cs.toArray) w' :=
  fun w' h => run_loadAt_mid w' b o ty cs d (rangeAt_below hc h hlt) hu hd hi
theorem PairsAt.go {W w' : World} {B : Nat} {A : Option Addr} {ps : List (Int × Int × Int)} (h : PairsAt W B A ps) (hb : Below W.heap.size W w') (hB : B ≤ W.heap.size) : PairsAt w' w'.heap.size A ps :=
  (h.below (hb.mono hB)).mono (Nat.le_trans hB hb.size)
theorem PairsIn.go {W w' : World} {L : Nat} {A : Option Addr} {ps : List (Int × Int × Int)} (h : PairsIn W L A ps) (hb : Below W.heap.size W w') : PairsAt w' w'.heap.size A ps :=
  (h.below hb (Nat.le_refl _)).at_
theorem rangeAt_over {W w' : World} {b o : Nat} {cs : List Value} (h : W.rangeAt b o cs) (hb : Below W.heap.size W w') (hlt : b < W.heap.size) : w'.rangeAt b o cs := rangeAt_below h hb hlt
/-- Two rows are kept in every world over W. -/
theorem keepS {W w' : World} {b b' : Nat} {cs cs' : List Value} (hb : Below W.heap.size W w') (r : W.rangeAt b 0 cs) (hlt : b < W.heap.size) (r' : W.rangeAt b' 0 cs') (hlt' : b' < W.heap.size) :
    Below W.heap.size W w' ∧ w'.rangeAt b 0 cs ∧ w'.rangeAt b' 0 cs' := ⟨hb, rangeAt_below r hb hlt, rangeAt_below r' hb hlt'⟩
/-- A face that has come back from toFace is laid in a variable. -/
theorem stored_face (w : World) (F : Fc) (hW : F.W.length = 26) (sl : Value) : ∃ W5, W5 = (w.alloc (.cells #[.int .i8 0, .int .i8 0, .int .i8 0, .int .i8 0, .int .i8 0, .int .i8 0, .int .i8 0, .int .i8 0, .int .i8 0, .int .i8 0, .int .i8 0, .int .i8 0, .int .i8 0, .int .i8 0, .int .i8 0, .int .i8 0, .int .i8 0, .int .i8 0, .int .i8 0, .int .i8 0, .int .i8 0, .int .i8 0, .int .i8 0, .int .i8 0, .int .i8 0, .int .i8 0, .int .i8 0, .int .i8 0, .slice none 0 0] 32)).setCells w.heap.size 0 (fc F sl).toArray.toList ∧ W5.rangeAt w.heap.size 0 (fc F sl) ∧
    Below w.heap.size w W5 ∧ w.heap.size < W5.heap.size ∧ W5.there w.heap.size 0 29 ∧ (w.alloc (.cells #[.int .i8 0, .int .i8 0, .int .i8 0, .int .i8 0, .int .i8 0, .int .i8 0, .int .i8 0, .int .i8 0, .int .i8 0, .int .i8 0, .int .i8 0, .int .i8 0, .int .i8 0, .int .i8 0, .int .i8 0, .int .i8 0, .int .i8 0, .int .i8 0, .int .i8 0, .int .i8 0, .int .i8 0, .int .i8 0, .int .i8 0, .int .i8 0, .int .i8 0, .int .i8 0, .int .i8 0, .int .i8 0, .slice none 0 0] 32)).there w.heap.size 0 (fc F sl).toArray.size := by
  have t1 : (w.alloc (.cells #[.int .i8 0, .int .i8 0, .int .i8 0, .int .i8 0, .int .i8 0, .int .i8 0, .int .i8 0, .int .i8 0, .int .i8 0, .int .i8 0, .int .i8 0, .int .i8 0, .int .i8 0, .int .i8 0, .int .i8 0, .int .i8 0, .int .i8 0, .int .i8 0, .int .i8 0, .int .i8 0, .int .i8 0, .int .i8 0, .int .i8 0, .int .i8 0, .int .i8 0, .int .i8 0, .int .i8 0, .int .i8 0, .slice none 0 0] 32)).there w.heap.size 0 29 := there_newg rfl rfl
  refine ⟨_, rfl, ?_, ?_, ?_, ?_, ?_⟩
  · exact World.rangeAt_setCells_same _ _ _ _ (by rw [fc_length hW]; exact t1)
  · exact below_setCells _ _ _ _ ((Below.refl _ _).alloc (Nat.le_refl _) _) (Nat.le_refl _)
  · rw [size_setCells]; simp
  · exact World.there_setCells t1 _ _ _
  · simp only [List.size_toArray]; rw [fc_length hW]; exact t1
end Go.Proofs.Ytikndeloeeppaaa
