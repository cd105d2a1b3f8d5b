/- BestShift of the model. -/
import Derived.Test.YtngondeaeipcfaaDoorBsS
import Derived.Test.YtngondeaeipcfaaDoorBsK
namespace Go.Proofs.YtngondeaeipcfaaDoor
open Go Go.RowKit

set_option maxRecDepth 100000 in
set_option maxHeartbeats 4000000 in
theorem specBestShift_any (F : Fc) (hF : F.ok) (A : Option Addr) (c : Nat) (s : ByteArray) (hs : s.size ≤ maxLen) (t : ByteArray) (ht : t.size ≤ maxLen) (w : World) (hA : PairsAt w w.heap.size A F.ps) :
    Calls Tryd.prog 52 #[.agg (fc F (.slice A F.ps.length c)).toArray, .string s, .string t] w fun e w' => e = .returned (.tuple #[.int .i64 (bsT F s.data.toList t.data.toList).1, .int .i64 (bsT F s.data.toList t.data.toList).2.1, .int .i64 (bsT F s.data.toList t.data.toList).2.2]) ∧ Below w.heap.size w w' := by
  have b0 : Below w.heap.size w (w.alloc (.cells (fc F (.slice A F.ps.length c)).toArray 53)) := (Below.refl _ _).alloc (Nat.le_refl _) _
  have r0 := rangeAt_new w (fc F (.slice A F.ps.length c)) 53
  have s0 : w.heap.size < (w.alloc (.cells (fc F (.slice A F.ps.length c)).toArray 53)).heap.size := by simp
  have hA0 := (hA.below b0).mono b0.size
  have HLI := hide (l06Lines_any F hF w.heap.size A c s t hs ht true _ r0 hA0)
  cases hb : ktB F s.data.toList t.data.toList
  · rw [bsT_no hb]
    rw [hb] at HLI
    clear hA hA0 r0 hb
    go_enter Tryd.func52, Tryd.ntmps52
    go_wp2_with fail
    refine HLI.out.mono ?_
    rintro e w1 ⟨rfl, hb1⟩
    have hB1 := b0.trans (hb1.mono b0.size)
    go_wp2
    go_ret3
    exact ⟨rfl, hB1⟩
  obtain ⟨hv, ht1, ht2⟩ := kt_parts hb
  rw [bsT_ok hb]
  rw [hb] at HLI
  have HK := hide (fun W (hW : Below (w.alloc (.cells (fc F (.slice A F.ps.length c)).toArray 53)).heap.size (w.alloc (.cells (fc F (.slice A F.ps.length c)).toArray 53)) W) => l06Shift_any F hF w.heap.size A c s t W hv ht1 ht2 (rangeAt_below r0 hW s0) (Nat.lt_of_lt_of_le s0 hW.size) (hA0.go hW (Nat.le_refl _)))
  clear hA hA0 r0 hb hv ht1 ht2
  generalize bsG (cntS (psL F s.data.toList) (psL F t.data.toList)) 400 = V at *
  go_enter Tryd.func52, Tryd.ntmps52
  go_wp2_with fail
  refine HLI.out.mono ?_
  rintro e w1 ⟨rfl, hb1⟩
  have hB1 := b0.trans (hb1.mono b0.size)
  go_wp2_with fail
  refine (HK.out _ hb1).mono ?_
  rintro e w2 ⟨rfl, hb2⟩
  have hB2 := hB1.trans (hb2.mono hB1.size)
  go_wp2
  go_ret3
  exact ⟨rfl, hB2⟩
end Go.Proofs.YtngondeaeipcfaaDoor
