/- NearestHand: the model and the program give the same answer for every argument. -/
import Derived.Test.YtjmkbdghenjlaaaDoorHn
import Derived.Test.YtjmkbdghenjlaaaDoorHnS
import Derived.Test.YtjmkbdghenjlaaaDoorHnA
import Derived.Test.YtjmkbdghenjlaaaDoorGs
namespace Go.Proofs.YtjmkbdghenjlaaaDoor
open Go.RowKit

set_option maxRecDepth 100000 in
set_option maxHeartbeats 16000000 in
theorem lawNearestHand_any (A : Option Addr) (ls : List Iss) (c : Nat) (hn : ls.length ≤ maxLen) (B : Option Addr) (gs : List Int) (d : Nat) (hm : gs.length ≤ maxLen) (w : World) (hG : ErrT w) (hl : IssOk w ls) (hA : IssAt w w.heap.size A ls) (hB : IntsAt w w.heap.size B gs) :
    Calls Tryd.prog 5 #[.slice A ls.length c, .slice B gs.length d] w fun e w' => e = .returned (.bool true) ∧ Below w.heap.size w w' := by
  have hmB := hm
  unfold maxLen at hmB
  by_cases htB : 1048576 < gs.length
  · have hd : decide ((1048576 : Int) < gs.length) = true := by simp; omega
    have hd' : decide (1048576 < gs.length) = true := by simp; omega
    clear hn hm hl hA hB
    go_enter Tryd.func5, Tryd.ntmps5
    go_wp2
    go_ret
    exact ⟨rfl, Below.refl _ _⟩
  have hd0 : decide ((1048576 : Int) < gs.length) = false := by simp; omega
  have hd1 : decide (1048576 < gs.length) = false := by simp; omega
  have hnB : gs.length ≤ 1048576 := by omega
  have HSZ := hide (szInt64SS_any A ls c w hn hl hA)
  have HTO := hide (fun (hs : shortI ls.length ls) W (hW : Below w.heap.size w W) => toInt64SS_any A ls c W hs (hl.go hW) (hA.go hW))
  have HTB := hide (fun W (hW : Below w.heap.size w W) => toInt64S_any B gs d W (hB.go hW) hnB)
  have HLM := hide (fun l h => (hl l h).1)
  have HSP := hide (fun (ls' : List Iss) (e : ls'.length = ls.length) (e2 : issD ls' = issD ls) A' c' B' d' W h1 h2 h3 => by
    have := specNearestHand_any A' ls' c' (by rw [e]; exact hn) B' gs d' hm W h1 h2 h3
    rw [e, e2] at this
    exact this)
  have HIM := hide (fun (ls' : List Iss) (e : ls'.length = ls.length) (e2 : issD ls' = issD ls) A' c' B' d' W h0 h1 h2 h3 => by
    have := implNearestHand_any A' ls' c' (by rw [e]; exact hn) B' gs d' hm W h0 h1 h2 h3
    rw [e, e2] at this
    exact this)
  have HQ := hide (fun A1 A2 ls1 ls2 c1 c2 W h1 h2 he h3 h4 h5 h6 => eqInt64SS_same A1 A2 ls1 ls2 ls.length c1 c2 W hn h1 h2 he h3 h4 h5 h6)
  have HQB := hide (fun A1 A2 c1 c2 W h1 h2 => eqInt64S_same A1 A2 gs c1 c2 W hm h1 h2)
  have HG := hide hG
  generalize nhR (issD ls) gs = V at *
  obtain ⟨n, hN⟩ : ∃ n, ls.length = n := ⟨_, rfl⟩
  have HN := hide hN
  rw [hN] at hn HSZ HTO HSP HIM HQ ⊢
  generalize gs.length = m at *
  clear hN hl hA hB hm htB hmB hG
  unfold maxLen at hn
  go_enter Tryd.func5, Tryd.ntmps5
  go_wp2_with fail
  refine HSZ.out.mono ?_
  rintro e w' ⟨⟨z, rfl, hz⟩, rfl⟩
  by_cases hneg : z < 0
  · have hdl : decide (z < 0) = true := by simpa using hneg
    clear hneg
    go_wp2
    go_ret
    exact ⟨rfl, Below.refl _ _⟩
  have hdl : decide (z < 0) = false := by simpa using hneg
  have HT := hide (HTO.out (hz (by omega)))
  clear hneg hz HTO HSZ
  go_wp2_with fail
  refine (HT.out _ (Below.refl _ _)).mono ?_
  rintro e w1 ⟨A1, l1, rfl, cp1, hb1⟩
  have hB1 := hb1
  have HC1 := hide cp1
  clear cp1 hb1
  go_wp2_with fail
  refine (HTB.out _ hB1).mono ?_
  rintro e w2 ⟨Q2, rfl, hQ2, hb2⟩
  have hB2 := hB1.trans (hb2.mono hB1.size)
  have K1 := hide (HC1.out.go hb2)
  have HQ2 := hide hQ2
  clear hB1 hQ2 hb2
  go_wp2_with fail
  refine (HSP.out l1 (K1.out.1.trans HN.out) K1.out.2.1 _ _ _ _ _ (K1.out.ok HLM.out) K1.out.2.2.1 HQ2.out.at_).mono ?_
  rintro e w3 ⟨rfl, hb3⟩
  have hB3 := hB2.trans (hb3.mono hB2.size)
  clear hB2 hb3 K1 HC1 HQ2
  go_wp2_with fail
  refine (HT.out _ hB3).mono ?_
  rintro e w4 ⟨A4, l4, rfl, cp4, hb4⟩
  have hB4 := hB3.trans (hb4.mono hB3.size)
  have HC4 := hide cp4
  clear cp4 hb4 hB3
  go_wp2_with fail
  refine (HTB.out _ hB4).mono ?_
  rintro e w5 ⟨Q5, rfl, hQ5, hb5⟩
  have hB5 := hB4.trans (hb5.mono hB4.size)
  have K5 := hide (HC4.out.go hb5)
  have HQ5 := hide hQ5
  clear hB4 hQ5 hb5
  go_wp2_with fail
  refine (HIM.out l4 (K5.out.1.trans HN.out) K5.out.2.1 _ _ _ _ _ (HG.out.below hB5) (K5.out.ok HLM.out) K5.out.2.2.1 HQ5.out.at_).mono ?_
  rintro e w6 ⟨rfl, hb6⟩
  have hB6 := hB5.trans (hb6.mono hB5.size)
  have K6 := hide (K5.out.go hb6)
  have HQ6 := hide (HQ5.out.go hb6)
  clear hB5 hb6 K5 HQ5
  go_wp2_with fail
  refine (HT.out _ hB6).mono ?_
  rintro e w7 ⟨A7, l7, rfl, cp7, hb7⟩
  have hB7 := hB6.trans (hb7.mono hB6.size)
  have K7 := hide (K6.out.go hb7)
  have HQ7 := hide (HQ6.out.go hb7)
  have HC7 := hide cp7
  clear hB6 hb7 cp7 K6 HQ6
  go_wp2_with fail
  refine (HQ.out _ _ l4 l7 _ _ _ (K7.out.1.trans HN.out) (HC7.out.1.trans HN.out) (HC7.out.2.1.trans K7.out.2.1.symm) (K7.out.ok HLM.out) (HC7.out.ok HLM.out) K7.out.2.2.1 HC7.out.2.2.1).mono ?_
  rintro e w8 ⟨rfl, hb8⟩
  have hB8 := hB7.trans (hb8.mono hB7.size)
  have HQ8 := hide (HQ7.out.go hb8)
  clear hB7 hb8 K7 HC7 HQ7
  go_wp2_with fail
  refine (HTB.out _ hB8).mono ?_
  rintro e w9 ⟨Q9, rfl, hQ9, hb9⟩
  have hB9 := hB8.trans (hb9.mono hB8.size)
  have HQ9 := hide (HQ8.out.go hb9)
  have HQX := hide hQ9
  clear hB8 hQ9 hb9 HQ8
  go_wp2_with fail
  refine (HQB.out _ _ _ _ _ HQ9.out.at_ HQX.out.at_).mono ?_
  rintro e w10 ⟨rfl, hb10⟩
  have hB10 := hB9.trans (hb10.mono hB9.size)
  go_wp2
  go_ret
  exact ⟨rfl, hB10⟩
end Go.Proofs.YtjmkbdghenjlaaaDoor
