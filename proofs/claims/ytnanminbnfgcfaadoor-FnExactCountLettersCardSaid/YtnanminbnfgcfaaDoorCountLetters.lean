/- CountLetters: the model and the program give the same answer for every argument, and what comes back owns its memory. -/
import Derived.Test.YtnanminbnfgcfaaDoorCtI
import Derived.Test.YtnanminbnfgcfaaDoorG5
import Derived.Test.YtnanminbnfgcfaaDoorMarkG
import Derived.Test.YtnanminbnfgcfaaDoorScript
import Derived.Test.YtnanminbnfgcfaaDoorG2
namespace Go.Proofs.YtnanminbnfgcfaaDoor
open Go.RowKit

set_option maxRecDepth 100000 in
set_option maxHeartbeats 16000000 in
theorem lawCountLetters_any (s : ByteArray) (hs : s.size ≤ maxLen) (w : World) (hG : Glob w)  :
    Calls Tryd.prog 4 #[.string s] w fun e w' => e = .returned (.bool true) ∧ Below w.heap.size w w' := by
  have hm_s := hs
  unfold maxLen at hm_s
  by_cases ht_s : 1048576 < s.size
  · have hd : decide ((1048576 : Int) < s.size) = true := by simp; omega
    have hd' : decide (1048576 < s.size) = true := by simp; omega
    go_enter Tryd.func4, Tryd.ntmps4
    go_wp2
    go_ret
    exact ⟨rfl, Below.refl _ _⟩
  have hd0_s : decide ((1048576 : Int) < s.size) = false := by simp; omega
  have hd1_s : decide (1048576 < s.size) = false := by simp; omega
  have hn_s : s.size ≤ 1048576 := by omega
  clear ht_s hm_s
  have hRn : (clR s.data.toList).length ≤ 1048577 := clR_len _
  have HSP := hide (fun  w => specCountLetters_any s hs w)
  have HIM := hide (fun  w => implCountLetters_any s hs w)
  generalize clR s.data.toList = R at HSP HIM hRn
  generalize clC s.data.toList = C at HSP HIM
  go_enter Tryd.func4, Tryd.ntmps4
  go_wp2_with fail
  refine (HSP.out  _ ).mono ?_
  rintro e w1 ⟨Aw, cw, rfl, hPw, hb1⟩
  have hB1 := hb1
  have z1 := hb1.size
  have pw_1 := hPw.at_
  clear hPw
  go_wp2_with fail
  refine (HIM.out  _ (hG.below hB1)).mono ?_
  rintro e w2 ⟨Ag, cg, rfl, hPg, hb2⟩
  have hB2 := hB1.trans (hb2.mono hB1.size)
  have z2 := hb2.size
  have pw_2 := pw_1.below (hb2.mono (by omega))
  clear pw_1 hB1
  have bd_g := blkI_bd hPg
  go_wp2_with fail
  refine (eqInt64S_same Ag Aw R cg cw _ (by unfold maxLen; omega) hPg.at_ (pw_2.mono (by omega))).mono ?_
  rintro e w3 ⟨rfl, hb3⟩
  have hB3 := hB2.trans (hb3.mono hB2.size)
  have z3 := hb3.size
  have pw_3 := pw_2.below (hb3.mono (by omega))
  have pg_3 := hPg.go hb3
  clear pw_2 hPg hB2
  go_wp2_with fail
  refine (markI1_any Ag R _ _ _ (by omega) pg_3).mono ?_
  rintro e w4 ⟨rfl, hg4, hM⟩
  have hB4 := hB3.trans (grown_toBelow hg4 (by omega) (fun k hk => by have := bd_g k hk; omega))
  have z4 := hg4.size
  have pw_4 := grown_intsAt hg4 pw_3 (by omega) (fun k hk => by have := bd_g k hk; omega)
  clear pw_3 hB3
  clear pg_3
  have hdq : decide (((1 + R.length : Nat) : Int) < 0) = false := by simp; omega
  have HH := hide (fun (W : World) (L : Nat) (h : IntsIn W L Ag (marksI 1 R.length)) => heldI1_any Ag R.length cg L W (by omega) h)
  generalize ((1 + R.length : Nat) : Int) = Qn at hdq HH ⊢
  go_wp2_with fail
  refine (HH.out _ _ hM).mono ?_
  rintro e w5 ⟨rfl, hb5⟩
  have hB5 := hB4.trans (hb5.mono hB4.size)
  have z5 := hb5.size
  have pw_5 := pw_4.below (hb5.mono (by omega))
  have pm_5 := hM.go hb5
  clear pw_4 hM hB4
  go_wp2_with fail
  refine (HIM.out  _ (hG.below hB5)).mono ?_
  rintro e w6 ⟨Ah, ch, rfl, hPh, hb6⟩
  have hB6 := hB5.trans (hb6.mono hB5.size)
  have z6 := hb6.size
  have pw_6 := pw_5.below (hb6.mono (by omega))
  have pm_6 := pm_5.go hb6
  clear pw_5 pm_5 hB5
  have bd_h := blkI_bd hPh
  go_wp2_with fail
  refine (eqInt64S_same Ah Aw R ch cw _ (by unfold maxLen; omega) hPh.at_ (pw_6.mono (by omega))).mono ?_
  rintro e w7 ⟨rfl, hb7⟩
  have hB7 := hB6.trans (hb7.mono hB6.size)
  have z7 := hb7.size
  have pw_7 := pw_6.below (hb7.mono (by omega))
  have pm_7 := pm_6.go hb7
  have ph_7 := hPh.go hb7
  clear pw_6 pm_6 hPh hB6
  clear ph_7
  go_wp2_with fail
  refine (HH.out _ _ pm_7).mono ?_
  rintro e w8 ⟨rfl, hb8⟩
  have hB8 := hB7.trans (hb8.mono hB7.size)
  have z8 := hb8.size
  have pw_8 := pw_7.below (hb8.mono (by omega))
  have pm_8 := pm_7.go hb8
  clear pw_7 pm_7 hB7
  go_wp2
  go_ret
  exact ⟨rfl, hB8⟩
end Go.Proofs.YtnanminbnfgcfaaDoor
