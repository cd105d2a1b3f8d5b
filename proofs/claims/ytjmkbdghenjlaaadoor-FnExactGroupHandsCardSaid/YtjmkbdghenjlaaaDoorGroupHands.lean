/- GroupHands: the model and the program give the same answer for every argument, and what comes back owns its memory. -/
import Derived.Test.YtjmkbdghenjlaaaDoorGh
import Derived.Test.YtjmkbdghenjlaaaDoorGhS
import Derived.Test.YtjmkbdghenjlaaaDoorHnB
import Derived.Test.YtjmkbdghenjlaaaDoorGs
namespace Go.Proofs.YtjmkbdghenjlaaaDoor
open Go.RowKit

theorem ghR_len (hs : List (List Int)) (x : Int) : (ghR hs x).length ≤ 8 := by
  unfold ghR
  split
  · rename_i h
    have h0 : hdC hs = 0 := by
      rcases Decidable.em (hdC hs = 0) with h' | h'
      · exact h'
      · unfold ghC at h; rw [if_neg h'] at h; exact h
    have := (hdC_zero h0).2
    rw [(grp_inv (nearH hs x) hs.length hs.length).1]
    exact this
  · simp

set_option maxRecDepth 100000 in
set_option maxHeartbeats 16000000 in
theorem lawGroupHands_any (A : Option Addr) (ls : List Iss) (c : Nat) (hn : ls.length ≤ maxLen) (x : Int) (hx : (Lit.int .i64 x).wf = true) (w : World) (hG : ErrT w) (hl : IssOk w ls) (hA : IssAt w w.heap.size A ls) :
    Calls Tryd.prog 6 #[.slice A ls.length c, .int .i64 x] w fun e w' => e = .returned (.bool true) ∧ Below w.heap.size w w' := by
  have HSZ := hide (szInt64SS_tot A ls c w hn hl hA)
  have HTO := hide (fun (hs : shortI ls.length ls) W (hW : Below w.heap.size w W) => toInt64SS_ap A ls c W hs (hl.go hW) (hA.go hW))
  have HLM := hide (fun l h => (hl l h).1)
  have HSP := hide (fun (ls' : List Iss) (e : ls'.length = ls.length) (e2 : issD ls' = issD ls) A' c' W h1 h2 => by
    have := specGroupHands_any A' ls' c' (by rw [e]; exact hn) x hx W h1 h2
    rw [e, e2] at this
    exact this)
  have HIM := hide (fun (ls' : List Iss) (e : ls'.length = ls.length) (e2 : issD ls' = issD ls) A' c' W h0 h1 h2 => by
    have := implGroupHands_any A' ls' c' (by rw [e]; exact hn) x hx W h0 h1 h2
    rw [e, e2] at this
    exact this)
  have HQ := hide (fun A1 A2 ls1 ls2 c1 c2 W h1 h2 he h3 h4 h5 h6 => eqInt64SS_same A1 A2 ls1 ls2 ls.length c1 c2 W hn h1 h2 he h3 h4 h5 h6)
  have HMK := hide (fun (ls' : List Iss) (e : ls'.length = ls.length) (hn1 : ls.length ≤ 1048576) (ht : totL ls' ≤ 1048576) A' c' B M W h1 h2 h3 h4 h5 => by
    have := markInt64SS_any A' ls' c' B M W (by rw [e]; exact hn1) ht h1 h2 h3 h4 h5
    rw [e] at this
    exact this)
  have hRn := ghR_len (issD ls) x
  have HG := hide hG
  generalize ghR (issD ls) x = R at *
  generalize ghC (issD ls) x = C at *
  obtain ⟨n, hN⟩ : ∃ n, ls.length = n := ⟨_, rfl⟩
  have HN := hide hN
  rw [hN] at hn HSZ HTO HSP HIM HQ HMK ⊢
  clear hN hl hA hG hx
  unfold maxLen at hn
  unfold IntsBack at HSP HIM
  go_enter Tryd.func6, Tryd.ntmps6
  go_wp2_with fail
  refine HSZ.out.mono ?_
  rintro e w' ⟨⟨z, rfl, hz⟩, rfl⟩
  by_cases hneg : z < 0
  · have hdl : decide (z < 0) = true := by simpa using hneg
    clear hneg
    go_wp2
    go_ret
    exact ⟨rfl, Below.refl _ _⟩
  have hdl : decide (z < 0) = false := by simpa using hneg
  obtain ⟨hsh, htot⟩ := hz (by omega)
  have HT := hide (HTO.out hsh)
  have HN1 := hide hsh.1
  have HTT := hide htot
  clear hneg hz hsh htot HTO HSZ
  go_wp2_with fail
  refine (HT.out _ (Below.refl _ _)).mono ?_
  rintro e w1 ⟨A1, l1, rfl, cp1, hb1⟩
  have hB1 := hb1
  have z1 := hb1.size
  have HC1 := hide cp1.cp
  clear cp1 hb1
  go_wp2_with fail
  refine (HSP.out l1 (HC1.out.1.trans HN.out) HC1.out.2.1 _ _ _ (HC1.out.ok HLM.out) HC1.out.2.2.1).mono ?_
  rintro e w2 ⟨Aw, cw, rfl, hPw, hb2⟩
  have hB2 := hB1.trans (hb2.mono hB1.size)
  have z2 := hb2.size
  have pw_2 := hPw.at_
  clear hB1 hb2 HC1 hPw
  go_wp2_with fail
  refine (HT.out _ hB2).mono ?_
  rintro e w3 ⟨A3, l3, rfl, cp3, hb3⟩
  have hB3 := hB2.trans (hb3.mono hB2.size)
  have z3 := hb3.size
  have pw_3 := pw_2.below hb3
  have K3 := hide cp3
  clear cp3 hb3 hB2 pw_2
  go_wp2_with fail
  refine (HIM.out l3 (K3.out.1.trans HN.out) K3.out.2.1 _ _ _ (HG.out.below hB3) (K3.out.cp.ok HLM.out) K3.out.cp.2.2.1).mono ?_
  rintro e w4 ⟨Ag, cg, rfl, hPg, hb4⟩
  have hB4 := hB3.trans (hb4.mono hB3.size)
  have z4 := hb4.size
  have pw_4 := pw_3.below (hb4.mono (by omega))
  have K4 := hide (K3.out.go hb4)
  have HBX := hide (fun l (hl : l ∈ l3) b (hb : blkI l.1 l.2.1 = some b) => (blkI_bd (K3.out.2.2.2.1 l hl) b hb).2)
  have bd_g := blkI_bd hPg
  clear hb4 hB3 pw_3 K3
  go_wp2_with fail
  refine (eqInt64S_same Ag Aw R cg cw _ (by unfold maxLen; omega) hPg.at_ (pw_4.mono (by omega))).mono ?_
  rintro e w5 ⟨rfl, hb5⟩
  have hB5 := hB4.trans (hb5.mono hB4.size)
  have z5 := hb5.size
  have pw_5 := pw_4.below (hb5.mono (by omega))
  have K5 := hide (K4.out.go hb5)
  have pg_5 := hPg.go hb5
  clear pw_4 K4 hPg hB4 hb5
  go_wp2_with fail
  refine (HT.out _ hB5).mono ?_
  rintro e w6 ⟨A6, l6, rfl, cp6, hb6⟩
  have hB6 := hB5.trans (hb6.mono hB5.size)
  have z6 := hb6.size
  have pw_6 := pw_5.below (hb6.mono (by omega))
  have K6 := hide (K5.out.go hb6)
  have pg_6 := pg_5.go hb6
  have HC6 := hide cp6.cp
  clear pw_5 K5 pg_5 hB5 cp6 hb6
  go_wp2_with fail
  refine (HQ.out _ _ l3 l6 _ _ _ (K6.out.1.trans HN.out) (HC6.out.1.trans HN.out) (HC6.out.2.1.trans K6.out.2.1.symm) (K6.out.cp.ok HLM.out) (HC6.out.ok HLM.out) K6.out.cp.2.2.1 HC6.out.2.2.1).mono ?_
  rintro e w7 ⟨rfl, hb7⟩
  have hB7 := hB6.trans (hb7.mono hB6.size)
  have z7 := hb7.size
  have pw_7 := pw_6.below (hb7.mono (by omega))
  have K7 := hide (K6.out.go hb7)
  have pg_7 := pg_6.go hb7
  clear pw_6 K6 pg_6 hB6 HC6 hb7
  have HMM := hide (HMK.out l3 (K7.out.1.trans HN.out) HN1.out (by rw [totL_iss K7.out.2.1]; exact HTT.out) A3 n (w2.heap.size + 1) w3.heap.size w7 K7.out.2.2.1 (Nat.succ_le_of_lt K7.out.2.2.2.2.1) K7.out.2.2.2.1 HBX.out K7.out.2.2.2.2.2)
  clear K7 HBX HMK
  go_wp2_with fail
  refine HMM.out.mono ?_
  rintro e w8 ⟨⟨km, rfl⟩, hb8, z8, hf8⟩
  have hB8 := hB7.trans (hb8.mono (by omega))
  have pw_8 := pw_7.below (hb8.mono (by omega))
  have pg_8 : IntsIn w8 w3.heap.size Ag R := fun hne => by
    obtain ⟨b, o, e, h1, h2, h3, h4⟩ := pg_7 hne
    have hbk := hf8 b h1 h2
    refine ⟨b, o, e, h1, by omega, fun k x hx => ?_, fun j hj => ?_⟩
    · have := h3 k x hx
      simpa [World.cell?, hbk] using this
    · have := h4 j hj
      simpa [World.cell?, World.frozen?, hbk] using this
  have hdk8 : decide ((km : Int) < 0) = false := by simp
  clear hb8 hf8 pw_7 pg_7 hB7 HMM
  go_wp2_with fail
  refine (eqInt64S_same Ag Aw R cg cw _ (by unfold maxLen; omega) pg_8.at_ (pw_8.mono (by omega))).mono ?_
  rintro e w9 ⟨rfl, hb9⟩
  have hB9 := hB8.trans (hb9.mono hB8.size)
  have z9 := hb9.size
  have pw_9 := pw_8.below (hb9.mono (by omega))
  have pg_9 := pg_8.go hb9
  clear pw_8 pg_8 hB8 hb9
  go_wp2_with fail
  refine (markI1_any Ag R _ _ _ (by omega) pg_9).mono ?_
  rintro e w10 ⟨rfl, hg10, hM⟩
  have hB10 := hB9.trans (grown_toBelow hg10 (by omega) (fun k hk => by have := bd_g k hk; omega))
  have z10 := hg10.size
  have pw_10 := grown_intsAt hg10 pw_9 (by omega) (fun k hk => by have := bd_g k hk; omega)
  clear pw_9 hB9
  clear pg_9
  have hdq : decide (((1 + R.length : Nat) : Int) < 0) = false := by simp; omega
  have HH := hide (fun (W : World) (L : Nat) (h : IntsIn W L Ag (marksI 1 R.length)) => heldI1_any Ag R.length cg L W (by omega) h)
  generalize ((1 + R.length : Nat) : Int) = Qn at hdq HH ⊢
  go_wp2_with fail
  refine (HH.out _ _ hM).mono ?_
  rintro e w11 ⟨rfl, hb11⟩
  have hB11 := hB10.trans (hb11.mono hB10.size)
  have z11 := hb11.size
  have pw_11 := pw_10.below (hb11.mono (by omega))
  have pm_11 := hM.go hb11
  clear pw_10 hM hB10
  go_wp2_with fail
  refine (HT.out _ hB11).mono ?_
  rintro e w12 ⟨A12, l12, rfl, cp12, hb12⟩
  have hB12 := hB11.trans (hb12.mono hB11.size)
  have z12 := hb12.size
  have pw_12 := pw_11.below (hb12.mono (by omega))
  have pm_12 := pm_11.go hb12
  have HC12 := hide cp12.cp
  clear pw_11 pm_11 hB11 cp12
  go_wp2_with fail
  refine (HIM.out l12 (HC12.out.1.trans HN.out) HC12.out.2.1 _ _ _ (HG.out.below hB12) (HC12.out.ok HLM.out) HC12.out.2.2.1).mono ?_
  rintro e w13 ⟨Ah, chh, rfl, hPh, hb13⟩
  have hB13 := hB12.trans (hb13.mono hB12.size)
  have z13 := hb13.size
  have pw_13 := pw_12.below (hb13.mono (by omega))
  have pm_13 := pm_12.go hb13
  clear pw_12 pm_12 hB12 HC12
  go_wp2_with fail
  refine (eqInt64S_same Ah Aw R chh cw _ (by unfold maxLen; omega) hPh.at_ (pw_13.mono (by omega))).mono ?_
  rintro e w14 ⟨rfl, hb14⟩
  have hB14 := hB13.trans (hb14.mono hB13.size)
  have z14 := hb14.size
  have pm_14 := pm_13.go hb14
  clear pw_13 pm_13 hPh hB13
  go_wp2_with fail
  refine (HH.out _ _ pm_14).mono ?_
  rintro e w15 ⟨rfl, hb15⟩
  have hB15 := hB14.trans (hb15.mono hB14.size)
  clear pm_14 hB14
  go_wp2
  go_ret
  exact ⟨rfl, hB15⟩
end Go.Proofs.YtjmkbdghenjlaaaDoor
