/- GroupHands of the program. -/
import Derived.Test.YtjmkbdghenjlaaaDoorGhJ
import Derived.Test.YtjmkbdghenjlaaaDoorHn
namespace Go.Proofs.YtjmkbdghenjlaaaDoor
open Go Go.RowKit

theorem gh_code {ls : List Iss} {x : Int} (hx : x ≤ 9223372036854775807) {a : Er} (ha : erK a = gvK (allG ls)) :
    (erC [a, mnE (ls.length : Int), rgE x 0 9223372036854775807] = 0 ∧ allG ls = true ∧ ls.length ≤ 8 ∧ ghC (issD ls) x = 0) ∨ (erC [a, mnE (ls.length : Int), rgE x 0 9223372036854775807] ≠ 0 ∧ ghC (issD ls) x = erC [a, mnE (ls.length : Int), rgE x 0 9223372036854775807]) := by
  simp only [erC, ha]
  cases h1 : allG ls
  · right
    rw [allG_iss] at h1
    refine ⟨by simp [gvK], ?_⟩
    unfold ghC; rw [hd_no h1]; simp [gvK]
  · have h1' := h1
    rw [allG_iss] at h1
    by_cases h3 : 8 < ls.length
    · right
      have e : mnE (ls.length : Int) = .M ls.length := if_pos (by omega)
      rw [e]
      refine ⟨by simp [gvK, erK], ?_⟩
      unfold ghC; rw [hd_long h1 (by rw [issD_len]; exact h3)]; simp [gvK, erK]
    · have e : mnE (ls.length : Int) = .none := if_neg (by omega)
      rw [e]
      by_cases h4 : x < 0
      · right
        have e2 : rgE x 0 9223372036854775807 = .R x := if_neg (by intro h; have := (inB_true.1 h).1; omega)
        rw [e2]
        refine ⟨by simp [gvK, erK], ?_⟩
        unfold ghC; rw [hd_ok h1 (by rw [issD_len]; exact h3), if_pos rfl, if_pos h4]; simp [gvK, erK]
      · left
        have e2 : rgE x 0 9223372036854775807 = .none := if_pos (inB_true.2 ⟨by omega, hx⟩)
        rw [e2]
        refine ⟨by simp [gvK, erK], rfl, by omega, ?_⟩
        unfold ghC; rw [hd_ok h1 (by rw [issD_len]; exact h3), if_pos rfl, if_neg h4]

set_option maxRecDepth 100000 in
set_option maxHeartbeats 16000000 in
theorem implGroupHands_any (A : Option Addr) (ls : List Iss) (c : Nat) (hn : ls.length ≤ maxLen) (x : Int) (hx : (Lit.int .i64 x).wf = true) (w : World) (hg : ErrT w) (hl : IssOk w ls) (hA : IssAt w w.heap.size A ls) :
    Calls Tryd.prog 26 #[.slice A ls.length c, .int .i64 x] w (IntsBack (ghR (issD ls) x) (ghC (issD ls) x) w) := by
  have hx1 : x ≤ 9223372036854775807 := by
    have h := hx
    simp [Lit.wf, IntKind.min, IntKind.max, IntKind.signed, IntKind.bits] at h
    omega
  have hn' := hn
  unfold maxLen at hn'
  have HG1 := hide (gapsError_any A ls c w hn hl hA)
  have HCD := hide (fun a e2 e3 ha (h2 : mnE (ls.length : Int) = e2) (h3 : rgE x 0 9223372036854775807 = e3) => by have := @gh_code ls x hx1 a ha; rw [h2, h3] at this; exact this)
  have HNO := hide (fun h => @gh_no (issD ls) x h)
  have HOK := hide (fun h => @gh_ok (issD ls) x h)
  have HHO := hide (fun W (h8 : ls.length ≤ 8) (hW : Below w.heap.size w W) => handsOf_any A ls c W h8 (hA.go hW))
  have HGO := hide (fun Ah ch W h8 (hall : allG ls = true) (hW : Below w.heap.size w W) hH => groupsOf_any Ah ls ch x W h8 (fun l h => allG_mem hall h) (hl.go hW) hH)
  have HGT := hide ((fun W (hW : Below w.heap.size w W) => hg.below hW : ∀ W, Below w.heap.size w W → ErrT W))
  have HB1 := hide (Below.refl w.heap.size w)
  obtain ⟨n, hN⟩ : ∃ n, ls.length = n := ⟨_, rfl⟩
  rw [issD_len] at HOK
  rw [hN] at hn' HG1 HCD HOK HHO HGO ⊢
  have HCE := countError_any (n : Int)
  obtain ⟨e2, hk2⟩ : ∃ e2, mnE (n : Int) = e2 := ⟨_, rfl⟩
  have hor2 : e2 = .none ∨ ∃ m, e2 = .M m := by
    rw [← hk2]; unfold mnE; split
    · exact .inr ⟨_, rfl⟩
    · exact .inl rfl
  rw [hk2] at HCE
  have HCE := hide HCE
  have HRE := rangeError_any x 0 9223372036854775807
  obtain ⟨e3, hk3⟩ : ∃ e3, rgE x 0 9223372036854775807 = e3 := ⟨_, rfl⟩
  have hor3 : e3 = .none ∨ ∃ m, e3 = .R m := by
    rw [← hk3]; unfold rgE; split
    · exact .inl rfl
    · exact .inr ⟨_, rfl⟩
  rw [hk3] at HRE
  have HRE := hide HRE
  unfold IntsBack
  generalize hR : ghR (issD ls) x = R at *
  generalize hC : ghC (issD ls) x = C at *
  have HRR := hide hR
  have HCC0 := hide hC
  clear hR hC hN hA hl hg hn hx hx1
  go_enter Tryd.func26, Tryd.ntmps26
  go_wp2_with fail
  refine HG1.out.mono ?_
  rintro e w' ⟨⟨e1, rfl, hk1, hor1⟩, rfl⟩
  go_wp2_with fail
  refine (HCE.out _).mono ?_
  rintro e w' ⟨rfl, rfl⟩
  go_wp2_with fail
  refine (HRE.out _).mono ?_
  rintro e w' ⟨rfl, rfl⟩
  clear HCE HRE
  rcases hor1 with rfl | ⟨m1, rfl⟩
  rotate_left
  · rcases hor2 with rfl | ⟨m2, rfl⟩
    · rcases hor3 with rfl | ⟨m3, rfl⟩
      · have hb2 : Below w.heap.size w (w.alloc (.cells #[.iface 129 (.int .i64 m1), .nilIface, .nilIface] 77)) := HB1.out.alloc HB1.out.size _
        have HC := hide (codeOf_any (some ⟨w.heap.size, 0, none⟩) [(Er.S m1), Er.none, Er.none] 3 (w.alloc (.cells #[.iface 129 (.int .i64 m1), .nilIface, .nilIface] 77)) (by simp) (ersAt_new3 _ _ _) (HGT.out _ hb2))
        have HCC := hide (HCD.out _ _ _ hk1 hk2 hk3)
        have HB2 := hide hb2
        clear hk1 hk2 hk3 hb2 HCD
        simp only [erV]
        go_wp2_with fail
        generalize (w.alloc (.cells #[.iface 129 (.int .i64 m1), .nilIface, .nilIface] 77)) = W2 at *
        refine HC.out.mono ?_
        rintro e w3 ⟨rfl, hb3⟩
        have hB3 := HB2.out.trans (hb3.mono HB2.out.size)
        rcases HCC.out with ⟨hcd, _⟩ | ⟨hcd, hv⟩
        · exact absurd hcd (by simp [erC, erK])
        have HV := hide (HNO.out (by rw [hv]; exact hcd))
        have HCV := hide hv
        simp only [erC, erK] at HCV ⊢
        clear hcd hv HCC
        go_wp2
        go_ret2
        exact ⟨none, ⟨0, by rw [HCV.out, HV.out]; rfl⟩, by rw [HV.out]; exact .empty _ _ _, hB3⟩
      · have hb2 : Below w.heap.size w (w.alloc (.cells #[.iface 129 (.int .i64 m1), .nilIface, .iface 130 (.int .i64 m3)] 77)) := HB1.out.alloc HB1.out.size _
        have HC := hide (codeOf_any (some ⟨w.heap.size, 0, none⟩) [(Er.S m1), Er.none, (Er.R m3)] 3 (w.alloc (.cells #[.iface 129 (.int .i64 m1), .nilIface, .iface 130 (.int .i64 m3)] 77)) (by simp) (ersAt_new3 _ _ _) (HGT.out _ hb2))
        have HCC := hide (HCD.out _ _ _ hk1 hk2 hk3)
        have HB2 := hide hb2
        clear hk1 hk2 hk3 hb2 HCD
        simp only [erV]
        go_wp2_with fail
        generalize (w.alloc (.cells #[.iface 129 (.int .i64 m1), .nilIface, .iface 130 (.int .i64 m3)] 77)) = W2 at *
        refine HC.out.mono ?_
        rintro e w3 ⟨rfl, hb3⟩
        have hB3 := HB2.out.trans (hb3.mono HB2.out.size)
        rcases HCC.out with ⟨hcd, _⟩ | ⟨hcd, hv⟩
        · exact absurd hcd (by simp [erC, erK])
        have HV := hide (HNO.out (by rw [hv]; exact hcd))
        have HCV := hide hv
        simp only [erC, erK] at HCV ⊢
        clear hcd hv HCC
        go_wp2
        go_ret2
        exact ⟨none, ⟨0, by rw [HCV.out, HV.out]; rfl⟩, by rw [HV.out]; exact .empty _ _ _, hB3⟩
    · rcases hor3 with rfl | ⟨m3, rfl⟩
      · have hb2 : Below w.heap.size w (w.alloc (.cells #[.iface 129 (.int .i64 m1), .iface 131 (.int .i64 m2), .nilIface] 77)) := HB1.out.alloc HB1.out.size _
        have HC := hide (codeOf_any (some ⟨w.heap.size, 0, none⟩) [(Er.S m1), (Er.M m2), Er.none] 3 (w.alloc (.cells #[.iface 129 (.int .i64 m1), .iface 131 (.int .i64 m2), .nilIface] 77)) (by simp) (ersAt_new3 _ _ _) (HGT.out _ hb2))
        have HCC := hide (HCD.out _ _ _ hk1 hk2 hk3)
        have HB2 := hide hb2
        clear hk1 hk2 hk3 hb2 HCD
        simp only [erV]
        go_wp2_with fail
        generalize (w.alloc (.cells #[.iface 129 (.int .i64 m1), .iface 131 (.int .i64 m2), .nilIface] 77)) = W2 at *
        refine HC.out.mono ?_
        rintro e w3 ⟨rfl, hb3⟩
        have hB3 := HB2.out.trans (hb3.mono HB2.out.size)
        rcases HCC.out with ⟨hcd, _⟩ | ⟨hcd, hv⟩
        · exact absurd hcd (by simp [erC, erK])
        have HV := hide (HNO.out (by rw [hv]; exact hcd))
        have HCV := hide hv
        simp only [erC, erK] at HCV ⊢
        clear hcd hv HCC
        go_wp2
        go_ret2
        exact ⟨none, ⟨0, by rw [HCV.out, HV.out]; rfl⟩, by rw [HV.out]; exact .empty _ _ _, hB3⟩
      · have hb2 : Below w.heap.size w (w.alloc (.cells #[.iface 129 (.int .i64 m1), .iface 131 (.int .i64 m2), .iface 130 (.int .i64 m3)] 77)) := HB1.out.alloc HB1.out.size _
        have HC := hide (codeOf_any (some ⟨w.heap.size, 0, none⟩) [(Er.S m1), (Er.M m2), (Er.R m3)] 3 (w.alloc (.cells #[.iface 129 (.int .i64 m1), .iface 131 (.int .i64 m2), .iface 130 (.int .i64 m3)] 77)) (by simp) (ersAt_new3 _ _ _) (HGT.out _ hb2))
        have HCC := hide (HCD.out _ _ _ hk1 hk2 hk3)
        have HB2 := hide hb2
        clear hk1 hk2 hk3 hb2 HCD
        simp only [erV]
        go_wp2_with fail
        generalize (w.alloc (.cells #[.iface 129 (.int .i64 m1), .iface 131 (.int .i64 m2), .iface 130 (.int .i64 m3)] 77)) = W2 at *
        refine HC.out.mono ?_
        rintro e w3 ⟨rfl, hb3⟩
        have hB3 := HB2.out.trans (hb3.mono HB2.out.size)
        rcases HCC.out with ⟨hcd, _⟩ | ⟨hcd, hv⟩
        · exact absurd hcd (by simp [erC, erK])
        have HV := hide (HNO.out (by rw [hv]; exact hcd))
        have HCV := hide hv
        simp only [erC, erK] at HCV ⊢
        clear hcd hv HCC
        go_wp2
        go_ret2
        exact ⟨none, ⟨0, by rw [HCV.out, HV.out]; rfl⟩, by rw [HV.out]; exact .empty _ _ _, hB3⟩
  rcases hor2 with rfl | ⟨m2, rfl⟩
  rotate_left
  · rcases hor3 with rfl | ⟨m3, rfl⟩
    · have hb2 : Below w.heap.size w (w.alloc (.cells #[.nilIface, .iface 131 (.int .i64 m2), .nilIface] 77)) := HB1.out.alloc HB1.out.size _
      have HC := hide (codeOf_any (some ⟨w.heap.size, 0, none⟩) [Er.none, (Er.M m2), Er.none] 3 (w.alloc (.cells #[.nilIface, .iface 131 (.int .i64 m2), .nilIface] 77)) (by simp) (ersAt_new3 _ _ _) (HGT.out _ hb2))
      have HCC := hide (HCD.out _ _ _ hk1 hk2 hk3)
      have HB2 := hide hb2
      clear hk1 hk2 hk3 hb2 HCD
      simp only [erV]
      go_wp2_with fail
      generalize (w.alloc (.cells #[.nilIface, .iface 131 (.int .i64 m2), .nilIface] 77)) = W2 at *
      refine HC.out.mono ?_
      rintro e w3 ⟨rfl, hb3⟩
      have hB3 := HB2.out.trans (hb3.mono HB2.out.size)
      rcases HCC.out with ⟨hcd, _⟩ | ⟨hcd, hv⟩
      · exact absurd hcd (by simp [erC, erK])
      have HV := hide (HNO.out (by rw [hv]; exact hcd))
      have HCV := hide hv
      simp only [erC, erK] at HCV ⊢
      clear hcd hv HCC
      go_wp2
      go_ret2
      exact ⟨none, ⟨0, by rw [HCV.out, HV.out]; rfl⟩, by rw [HV.out]; exact .empty _ _ _, hB3⟩
    · have hb2 : Below w.heap.size w (w.alloc (.cells #[.nilIface, .iface 131 (.int .i64 m2), .iface 130 (.int .i64 m3)] 77)) := HB1.out.alloc HB1.out.size _
      have HC := hide (codeOf_any (some ⟨w.heap.size, 0, none⟩) [Er.none, (Er.M m2), (Er.R m3)] 3 (w.alloc (.cells #[.nilIface, .iface 131 (.int .i64 m2), .iface 130 (.int .i64 m3)] 77)) (by simp) (ersAt_new3 _ _ _) (HGT.out _ hb2))
      have HCC := hide (HCD.out _ _ _ hk1 hk2 hk3)
      have HB2 := hide hb2
      clear hk1 hk2 hk3 hb2 HCD
      simp only [erV]
      go_wp2_with fail
      generalize (w.alloc (.cells #[.nilIface, .iface 131 (.int .i64 m2), .iface 130 (.int .i64 m3)] 77)) = W2 at *
      refine HC.out.mono ?_
      rintro e w3 ⟨rfl, hb3⟩
      have hB3 := HB2.out.trans (hb3.mono HB2.out.size)
      rcases HCC.out with ⟨hcd, _⟩ | ⟨hcd, hv⟩
      · exact absurd hcd (by simp [erC, erK])
      have HV := hide (HNO.out (by rw [hv]; exact hcd))
      have HCV := hide hv
      simp only [erC, erK] at HCV ⊢
      clear hcd hv HCC
      go_wp2
      go_ret2
      exact ⟨none, ⟨0, by rw [HCV.out, HV.out]; rfl⟩, by rw [HV.out]; exact .empty _ _ _, hB3⟩
  rcases hor3 with rfl | ⟨m3, rfl⟩
  rotate_left
  · have hb2 : Below w.heap.size w (w.alloc (.cells #[.nilIface, .nilIface, .iface 130 (.int .i64 m3)] 77)) := HB1.out.alloc HB1.out.size _
    have HC := hide (codeOf_any (some ⟨w.heap.size, 0, none⟩) [Er.none, Er.none, (Er.R m3)] 3 (w.alloc (.cells #[.nilIface, .nilIface, .iface 130 (.int .i64 m3)] 77)) (by simp) (ersAt_new3 _ _ _) (HGT.out _ hb2))
    have HCC := hide (HCD.out _ _ _ hk1 hk2 hk3)
    have HB2 := hide hb2
    clear hk1 hk2 hk3 hb2 HCD
    simp only [erV]
    go_wp2_with fail
    generalize (w.alloc (.cells #[.nilIface, .nilIface, .iface 130 (.int .i64 m3)] 77)) = W2 at *
    refine HC.out.mono ?_
    rintro e w3 ⟨rfl, hb3⟩
    have hB3 := HB2.out.trans (hb3.mono HB2.out.size)
    rcases HCC.out with ⟨hcd, _⟩ | ⟨hcd, hv⟩
    · exact absurd hcd (by simp [erC, erK])
    have HV := hide (HNO.out (by rw [hv]; exact hcd))
    have HCV := hide hv
    simp only [erC, erK] at HCV ⊢
    clear hcd hv HCC
    go_wp2
    go_ret2
    exact ⟨none, ⟨0, by rw [HCV.out, HV.out]; rfl⟩, by rw [HV.out]; exact .empty _ _ _, hB3⟩
  have hb2 : Below w.heap.size w (w.alloc (.cells #[.nilIface, .nilIface, .nilIface] 77)) := HB1.out.alloc HB1.out.size _
  have HC := hide (codeOf_any (some ⟨w.heap.size, 0, none⟩) [Er.none, Er.none, Er.none] 3 (w.alloc (.cells #[.nilIface, .nilIface, .nilIface] 77)) (by simp) (ersAt_new3 _ _ _) (HGT.out _ hb2))
  have HCC := hide (HCD.out _ _ _ hk1 hk2 hk3)
  have HB2 := hide hb2
  clear hk1 hk2 hk3 hb2 HCD
  simp only [erV]
  go_wp2_with fail
  generalize (w.alloc (.cells #[.nilIface, .nilIface, .nilIface] 77)) = W2 at *
  refine HC.out.mono ?_
  rintro e w3 ⟨rfl, hb3⟩
  have hB3 := HB2.out.trans (hb3.mono HB2.out.size)
  rcases HCC.out with ⟨hcd, h1, h2, h3⟩ | ⟨hcd, hv⟩
  rotate_left
  · exact absurd hcd (by simp [erC, erK])
  simp only [erC, erK]
  have HR0 := hide (HOK.out h3)
  have HC0 := hide h3
  have HHH := hide (HHO.out w3 h2 hB3)
  have HGG := hide (fun Ah ch W hW hH => HGO.out Ah ch W h2 h1 hW hH)
  clear hcd h1 h2 h3 hb3 HCC HNO HOK HHO HGO
  go_wp2_with fail
  refine HHH.out.mono ?_
  rintro e w4 ⟨Ah, ch, rfl, hH, hb4⟩
  have hB4 := hB3.trans (hb4.mono hB3.size)
  have HG5 := hide (HGG.out Ah ch w4 hB4 hH)
  rw [← HR0.out] at HG5
  clear hH hb4 HHH
  go_wp2_with fail
  refine HG5.out.mono ?_
  rintro e w5 ⟨⟨A5, c5, rfl, hI⟩, hb5⟩
  have HI := hide (hI.wider hB4.size)
  clear hI
  go_wp2
  go_ret2
  exact ⟨A5, c5, by rw [HC0.out]; rfl, HI.out, hB4.trans (hb5.mono hB4.size)⟩
end Go.Proofs.YtjmkbdghenjlaaaDoor
