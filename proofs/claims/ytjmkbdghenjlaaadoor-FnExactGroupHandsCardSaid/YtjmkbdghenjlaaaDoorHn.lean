/- NearestHand of the program. -/
import Derived.Test.YtjmkbdghenjlaaaDoorHnI
namespace Go.Proofs.YtjmkbdghenjlaaaDoor
open Go Go.RowKit

theorem Tryd.infoChoiceH : (Tryd.prog.info? 99).map (fun i => (i.zero, i.size, i.bytes)) = some (some (.agg #[.int .i64 0, .int .i64 0]), 2, 16) := by kernel_rfl

set_option maxRecDepth 100000 in
set_option maxHeartbeats 16000000 in
theorem implNearestHand_any (A : Option Addr) (ls : List Iss) (c : Nat) (hn : ls.length ≤ maxLen) (B : Option Addr) (gs : List Int) (d : Nat) (hm : gs.length ≤ maxLen) (w : World) (hg : ErrT w) (hl : IssOk w ls) (hA : IssAt w w.heap.size A ls) (hB : IntsAt w w.heap.size B gs) :
    Calls Tryd.prog 22 #[.slice A ls.length c, .slice B gs.length d] w fun e w' => e = .returned (.tuple #[.int .i64 (nhR (issD ls) gs).1, .int .i64 (nhR (issD ls) gs).2.1, .int .i64 (nhR (issD ls) gs).2.2]) ∧ Below w.heap.size w w' := by
  obtain ⟨i0, hi0, hz0, hz1, hz2⟩ := info_parts Tryd.infoChoiceH
  have hn' := hn
  unfold maxLen at hn'
  have HG1 := hide (gapsError_any A ls c w hn hl hA)
  have hb1 : Below w.heap.size w (w.alloc (.cells #[.slice B gs.length d] 39)) := (Below.refl _ _).alloc (Nat.le_refl _) _
  have HG2 := hide (gapsError_any (some ⟨w.heap.size, 0, none⟩) [(B, gs, d)] 1 (w.alloc (.cells #[.slice B gs.length d] 39)) (by unfold maxLen; simp) (by
    intro l hl
    simp only [List.mem_cons, List.not_mem_nil, or_false] at hl
    subst hl
    exact ⟨hm, hB.go hb1⟩) (issAt_new1 B gs d))
  have hall : allG [(B, gs, d)] = gvB gs := by simp [allG]
  rw [hall] at HG2
  have HCD := hide (fun a b e3 ha hb (h3 : mnE (ls.length : Int) = e3) => by have := @nh_code ls gs a b ha hb; rw [h3] at this; exact this)
  have HNH := hide (fun h1 h2 h3 => @nh_ok (issD ls) gs h1 ((allG_iss ls).symm.trans h2) (by rw [issD_len]; exact h3))
  have HAP := hide (fun (h1 : allG ls = true) (h2 : gvB gs = true) l (h : l ∈ ls) W (hW : Below w.heap.size w W) => apart_any l.1 l.2.1 l.2.2 B gs d W (gv_true (allG_mem h1 h)) (gv_true h2) ((hl l h).2.go hW) (hB.go hW))
  have HO := hide (fun k l (h : ls[k]? = some l) => show nhO (issD ls) gs k = apV l.2.1 gs by unfold nhO; rw [issD_get h])
  have HHO := hide (fun W (h8 : ls.length ≤ 8) (hW : Below w.heap.size w W) => handsOf_any A ls c W h8 (hA.go hW))
  have HGT := hide ((fun W (hW : Below w.heap.size w W) => hg.below hW : ∀ W, Below w.heap.size w W → ErrT W))
  have HHG := hide (fun k l (h : ls[k]? = some l) => hdz_get h)
  have HB1 := hide hb1
  obtain ⟨n, hN⟩ : ∃ n, ls.length = n := ⟨_, rfl⟩
  have HN := hide hN
  rw [issD_len] at HNH
  clear hn
  rw [hN] at hn' HG1 HCD HNH HHO HHG ⊢
  generalize nhR (issD ls) gs = V at *
  generalize nhO (issD ls) gs = O at *
  clear hN hA hB hl hm hg hb1 hall
  have HCE := countError_any (n : Int)
  obtain ⟨e3, hk3⟩ : ∃ e3, mnE (n : Int) = e3 := ⟨_, rfl⟩
  have hor3 : e3 = .none ∨ ∃ m, e3 = .M m := by
    rw [← hk3]; unfold mnE; split
    · exact .inr ⟨_, rfl⟩
    · exact .inl rfl
  rw [hk3] at HCE
  have HCE := hide HCE
  go_enter Tryd.func22, Tryd.ntmps22
  go_wp2_with fail
  refine HG1.out.mono ?_
  rintro e w' ⟨⟨e1, rfl, hk1, hor1⟩, rfl⟩
  go_wp2_with fail
  generalize (w.alloc (.cells #[.slice B gs.length d] 39)) = W1 at *
  refine HG2.out.mono ?_
  rintro e w' ⟨⟨e2, rfl, hk2, hor2⟩, rfl⟩
  go_wp2_with fail
  refine (HCE.out _).mono ?_
  rintro e w' ⟨rfl, rfl⟩
  clear HCE
  rcases hor1 with rfl | ⟨m1, rfl⟩
  rotate_left
  · rcases hor2 with rfl | ⟨m2, rfl⟩
    · rcases hor3 with rfl | ⟨m3, rfl⟩
      · have hb2 : Below w.heap.size w (W1.alloc (.cells #[.iface 129 (.int .i64 m1), .nilIface, .nilIface] 77)) := HB1.out.alloc HB1.out.size _
        have HC := hide (codeOf_any (some ⟨W1.heap.size, 0, none⟩) [(Er.S m1), Er.none, Er.none] 3 (W1.alloc (.cells #[.iface 129 (.int .i64 m1), .nilIface, .nilIface] 77)) (by simp) (ersAt_new3 _ _ _) (HGT.out _ hb2))
        have HCC := hide (HCD.out _ _ _ hk1 hk2 hk3)
        have HB2 := hide hb2
        clear hk1 hk2 hk3 hb2 HCD
        simp only [erV]
        go_wp2_with fail
        generalize (W1.alloc (.cells #[.iface 129 (.int .i64 m1), .nilIface, .nilIface] 77)) = W2 at *
        refine HC.out.mono ?_
        rintro e w3 ⟨rfl, hb3⟩
        have hB3 := HB2.out.trans (hb3.mono HB2.out.size)
        rcases HCC.out with ⟨hcd, _⟩ | ⟨hcd, hv⟩
        · exact absurd hcd (by simp [erC, erK])
        have HV := hide hv
        simp only [erC, erK] at HV ⊢
        clear hcd hv HCC
        go_wp2
        go_ret3
        exact ⟨rt3_of HV.out, hB3⟩
      · have hb2 : Below w.heap.size w (W1.alloc (.cells #[.iface 129 (.int .i64 m1), .nilIface, .iface 131 (.int .i64 m3)] 77)) := HB1.out.alloc HB1.out.size _
        have HC := hide (codeOf_any (some ⟨W1.heap.size, 0, none⟩) [(Er.S m1), Er.none, (Er.M m3)] 3 (W1.alloc (.cells #[.iface 129 (.int .i64 m1), .nilIface, .iface 131 (.int .i64 m3)] 77)) (by simp) (ersAt_new3 _ _ _) (HGT.out _ hb2))
        have HCC := hide (HCD.out _ _ _ hk1 hk2 hk3)
        have HB2 := hide hb2
        clear hk1 hk2 hk3 hb2 HCD
        simp only [erV]
        go_wp2_with fail
        generalize (W1.alloc (.cells #[.iface 129 (.int .i64 m1), .nilIface, .iface 131 (.int .i64 m3)] 77)) = W2 at *
        refine HC.out.mono ?_
        rintro e w3 ⟨rfl, hb3⟩
        have hB3 := HB2.out.trans (hb3.mono HB2.out.size)
        rcases HCC.out with ⟨hcd, _⟩ | ⟨hcd, hv⟩
        · exact absurd hcd (by simp [erC, erK])
        have HV := hide hv
        simp only [erC, erK] at HV ⊢
        clear hcd hv HCC
        go_wp2
        go_ret3
        exact ⟨rt3_of HV.out, hB3⟩
    · rcases hor3 with rfl | ⟨m3, rfl⟩
      · have hb2 : Below w.heap.size w (W1.alloc (.cells #[.iface 129 (.int .i64 m1), .iface 129 (.int .i64 m2), .nilIface] 77)) := HB1.out.alloc HB1.out.size _
        have HC := hide (codeOf_any (some ⟨W1.heap.size, 0, none⟩) [(Er.S m1), (Er.S m2), Er.none] 3 (W1.alloc (.cells #[.iface 129 (.int .i64 m1), .iface 129 (.int .i64 m2), .nilIface] 77)) (by simp) (ersAt_new3 _ _ _) (HGT.out _ hb2))
        have HCC := hide (HCD.out _ _ _ hk1 hk2 hk3)
        have HB2 := hide hb2
        clear hk1 hk2 hk3 hb2 HCD
        simp only [erV]
        go_wp2_with fail
        generalize (W1.alloc (.cells #[.iface 129 (.int .i64 m1), .iface 129 (.int .i64 m2), .nilIface] 77)) = W2 at *
        refine HC.out.mono ?_
        rintro e w3 ⟨rfl, hb3⟩
        have hB3 := HB2.out.trans (hb3.mono HB2.out.size)
        rcases HCC.out with ⟨hcd, _⟩ | ⟨hcd, hv⟩
        · exact absurd hcd (by simp [erC, erK])
        have HV := hide hv
        simp only [erC, erK] at HV ⊢
        clear hcd hv HCC
        go_wp2
        go_ret3
        exact ⟨rt3_of HV.out, hB3⟩
      · have hb2 : Below w.heap.size w (W1.alloc (.cells #[.iface 129 (.int .i64 m1), .iface 129 (.int .i64 m2), .iface 131 (.int .i64 m3)] 77)) := HB1.out.alloc HB1.out.size _
        have HC := hide (codeOf_any (some ⟨W1.heap.size, 0, none⟩) [(Er.S m1), (Er.S m2), (Er.M m3)] 3 (W1.alloc (.cells #[.iface 129 (.int .i64 m1), .iface 129 (.int .i64 m2), .iface 131 (.int .i64 m3)] 77)) (by simp) (ersAt_new3 _ _ _) (HGT.out _ hb2))
        have HCC := hide (HCD.out _ _ _ hk1 hk2 hk3)
        have HB2 := hide hb2
        clear hk1 hk2 hk3 hb2 HCD
        simp only [erV]
        go_wp2_with fail
        generalize (W1.alloc (.cells #[.iface 129 (.int .i64 m1), .iface 129 (.int .i64 m2), .iface 131 (.int .i64 m3)] 77)) = W2 at *
        refine HC.out.mono ?_
        rintro e w3 ⟨rfl, hb3⟩
        have hB3 := HB2.out.trans (hb3.mono HB2.out.size)
        rcases HCC.out with ⟨hcd, _⟩ | ⟨hcd, hv⟩
        · exact absurd hcd (by simp [erC, erK])
        have HV := hide hv
        simp only [erC, erK] at HV ⊢
        clear hcd hv HCC
        go_wp2
        go_ret3
        exact ⟨rt3_of HV.out, hB3⟩
  rcases hor2 with rfl | ⟨m2, rfl⟩
  rotate_left
  · rcases hor3 with rfl | ⟨m3, rfl⟩
    · have hb2 : Below w.heap.size w (W1.alloc (.cells #[.nilIface, .iface 129 (.int .i64 m2), .nilIface] 77)) := HB1.out.alloc HB1.out.size _
      have HC := hide (codeOf_any (some ⟨W1.heap.size, 0, none⟩) [Er.none, (Er.S m2), Er.none] 3 (W1.alloc (.cells #[.nilIface, .iface 129 (.int .i64 m2), .nilIface] 77)) (by simp) (ersAt_new3 _ _ _) (HGT.out _ hb2))
      have HCC := hide (HCD.out _ _ _ hk1 hk2 hk3)
      have HB2 := hide hb2
      clear hk1 hk2 hk3 hb2 HCD
      simp only [erV]
      go_wp2_with fail
      generalize (W1.alloc (.cells #[.nilIface, .iface 129 (.int .i64 m2), .nilIface] 77)) = W2 at *
      refine HC.out.mono ?_
      rintro e w3 ⟨rfl, hb3⟩
      have hB3 := HB2.out.trans (hb3.mono HB2.out.size)
      rcases HCC.out with ⟨hcd, _⟩ | ⟨hcd, hv⟩
      · exact absurd hcd (by simp [erC, erK])
      have HV := hide hv
      simp only [erC, erK] at HV ⊢
      clear hcd hv HCC
      go_wp2
      go_ret3
      exact ⟨rt3_of HV.out, hB3⟩
    · have hb2 : Below w.heap.size w (W1.alloc (.cells #[.nilIface, .iface 129 (.int .i64 m2), .iface 131 (.int .i64 m3)] 77)) := HB1.out.alloc HB1.out.size _
      have HC := hide (codeOf_any (some ⟨W1.heap.size, 0, none⟩) [Er.none, (Er.S m2), (Er.M m3)] 3 (W1.alloc (.cells #[.nilIface, .iface 129 (.int .i64 m2), .iface 131 (.int .i64 m3)] 77)) (by simp) (ersAt_new3 _ _ _) (HGT.out _ hb2))
      have HCC := hide (HCD.out _ _ _ hk1 hk2 hk3)
      have HB2 := hide hb2
      clear hk1 hk2 hk3 hb2 HCD
      simp only [erV]
      go_wp2_with fail
      generalize (W1.alloc (.cells #[.nilIface, .iface 129 (.int .i64 m2), .iface 131 (.int .i64 m3)] 77)) = W2 at *
      refine HC.out.mono ?_
      rintro e w3 ⟨rfl, hb3⟩
      have hB3 := HB2.out.trans (hb3.mono HB2.out.size)
      rcases HCC.out with ⟨hcd, _⟩ | ⟨hcd, hv⟩
      · exact absurd hcd (by simp [erC, erK])
      have HV := hide hv
      simp only [erC, erK] at HV ⊢
      clear hcd hv HCC
      go_wp2
      go_ret3
      exact ⟨rt3_of HV.out, hB3⟩
  rcases hor3 with rfl | ⟨m3, rfl⟩
  rotate_left
  · have hb2 : Below w.heap.size w (W1.alloc (.cells #[.nilIface, .nilIface, .iface 131 (.int .i64 m3)] 77)) := HB1.out.alloc HB1.out.size _
    have HC := hide (codeOf_any (some ⟨W1.heap.size, 0, none⟩) [Er.none, Er.none, (Er.M m3)] 3 (W1.alloc (.cells #[.nilIface, .nilIface, .iface 131 (.int .i64 m3)] 77)) (by simp) (ersAt_new3 _ _ _) (HGT.out _ hb2))
    have HCC := hide (HCD.out _ _ _ hk1 hk2 hk3)
    have HB2 := hide hb2
    clear hk1 hk2 hk3 hb2 HCD
    simp only [erV]
    go_wp2_with fail
    generalize (W1.alloc (.cells #[.nilIface, .nilIface, .iface 131 (.int .i64 m3)] 77)) = W2 at *
    refine HC.out.mono ?_
    rintro e w3 ⟨rfl, hb3⟩
    have hB3 := HB2.out.trans (hb3.mono HB2.out.size)
    rcases HCC.out with ⟨hcd, _⟩ | ⟨hcd, hv⟩
    · exact absurd hcd (by simp [erC, erK])
    have HV := hide hv
    simp only [erC, erK] at HV ⊢
    clear hcd hv HCC
    go_wp2
    go_ret3
    exact ⟨rt3_of HV.out, hB3⟩
  have hb2 : Below w.heap.size w (W1.alloc (.cells #[.nilIface, .nilIface, .nilIface] 77)) := HB1.out.alloc HB1.out.size _
  have HC := hide (codeOf_any (some ⟨W1.heap.size, 0, none⟩) [Er.none, Er.none, Er.none] 3 (W1.alloc (.cells #[.nilIface, .nilIface, .nilIface] 77)) (by simp) (ersAt_new3 _ _ _) (HGT.out _ hb2))
  have HCC := hide (HCD.out _ _ _ hk1 hk2 hk3)
  have HB2 := hide hb2
  clear hk1 hk2 hk3 hb2 HCD
  simp only [erV]
  go_wp2_with fail
  generalize (W1.alloc (.cells #[.nilIface, .nilIface, .nilIface] 77)) = W2 at *
  refine HC.out.mono ?_
  rintro e w3 ⟨rfl, hb3⟩
  have hB3 := HB2.out.trans (hb3.mono HB2.out.size)
  rcases HCC.out with ⟨hcd, h1, h2, h3⟩ | ⟨hcd, hv⟩
  rotate_left
  · exact absurd hcd (by simp [erC, erK])
  simp only [erC, erK]
  have HV := hide (HNH.out h2 h1 h3)
  have h8 : n ≤ 8 := by omega
  have HAPP := hide (HAP.out h1 h2)
  have HHH := hide (HHO.out w3 h8 hB3)
  have hws := hB3.size
  have HSU := hide (allC_succ O)
  have HAN := hide (allC_len O)
  have HZ0 : Hid (allC O 0 = []) := hide rfl
  clear hcd h1 h2 h3 HNH HAP HHO hb3 HCC
  go_wp2_with fail
  refine HHH.out.mono ?_
  rintro e w4 ⟨Am, cm, rfl, hIm, hb4⟩
  have HIM := hide hIm
  have hB4 := hB3.trans (hb4.mono hB3.size)
  have z4 := hB4.size
  clear hIm hb4 HHH
  go_wp2
  go_loopw [8, 27] (fun br i wr => ∃ k : Nat, k ≤ n ∧ i = .int .i64 k ∧ wr.ownsRow w4.heap.size 99 2 br (allC O k).length ((fl (allC O k)).map (.int .i64)) ∧ Below w4.heap.size w4 wr)
    (fun _ i _ => n - (intOf i).toNat)
  case atStart => exact ⟨0, by omega, rfl, by rw [HZ0.out]; exact World.ownsRow_nil _ _ _ _, Below.refl _ _⟩
  case round =>
    obtain ⟨k, hk, rfl, hown, hBw⟩ := hrel
    have hln : (allC O k).length ≤ k := Nat.le_of_eq (HAN.out k)
    obtain ⟨Ab, cbb, rfl, hcap, _⟩ := cellsIn_of_own hown (by omega)
    have HOWN := hide hown
    clear hown
    have hbs := hBw.size
    have hB5 := hB4.trans (hBw.mono hB4.size)
    by_cases hlt : k < n
    · obtain ⟨l, hlk⟩ : ∃ l, ls[k]? = some l := ⟨ls[k]'(by rw [HN.out]; exact hlt), List.getElem?_eq_getElem _⟩
      have hgg := HHG.out k l hlk
      obtain ⟨b, oo, rfl, hb, hrow⟩ := HIM.out (by intro e; rw [HN.out] at e; rw [e] at hgg; simp at hgg)
      rw [HN.out] at hrow
      have hr := rangeAt_below (hrow k _ hgg) hBw hb
      obtain ⟨lA, lx, lc⟩ := l
      have c0 : wr.cell? ⟨b, oo + k * 2, none⟩ = some (.slice lA lx.length lc) := hr 0 _ rfl
      have c1 : wr.cell? ⟨b, oo + k * 2 + 1, none⟩ = some (.int .i64 k) := hr 1 _ rfl
      have hi : (k : Int) < n := by omega
      have h0 : (0 : Int) ≤ k := by omega
      have HCA := hide (HAPP.out (lA, lx, lc) (List.mem_of_getElem? hlk))
      rw [← HO.out k _ hlk] at HCA
      have HE := hide (HSU.out k)
      have HRA := hide (rangeAt_new' wr #[.slice lA lx.length lc, .int .i64 (k : Int)] 96)
      have hBA : Below w4.heap.size w4 (wr.alloc (.cells #[.slice lA lx.length lc, .int .i64 (k : Int)] 96)) := hBw.alloc hbs _
      have HS7 := hide (show (wr.alloc (.cells #[.slice lA lx.length lc, .int .i64 (k : Int)] 96)).heap.size = wr.heap.size + 1 by simp)
      have HOWN7 := hide (HOWN.out.alloc (.cells #[.slice lA lx.length lc, .int .i64 (k : Int)] 96))
      clear hgg hrow hr hlk
      change Hid (∀ W, Below w.heap.size w W → Calls Tryd.prog 55 #[.slice lA lx.length lc, .slice B gs.length d] W fun e w' => e = .returned (.int .i64 (O k)) ∧ Below W.heap.size W w') at HCA
      generalize lx.length = ln at *
      generalize gs.length = gn at *
      generalize O k = U at *
      go_wp2
      generalize (wr.alloc (.cells #[.slice lA ln lc, .int .i64 (k : Int)] 96)) = W7 at *
      refine wp_region_script [(0, true), (1, true), (2, true), (3, true), (4, true), (5, true), (6, false), (7, false), (8, false), (9, false), (10, false)]
        (fun w' => Below w4.heap.size w4 w' ∧ w'.rangeAt wr.heap.size 0 [.slice lA ln lc, .int .i64 (k : Int)]) (by kernel_rfl) (by kernel_rfl) (of_decide_eq_true (by kernel_rfl)) (by kernel_rfl) (fun _ _ d _ _ h => by cases d <;> exact h) (⟨hBA.drew, HRA.out⟩) ?_
      refine sc_take (.slice Ab (allC O k).length cbb) rfl (.inl ⟨rfl, fun w' h => rfl⟩) ?_
      simp only [List.getElem_toArray, List.getElem_cons_succ, List.getElem_cons_zero, Act.put, List.setIfInBounds_toArray, List.set_cons_zero, List.set_cons_succ]
      refine sc_take (.pointer (some ⟨wr.heap.size, 1, none⟩)) rfl (.inl ⟨rfl, fun w _ => by kernel_rfl⟩) ?_
      simp only [List.getElem_toArray, List.getElem_cons_succ, List.getElem_cons_zero, Act.put, List.setIfInBounds_toArray, List.set_cons_zero, List.set_cons_succ]
      refine sc_take (.int .i64 (k : Int)) rfl (yi_cell rfl rfl rfl (fun _ => by kernel_rfl) (fun w h => h.2 1 _ rfl)) ?_
      simp only [List.getElem_toArray, List.getElem_cons_succ, List.getElem_cons_zero, Act.put, List.setIfInBounds_toArray, List.set_cons_zero, List.set_cons_succ]
      refine sc_take (.pointer (some ⟨wr.heap.size, 0, none⟩)) rfl (.inl ⟨rfl, fun w _ => by kernel_rfl⟩) ?_
      simp only [List.getElem_toArray, List.getElem_cons_succ, List.getElem_cons_zero, Act.put, List.setIfInBounds_toArray, List.set_cons_zero, List.set_cons_succ]
      refine sc_take (.slice lA ln lc) rfl (yi_cell rfl rfl rfl (fun _ => by kernel_rfl) (fun w h => h.2 0 _ rfl)) ?_
      simp only [List.getElem_toArray, List.getElem_cons_succ, List.getElem_cons_zero, Act.put, List.setIfInBounds_toArray, List.set_cons_zero, List.set_cons_succ]
      refine sc_take (.slice B gn d) rfl (.inl ⟨rfl, fun w' h => rfl⟩) ?_
      simp only [List.getElem_toArray, List.getElem_cons_succ, List.getElem_cons_zero, Act.put, List.setIfInBounds_toArray, List.set_cons_zero, List.set_cons_succ]
      have hSd : Below W7.heap.size W7 W7.drew := (Below.refl _ _).drew
      have h7B := hB4.trans (hBA.mono hB4.size)
      refine sc_step rfl ?_
      go_wp2_with fail
      refine (HCA.out _ h7B.drew).mono ?_
      rintro e w2 ⟨rfl, hb2⟩
      have hx2 : Below W7.heap.size W7 w2 := hSd.trans hb2
      have hs2 : Below w4.heap.size w4 w2 ∧ w2.rangeAt wr.heap.size 0 [.slice lA ln lc, .int .i64 (k : Int)] := ⟨hBA.trans (hx2.mono hBA.size), rangeAt_below HRA.out hx2 (by have := HS7.out; omega)⟩
      clear hb2
      go_wp2_with fail
      refine ⟨hs2, sc_step rfl ?_⟩
      go_wp2_with fail
      refine ⟨hs2, sc_step rfl ?_⟩
      go_wp2_with fail
      have hx4 : Below W7.heap.size W7 (w2.alloc (.cells #[.int .i64 (k : Int), .int .i64 U] 99)) := hx2.alloc hx2.size _
      have hs4 : Below w4.heap.size w4 (w2.alloc (.cells #[.int .i64 (k : Int), .int .i64 U] 99)) ∧ (w2.alloc (.cells #[.int .i64 (k : Int), .int .i64 U] 99)).rangeAt wr.heap.size 0 [.slice lA ln lc, .int .i64 (k : Int)] := ⟨hBA.trans (hx4.mono hBA.size), rangeAt_below HRA.out hx4 (by have := HS7.out; omega)⟩
      refine ⟨hs4, sc_step rfl ?_⟩
      have hownd := own_go HOWN7.out hx4
      have hz3 := hx2.size
      have hz7 := HS7.out
      refine wpList_append_own _ rfl (.tmp 31) (.tmp 39) 91 rfl w4.heap.size 99 i0 (.agg #[.int .i64 0, .int .i64 0]) 2 16 Tryd.underlying91 hi0 hz0 hz1 hz2 rfl (by decide) _ (allC O k).length _ rfl hownd ⟨w2.heap.size, 0, none⟩ 1 1 [.int .i64 (k : Int), .int .i64 U] rfl rfl (two_cell _ _) (two_one rfl rfl) ?h1 ?h2 ?h3 ?_
      case h1 => unfold maxLen; omega
      case h2 => omega
      case h3 => exact hs4.1.size
      intro v' w5 hown5 hg5 _
      obtain ⟨A5, c5, rfl, _, _⟩ := cellsIn_of_own hown5 (by omega)
      have H5 := hide hown5
      have hlt9 : wr.heap.size < (w2.alloc (.cells #[.int .i64 (k : Int), .int .i64 U] 99)).heap.size := by simp; omega
      have hS5 : Below w4.heap.size w4 w5 ∧ w5.rangeAt wr.heap.size 0 [.slice lA ln lc, .int .i64 (k : Int)] := ⟨hs4.1.trans (grown_toBelow hg5 hs4.1.size (fun k hk => (hownd.lt k hk).1)), grown_row hg5 hs4.2 hlt9 (fun e => by have := (HOWN.out.lt _ e.symm).2; omega)⟩
      clear hown5 hg5
      go_wp2_with fail
      refine ⟨hS5, sc_step rfl ?_⟩
      go_wp2_with fail
      refine ⟨hS5, sc_nil ?_⟩
      go_wp2
      refine ⟨⟨k + 1, by omega, by go_num, ?_, hS5.1⟩, by simp [intOf]; omega⟩
      rw [HE.out, fl_app, List.map_append, List.length_append]
      exact H5.out
    · obtain rfl : k = n := by omega
      obtain ⟨Ag, cg, e, _, hI⟩ := p2In_of_own HOWN.out
      injection e with e1' e2' e3'
      subst e1' e3'
      have HLC := hide (leastChoice_any Ab (allC O k) cbb wr (by omega) hI.at_)
      rw [← HV.out] at HLC
      clear hI hln hcap
      generalize (allC O k).length = nn at *
      go_wp2_with fail
      refine HLC.out.mono ?_
      rintro e w7 ⟨rfl, hb7⟩
      go_wp2
      go_ret3
      exact ⟨rfl, hB5.trans (hb7.mono hB5.size)⟩
end Go.Proofs.YtjmkbdghenjlaaaDoor
