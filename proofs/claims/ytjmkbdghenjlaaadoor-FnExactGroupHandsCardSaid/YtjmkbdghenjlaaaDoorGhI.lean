/- Groups of hands: the program's search. -/
import Derived.Test.YtjmkbdghenjlaaaDoorGhQ
import Derived.Test.YtjmkbdghenjlaaaDoorGs
namespace Go.Proofs.YtjmkbdghenjlaaaDoor
open Go Go.RowKit

set_option maxRecDepth 100000 in
set_option maxHeartbeats 16000000 in
theorem spread_any (ls : List Iss) (n : Nat) (lim : Int) (G pG pH pL pF B0 : Nat) (Ah : Option Addr) (ch : Nat) (c : Int) (hn : n ≤ 8) (hln : ls.length = n) (hgv : ∀ l ∈ ls, gvB l.2.1 = true) (hd : (pG ≠ G ∧ pH ≠ G) ∧ (pL ≠ G ∧ pF ≠ G) ∧ B0 ≤ G) (hc : 0 ≤ c ∧ c ≤ 100) :
    ∀ (m : Nat) (W : World) (xs : List Int) (i : Nat) (l : Iss), ls[i]? = some l → StG ls n lim G pG pH pL pF B0 Ah ch W → OutA W G xs → xs.length = n → xs.getD i 0 = -1 → noG xs ≤ m →
    Calls Tryd.prog 96 #[.agg #[.slice l.1 l.2.1.length l.2.2, .int .i64 (i : Int)], .int .i64 c, .pointer (some ⟨pG, 0, none⟩), .pointer (some ⟨pH, 0, none⟩), .pointer (some ⟨pL, 0, none⟩), .pointer (some ⟨pF, 0, none⟩)] W fun e w' => e = .returned (.tuple #[]) ∧ (W.grownBy w' (some G) ∧ OutA w' G (sprd (nearH (issD ls) lim) xs i c))
  | 0, W, xs, i, l, hl, _, _, hlen, hneg, hm => by
    have hi : i < xs.length := by have := (List.getElem?_eq_some_iff.1 hl).1; omega
    have := noG_set hi hneg hc.1
    omega
  | m + 1, W, xs, i, l, hl, hS, hO, hlen, hneg, hm => by
    have IH := hide (spread_any ls n lim G pG pH pL pF B0 Ah ch c hn hln hgv hd hc m)
    have hin : i < n := by have := (List.getElem?_eq_some_iff.1 hl).1; omega
    have hGW := hS.2.2.2.2.2.2.2
    obtain ⟨lA, lx, lc⟩ := l
    have hgl := hgv _ (List.mem_of_getElem? hl)
    have HNR := hide (fun b l' (h' : ls[b]? = some l') => nearH_at (lim := lim) hl h')
    have HGV := hide hgv
    have HD := hide hd
    have g0 : W.grownBy (W.alloc (.cells #[.slice lA lx.length lc, .int .i64 (i : Int)] 96)) (some G) := grown_below ((Below.refl _ _).alloc (Nat.le_refl _) _)
    have rT := rangeAt_new' W #[.slice lA lx.length lc, .int .i64 (i : Int)] 96
    have sT : (W.alloc (.cells #[.slice lA lx.length lc, .int .i64 (i : Int)] 96)).heap.size = W.heap.size + 1 := by simp
    have S1 := hS.grown hd g0
    have O1 : OutA (W.alloc (.cells #[.slice lA lx.length lc, .int .i64 (i : Int)] 96)) G xs := hO.below ((Below.refl W.heap.size W).alloc (Nat.le_refl _) _) hGW
    have HLX := hide hlen
    have HAP := hide (fun l' (h' : l' ∈ ls) Wx (hS' : StG ls n lim G pG pH pL pF B0 Ah ch Wx) => apart_any lA lx lc l'.1 l'.2.1 l'.2.2 Wx (gv_true hgl) (gv_true (hgv l' h')) ((hS'.2.2.2.2.2.1 _ (List.mem_of_getElem? hl)).mono hS'.2.2.2.2.2.2.1) ((hS'.2.2.2.2.2.1 l' h').mono hS'.2.2.2.2.2.2.1))
    have HNOG := hide (fun cur (h : Mid (nearH (issD ls) lim) xs i c cur) => mid_noG (nearH (issD ls) lim) hc.1 (by rw [hlen]; exact hin) hneg h)
    have HGO := hide (fun k cur (h : Mid (nearH (issD ls) lim) xs i c cur) h2 (hk : k < n) hK hnr => cloP_go (k := k) (nearH (issD ls) lim) hc.1 h h2 (by rw [hlen]; exact hin) (by rw [hlen]; exact hk) hK hnr)
    have HEND := hide (fun cur (h : Mid (nearH (issD ls) lim) xs i c cur) h2 => cloP_end (nearH (issD ls) lim) h h2 (by rw [hlen]; exact hin))
    have HM0 := hide (mid_start (nearH (issD ls) lim) (c := c) (show i < xs.length by rw [hlen]; exact hin))
    have HC0 := hide (cloP_start (nearH (issD ls) lim) (out := xs) (i := i) hc.1)
    have HHG := hide (fun k l (h : ls[k]? = some l) => show (hdz ls n)[k]? = some (l, k) by rw [← hln]; exact hdz_get h)
    have HLN := hide hln
    have HMM := hide hm
    generalize hnr : nearH (issD ls) lim = near at *
    have HNE := hide hnr
    clear hnr
    have e1 := S1.1
    have e2 := S1.2.1
    obtain ⟨v0, hv0, hf0⟩ := there_some O1.1 (j := i) (by rw [hlen]; exact hin)
    simp only [Nat.zero_add] at hv0 hf0
    have hii : (i : Int) < n := by omega
    have hi0 : (0 : Int) ≤ i := by omega
    have d1 : (W.alloc (.cells #[.slice lA lx.length lc, .int .i64 (i : Int)] 96)).cell? ⟨W.heap.size, 1, none⟩ = some (.int .i64 i) := rT 1 _ rfl
    have ga := grown_set (r := G) (grown_refl W (some G)) i (.int .i64 c)
    have sa : (W.setCell ⟨G, i, none⟩ (.int .i64 c)).heap.size = W.heap.size := size_setCell _ _ _
    have gb := grown_trans ga (grown_below ((Below.refl (W.setCell ⟨G, i, none⟩ (.int .i64 c)).heap.size _).alloc (Nat.le_refl _) (.cells #[.slice lA lx.length lc, .int .i64 (i : Int)] 96)))
    have Oa := hO.set (j := i) (by rw [hlen]; exact hin) c
    have HGB := hide gb
    have S2 := hide (hS.grown hd gb)
    have O2 := hide (Oa.below ((Below.refl (W.setCell ⟨G, i, none⟩ (.int .i64 c)).heap.size _).alloc (Nat.le_refl _) (.cells #[.slice lA lx.length lc, .int .i64 (i : Int)] 96)) (by rw [sa]; exact hGW))
    have HRT := hide (rangeAt_newg (w := W.setCell ⟨G, i, none⟩ (.int .i64 c)) (cs := #[.slice lA lx.length lc, .int .i64 (i : Int)]) (t := 96) (g := W.heap.size) (l := [.slice lA lx.length lc, .int .i64 (i : Int)]) sa.symm rfl)
    have HSB := hide (show ((W.setCell ⟨G, i, none⟩ (.int .i64 c)).alloc (.cells #[.slice lA lx.length lc, .int .i64 (i : Int)] 96)).heap.size = W.heap.size + 1 by simp [size_setCell])
    have e3 := S2.out.2.1
    clear hl hS hO hgl hgv hd hlen hneg hm g0 rT S1 O1 hln hc ga sa gb Oa sT
    generalize lx.length = ln at *
    go_enter Tryd.func96, Tryd.ntmps96
    go_wp2
    generalize ((W.setCell ⟨G, i, none⟩ (.int .i64 c)).alloc (.cells #[.slice lA ln lc, .int .i64 (i : Int)] 96)) = W1 at *
    clear e1 e2 e3 hv0 hf0 d1
    go_loopw [17] (fun ix wr => ∃ (k : Nat) (cur : List Int), k ≤ n ∧ ix = .int .i64 k ∧ Hid (Mid near xs i c cur) ∧ Hid (CloP near xs i c k cur) ∧ Hid (OutA wr G cur) ∧ Hid (W1.grownBy wr (some G))) (fun ix _ => n - (intOf ix).toNat)
    case atStart => exact ⟨0, xs.set i c, by omega, rfl, HM0, HC0, O2, hide (grown_refl _ _)⟩
    case round =>
      obtain ⟨k, cur, hk, rfl, HMI, HCL, HO, HGR⟩ := hrel
      have HS := hide (S2.out.grown HD.out HGR.out)
      have hGr := HS.out.2.2.2.2.2.2.2
      have hT : W.heap.size < wr.heap.size := by have := HGR.out.size; have := HSB.out; omega
      by_cases hlt : k < n
      · obtain ⟨l, hlk⟩ : ∃ l, ls[k]? = some l := ⟨ls[k]'(by rw [HLN.out]; exact hlt), List.getElem?_eq_getElem _⟩
        have hgg := HHG.out k l hlk
        obtain ⟨b, oo, hAh, hb, hrow⟩ := HS.out.2.2.2.2.1 (by intro e; rw [e] at hgg; simp at hgg)
        have hr := hrow k _ hgg
        have HNK := hide (HNR.out k l hlk)
        have HGK := hide (HGO.out k cur HMI.out HCL.out hlt)
        have HSK := hide (fun h => cloP_skip near HCL.out h)
        have HNG := hide (HNOG.out cur HMI.out)
        have HIHK := hide (fun Wx hs ho => IH.out Wx cur k l hlk hs ho (HMI.out.1.trans HLX.out))
        have HAPK := hide (HAP.out l (List.mem_of_getElem? hlk))
        obtain ⟨mA, mx, mc⟩ := l
        have c0 : wr.cell? ⟨b, oo + k * 2, none⟩ = some (.slice mA mx.length mc) := hr 0 _ rfl
        have c1 : wr.cell? ⟨b, oo + k * 2 + 1, none⟩ = some (.int .i64 k) := hr 1 _ rfl
        have hi : (k : Int) < n := by omega
        have h0 : (0 : Int) ≤ k := by omega
        have hcl : cur.length = n := HMI.out.1.trans HLX.out
        have b7 : Below wr.heap.size wr (wr.alloc (.cells #[.slice mA mx.length mc, .int .i64 (k : Int)] 96)) := (Below.refl _ _).alloc (Nat.le_refl _) _
        have S7 := hide (HS.out.grown HD.out (grown_below b7))
        have O7 := hide (HO.out.below b7 hGr)
        have r7 := rangeAt_new' wr #[.slice mA mx.length mc, .int .i64 (k : Int)] 96
        have rT7 := rangeAt_below (grown_row HGR.out HRT.out (by have := HSB.out; omega) (fun e => by injection e with e; omega)) b7 hT
        have HG7 := hide (grown_trans HGR.out (grown_below b7))
        have HS8 := hide (show (wr.alloc (.cells #[.slice mA mx.length mc, .int .i64 (k : Int)] 96)).heap.size = wr.heap.size + 1 by simp)
        have q1 := Over.get S7.out.1
        have q2 := Over.get (show (wr.alloc (.cells #[.slice mA mx.length mc, .int .i64 (k : Int)] 96)).cell? ⟨wr.heap.size, 1, none⟩ = some (.int .i64 (k : Int)) from r7 1 _ rfl)
        have q3 := Over.get (O7.out.get (j := k) (by rw [hcl]; exact hlt))
        have q4 := Over.get (show (wr.alloc (.cells #[.slice mA mx.length mc, .int .i64 (k : Int)] 96)).cell? ⟨W.heap.size, 0, none⟩ = some (.slice lA ln lc) from rT7 0 _ rfl)
        have q5 := Over.get (show (wr.alloc (.cells #[.slice mA mx.length mc, .int .i64 (k : Int)] 96)).cell? ⟨wr.heap.size, 0, none⟩ = some (.slice mA mx.length mc) from r7 0 _ rfl)
        have q6 := Over.get S7.out.2.2.1
        have HR7 := hide r7
        generalize hvt : cur.getD k 0 = vt at *
        generalize hap : apV lx (mA, mx, mc).2.1 = ap at *
        have HVT := hide hvt
        have HAPV := hide hap
        have HCLN := hide hcl
        have HCA := hide (fun s : Over (wr.alloc (.cells #[.slice mA mx.length mc, .int .i64 (k : Int)] 96)) => HAPK.out s.w (S7.out.grown HD.out (grown_below s.h)))
        clear r7 rT7 hr hrow hgg b7 hvt hap hlk hcl
        subst hAh
        by_cases h1 : vt = -1
        · have d1 : (vt == -1) = true := by simpa using h1
          by_cases h2 : ap ≤ lim
          · have d2 : decide (ap ≤ lim) = true := by simpa using h2
            have HN1 := hide (HGK.out h1 (HNK.out.trans d2))
            have HI1 := hide (fun Wx hs ho => HIHK.out Wx hs ho h1 (by have h3 := HNG.out; have h4 := HMM.out; omega))
            clear h1 h2 HGK HSK HIHK
            go_wp2
            refine wp_region_over (by kernel_rfl) (by kernel_rfl) ?_
            repeat (go_big_quiet_step ((go_at_call 55; exact over_call (HCA.out _))))
            refine wpQuiet_nil ?_
            intro w3 hb3
            have O3 := hide (O7.out.below hb3 (by have := HS8.out; omega))
            have HG3 := hide (grown_trans HG7.out (grown_below hb3))
            have S3 := hide (S7.out.grown HD.out (grown_below hb3))
            have e4 := S3.out.2.2.2.1
            have hlt9 : wr.heap.size < (wr.alloc (.cells #[.slice mA mx.length mc, .int .i64 (k : Int)] 96)).heap.size := by have := HS8.out; omega
            have k0 : w3.cell? ⟨wr.heap.size, 0, none⟩ = some (.slice mA mx.length mc) := (hb3.cell (p := ⟨wr.heap.size, 0, none⟩) hlt9).trans (HR7.out 0 _ rfl)
            have k1 : w3.cell? ⟨wr.heap.size, 1, none⟩ = some (.int .i64 (k : Int)) := (hb3.cell (p := ⟨wr.heap.size, 1, none⟩) hlt9).trans (HR7.out 1 _ rfl)
            have HII := hide (HI1.out w3 S3.out O3.out)
            clear q1 q2 q3 q4 q5 q6 c0 c1 hb3
            go_wp2_with fail
            refine HII.out.mono ?_
            rintro e w4 ⟨rfl, hg4, hO4⟩
            have HO4 := hide hO4
            have HG4 := hide (grown_trans HG3.out hg4)
            clear hO4 hg4
            go_wp2
            exact ⟨⟨k + 1, _, by omega, by go_num, hide HN1.out.1, hide HN1.out.2, HO4, HG4⟩, by simp [intOf]; omega⟩
          · have d2 : decide (ap ≤ lim) = false := by simpa using h2
            have HN1 := hide (HSK.out (fun _ => HNK.out.trans d2))
            clear h1 h2 HGK HSK HIHK
            go_wp2
            refine wp_region_over (by kernel_rfl) (by kernel_rfl) ?_
            repeat (go_big_quiet_step ((go_at_call 55; exact over_call (HCA.out _))))
            refine wpQuiet_nil ?_
            intro w3 hb3
            have O3 := hide (O7.out.below hb3 (by have := HS8.out; omega))
            have HG3 := hide (grown_trans HG7.out (grown_below hb3))
            clear q1 q2 q3 q4 q5 q6 c0 c1 hb3
            go_wp2
            exact ⟨⟨k + 1, cur, by omega, by go_num, HMI, HN1, O3, HG3⟩, by simp [intOf]; omega⟩
        · have d1 : (vt == -1) = false := by simpa using h1
          have HN1 := hide (HSK.out (fun h => absurd h h1))
          clear h1 HGK HSK HIHK
          go_wp2
          refine wp_region_over (by kernel_rfl) (by kernel_rfl) ?_
          repeat (go_big_quiet_step (fail))
          refine wpQuiet_nil ?_
          intro w3 hb3
          have O3 := hide (O7.out.below hb3 (by have := HS8.out; omega))
          have HG3 := hide (grown_trans HG7.out (grown_below hb3))
          clear q1 q2 q3 q4 q5 q6 c0 c1 hb3
          go_wp2
          exact ⟨⟨k + 1, cur, by omega, by go_num, HMI, HN1, O3, HG3⟩, by simp [intOf]; omega⟩
      · obtain rfl : k = n := by omega
        have HF := hide (HEND.out cur HMI.out (by rw [HLX.out]; exact HCL.out))
        have HGF := hide (grown_trans HGB.out HGR.out)
        have HOF : Hid (OutA wr G (sprd near xs i c)) := hide (by rw [← HF.out]; exact HO.out)
        clear HMI HCL HO HGR hGr
        go_wp2
        go_end0
        exact ⟨rfl, HGF.out, HOF.out⟩
end Go.Proofs.YtjmkbdghenjlaaaDoor
