/- Groups of hands, of the model. -/
import Derived.Test.YtjmkbdghenjlaaaDoorGhP
import Derived.Test.YtjmkbdghenjlaaaDoorHnS
namespace Go.Proofs.YtjmkbdghenjlaaaDoor
open Go Go.RowKit

set_option maxRecDepth 100000 in
set_option maxHeartbeats 16000000 in
theorem specGroupHands_any (A : Option Addr) (ls : List Iss) (c : Nat) (hn : ls.length ≤ maxLen) (x : Int) (hx : (Lit.int .i64 x).wf = true) (w : World) (hl : IssOk w ls) (hA : IssAt w w.heap.size A ls) :
    Calls Tryd.prog 25 #[.slice A ls.length c, .int .i64 x] w (IntsBack (ghR (issD ls) x) (ghC (issD ls) x) w) := by
  have HH := hide (l07Hands_any A ls c w hn hl hA)
  unfold maxLen at hn
  by_cases hC : ghC (issD ls) x = 0
  rotate_left
  · have HR := hide (gh_no hC)
    have HE : Hid (IntsIn (w.alloc (.cells #[] 2)) w.heap.size (some ⟨w.heap.size, 0, none⟩) [] ∧ Below w.heap.size w (w.alloc (.cells #[] 2))) := hide ⟨.empty _ _ _, (Below.refl _ _).alloc (Nat.le_refl _) _⟩
    unfold IntsBack
    rw [HR.out]
    by_cases h0 : hdC (issD ls) = 0
    · have hx0 : x < 0 := by unfold ghC at hC; rw [if_pos h0] at hC; split at hC <;> omega
      have hc2 : Hid (ghC (issD ls) x = 2) := hide (by unfold ghC; rw [if_pos h0, if_pos hx0])
      have hd : decide (x < 0) = true := by simpa using hx0
      rw [h0] at HH
      rw [hc2.out]
      clear hC h0 hA hl hx hx0 hn
      go_enter Tryd.func25, Tryd.ntmps25
      go_wp2_with fail
      refine HH.out.mono ?_
      rintro e w' ⟨rfl, rfl⟩
      go_wp2
      go_ret2
      exact ⟨_, _, rfl, HE.out⟩
    · have hc2 : ghC (issD ls) x = hdC (issD ls) := by unfold ghC; rw [if_neg h0]
      have hd : (hdC (issD ls) == 0) = false := by simpa using h0
      have hd2 : (hdC (issD ls) != 0) = true := by simpa using h0
      rw [hc2]
      clear hC h0 hA hl hx hn hc2
      generalize hdC (issD ls) = K at *
      go_enter Tryd.func25, Tryd.ntmps25
      go_wp2_with fail
      refine HH.out.mono ?_
      rintro e w' ⟨rfl, rfl⟩
      go_wp2
      go_ret2
      exact ⟨_, _, rfl, HE.out⟩
  have h0 : hdC (issD ls) = 0 := by
    rcases Decidable.em (hdC (issD ls) = 0) with h | h
    · exact h
    · unfold ghC at hC; rw [if_neg h] at hC; exact hC
  have hx0 : ¬ x < 0 := fun h => by unfold ghC at hC; rw [if_pos h0, if_pos h] at hC; cases hC
  have hd : decide (x < 0) = false := by simpa using hx0
  obtain ⟨hall, h8⟩ := hdC_zero h0
  have HR := hide (gh_ok hC)
  rw [h0] at HH
  have hall' := (allG_iss ls).trans hall
  have HAP := hide (fun l (h : l ∈ ls) l' (h' : l' ∈ ls) W (hW : Below w.heap.size w W) => l07Apart_any l.1 l.2.1 l.2.2 l'.1 l'.2.1 l'.2.2 W (gv_true (allG_mem hall' h)) (gv_true (allG_mem hall' h')) ((hl l h).2.go hW) ((hl l' h').2.go hW))
  have HNR := hide (fun a b l l' (h : ls[a]? = some l) (h' : ls[b]? = some l') => nearH_at (lim := x) h h')
  obtain ⟨i0, hi0, hz0, hz1, hz2⟩ := info_parts Tryd.infoI64
  have HA := hide hA
  obtain ⟨n, hN⟩ : ∃ n, ls.length = n := ⟨_, rfl⟩
  have HN := hide hN
  rw [issD_len] at h8 HR
  rw [hN] at hn h8 HR HH ⊢
  have hmk := fun W => run_make_rowN (P := Tryd.prog) 39 2 i0 _ Tryd.underlying39 hi0 hz0 .i64 .i64 n n (Nat.le_refl _) (by rw [hz2]; omega) (by omega) W
  rw [hC, HR.out]
  generalize nearH (issD ls) x = near at *
  have HINV := hide (grp_inv near n)
  have HNEW := hide (fun k h => @grp_new near n k h)
  have HOLD := hide (fun k h => @grp_old near n k h)
  have HG0 : Hid (grpS near n 0 = (List.replicate n (-1), 0)) := hide rfl
  clear hC h0 hx0 hall hall' hl hA hN hx HR
  unfold IntsBack
  go_enter Tryd.func25, Tryd.ntmps25
  go_wp2_with fail
  refine HH.out.mono ?_
  rintro e w' ⟨rfl, rfl⟩
  go_wp2
  go_loopw [8] (fun i wr => ∃ k : Nat, k ≤ n ∧ i = .int .i64 k ∧ wr.there w.heap.size 0 n ∧ Hid (∀ j, j < k → wr.cell? ⟨w.heap.size, j, none⟩ = some (.int .i64 (-1))) ∧ Below w.heap.size w wr ∧ w.heap.size < wr.heap.size) (fun i _ => n - (intOf i).toNat)
  case atStart => exact ⟨0, by omega, rfl, there_newg rfl (by simp [madeCells]), hide (fun j h => by omega), (Below.refl _ _).alloc (Nat.le_refl _) _, by simp⟩
  case round =>
    obtain ⟨k, hk, rfl, ht, HM, hB, hsz⟩ := hrel
    by_cases hlt : k < n
    · obtain ⟨v0, hv0, hf0⟩ := there_some ht (j := k) hlt
      simp only [Nat.zero_add] at hv0 hf0
      have hi : (k : Int) < n := by omega
      have hk0 : (0 : Int) ≤ k := by omega
      have HM2 : Hid (∀ j, j < k + 1 → (wr.setCell ⟨w.heap.size, k, none⟩ (.int .i64 (-1))).cell? ⟨w.heap.size, j, none⟩ = some (.int .i64 (-1))) := hide (fun j hj => by
        by_cases e : j = k
        · subst e; rw [World.cell?_setCell_same' _ _ _ (by rw [hv0]; rfl)]
        · rw [World.cell?_setCell_other _ _ _ _ (by intro h; injection h with _ h; exact e h.symm)]
          exact HM.out j (by omega))
      clear hmk
      go_wp2
      exact ⟨⟨k + 1, by omega, by go_num, there_set ht _ _, HM2, hB.setCell (p := ⟨w.heap.size, k, none⟩) (Nat.le_refl _) _, by rw [size_setCell]; exact hsz⟩, by simp [intOf]; omega⟩
    · obtain rfl : k = n := by omega
      have HXS : Hid (OutA wr w.heap.size (grpS near k 0).1) := hide (by
        rw [HG0.out]
        refine ⟨by rw [List.length_replicate]; exact ht, fun j v hv => ?_⟩
        have hj := (List.getElem?_eq_some_iff.1 hv).1
        rw [List.length_replicate] at hj
        rw [List.getElem?_replicate, if_pos hj] at hv
        injection hv with hv
        subst hv
        exact HM.out j hj)
      have HG20 : Hid ((0 : Int) = ((grpS near k 0).2 : Int)) := hide (by rw [HG0.out]; rfl)
      clear HM ht hmk
      go_wp2
      go_loopw [9, 10] (fun g i wr => ∃ m : Nat, m ≤ k ∧ i = .int .i64 m ∧ g = .int .i64 ((grpS near k m).2 : Int) ∧ Hid (OutA wr w.heap.size (grpS near k m).1) ∧ Below w.heap.size w wr ∧ w.heap.size < wr.heap.size) (fun _ i _ => k - (intOf i).toNat)
      case atStart => exact ⟨0, by omega, rfl, by rw [HG20.out], HXS, hB, hsz⟩
      case round =>
        clear HXS hB hsz HG20 HG0
        obtain ⟨m, hm, rfl, rfl, HO, hB, hsz⟩ := hrel
        obtain ⟨q1, q2, q3⟩ := HINV.out m
        have hlen := q1
        have HBD := hide q3
        by_cases hlt : m < k
        · have hmx : m < (grpS near k m).1.length := by rw [q1]; exact hlt
          have c0 := HO.out.get hmx
          have hb0 := (q3 m hlt).1
          have hi : (m : Int) < k := by omega
          have hk0 : (0 : Int) ≤ m := by omega
          have hw1 := IntWalk.i64_in (((grpS near k m).2 : Int) + 1) ⟨by omega, by omega⟩
          by_cases hneg : (grpS near k m).1.getD m 0 = -1
          · have HNX := hide (HNEW.out m hneg)
            obtain ⟨v0, hv0, hf0⟩ := there_some HO.out.1 (j := m) hmx
            simp only [Nat.zero_add] at hv0 hf0
            rw [hneg] at c0
            have HOS := hide (HO.out.set hmx ((grpS near k m).2 : Int))
            have HMS := hide (mid_start near (c := ((grpS near k m).2 : Int)) hmx)
            generalize (grpS near k m).2 = g at *
            generalize (grpS near k m).1 = xs at *
            have HNOG := hide (fun cur (h : Mid near xs m (g : Int) cur) => mid_noG near (by omega) hmx hneg h)
            have HSET := hide (fun cur a b ha hb hA hB hn h => @mid_set near xs m (g : Int) cur a b (by omega) (fun j hj => (HBD.out j (by rw [← hlen]; exact hj)).2) h ha hb hA hB hn)
            have HMB := hide (fun cur j (hj : j < k) h => @mid_bd near xs m (g : Int) cur (by omega) h (fun j hj => (HBD.out j (by rw [← hlen]; exact hj)).1) j (by rw [hlen]; exact hj))
            have HMEND := hide (fun cur h hcl => @mid_end near xs m (g : Int) cur (by omega) h hcl hmx)
            have hB' := hB.setCell (p := ⟨w.heap.size, m, none⟩) (Nat.le_refl _) (.int .i64 (g : Int))
            have hsz' : w.heap.size < (wr.setCell ⟨w.heap.size, m, none⟩ (.int .i64 (g : Int))).heap.size := by rw [size_setCell]; exact hsz
            have HLX := hide hlen
            clear hneg hb0 q1 q2 q3 hmx HO hB hsz hlen
            go_wp2
            go_loopw [11] (fun ch wr => ∃ (cb : Bool) (cur : List Int), ch = .bool cb ∧ Hid (Mid near xs m (g : Int) cur) ∧ Hid (cb = false → ∀ a b, a < k → b < k → cur.getD a 0 = (g : Int) → cur.getD b 0 = -1 → near a b = false) ∧ Hid (OutA wr w.heap.size cur) ∧ Below w.heap.size w wr ∧ w.heap.size < wr.heap.size) (fun ch wr => 2 * noGW wr w.heap.size k + mch ch)
            case atStart => exact ⟨true, _, rfl, HMS, hide (fun h => by cases h), HOS, hB', hsz'⟩
            case round =>
              clear HOS HMS hB' hsz'
              obtain ⟨cb, cur, rfl, HMI, HCL, HO, hB, hsz⟩ := hrel
              have HCLN := hide (HMI.out.1.trans HLX.out)
              cases cb
              · have HN := hide (HMEND.out cur HMI.out (fun a b ha hb => HCL.out rfl a b (by rw [← HLX.out]; exact ha) (by rw [← HLX.out]; exact hb)))
                clear HMI HCL
                go_wp2
                refine ⟨⟨m + 1, by omega, by go_num, ?_, ?_, hB, hsz⟩, by simp [intOf]; omega⟩
                · rw [HNX.out]; show _ = Value.int .i64 ((g + 1 : Nat) : Int); congr 1
                · rw [HNX.out]; show Hid (OutA _ _ (sprd near xs m (g : Int))); rw [← HN.out]; exact HO
              · have HMZ : Hid (noGW wr w.heap.size k = noG cur) := hide (by have := HO.out.noG; rwa [HCLN.out] at this)
                obtain ⟨W1, hW1⟩ : ∃ W1, W1 = wr := ⟨_, rfl⟩
                subst hW1
                have HPS := hide (pass_start near (g : Int) k cur)
                clear HCL
                go_wp2
                go_loopw [11, 12] (fun ch a wr => ∃ (cb : Bool) (cur' : List Int) (p : Nat), p ≤ k ∧ a = .int .i64 p ∧ ch = .bool cb ∧ Hid (Mid near xs m (g : Int) cur') ∧ Hid (PassI near (g : Int) k cur cur' p 0 cb) ∧ Hid (OutA wr w.heap.size cur') ∧ Below w.heap.size w wr ∧ w.heap.size < wr.heap.size) (fun _ a _ => k - (intOf a).toNat)
                case atStart => exact ⟨false, cur, 0, by omega, rfl, rfl, HMI, HPS, HO, hB, hsz⟩
                case round =>
                  clear HPS HMI HO hB hsz
                  obtain ⟨cb, cur', p, hp, rfl, rfl, HMI, HPI, HO, hB, hsz⟩ := hrel
                  by_cases hpk : p < k
                  · have hip : (p : Int) < k := by omega
                    have hp0 : (0 : Int) ≤ p := by omega
                    go_wp2
                    go_loopw [11, 13] (fun ch b wr => ∃ (cb : Bool) (cur' : List Int) (t : Nat), t ≤ k ∧ b = .int .i64 t ∧ ch = .bool cb ∧ Hid (Mid near xs m (g : Int) cur') ∧ Hid (PassI near (g : Int) k cur cur' p t cb) ∧ Hid (OutA wr w.heap.size cur') ∧ Below w.heap.size w wr ∧ w.heap.size < wr.heap.size) (fun _ b _ => k - (intOf b).toNat)
                    case atStart => exact ⟨cb, cur', 0, by omega, rfl, rfl, HMI, HPI, HO, hB, hsz⟩
                    case round =>
                      clear HPI HMI HO hB hsz
                      obtain ⟨cb, cur', t, ht, rfl, rfl, HMI, HPI, HO, hB, hsz⟩ := hrel
                      by_cases htk : t < k
                      · have hit : (t : Int) < k := by omega
                        have ht0 : (0 : Int) ≤ t := by omega
                        have hcl : cur'.length = k := HMI.out.1.trans HLX.out
                        have e1 := HO.out.get (j := p) (by rw [hcl]; exact hpk)
                        have e2 := HO.out.get (j := t) (by rw [hcl]; exact htk)
                        have HVT := hide (HMB.out cur' t htk HMI.out)
                        obtain ⟨b, o, rfl, hb, hxs⟩ := HA.out (by intro e; rw [e] at HN; have := HN.out; simp at this; omega)
                        obtain ⟨lp, hlp⟩ : ∃ l, ls[p]? = some l := ⟨ls[p]'(by rw [HN.out]; exact hpk), List.getElem?_eq_getElem _⟩
                        obtain ⟨lt, hlt'⟩ : ∃ l, ls[t]? = some l := ⟨ls[t]'(by rw [HN.out]; exact htk), List.getElem?_eq_getElem _⟩
                        have e3 : wr.cell? ⟨b, o + p, none⟩ = some (.slice lp.1 lp.2.1.length lp.2.2) := (hB.cell (p := ⟨b, o + p, none⟩) hb).trans (hxs p lp hlp)
                        have e4 : wr.cell? ⟨b, o + t, none⟩ = some (.slice lt.1 lt.2.1.length lt.2.2) := (hB.cell (p := ⟨b, o + t, none⟩) hb).trans (hxs t lt hlt')
                        have HCA := hide (fun s : Over wr => HAP.out lp (List.mem_of_getElem? hlp) lt (List.mem_of_getElem? hlt') s.w (hB.trans (s.h.mono hB.size)))
                        have HNE := hide (HNR.out p t lp lt hlp hlt')
                        have HKEEP := hide (fun hno => pass_keep near HPI.out hno)
                        have HHIT := hide (fun cur2 hlt m' t' => @pass_hit near (g : Int) k cur cur' cur2 p t cb HPI.out hlt m' t')
                        have HST := hide (fun hA hB hn => HSET.out cur' p t (by rw [HLX.out]; exact hpk) (by rw [HLX.out]; exact htk) hA hB hn HMI.out)
                        have c1 := Over.get e1
                        have c2 := Over.get e2
                        have c3 := Over.get e3
                        have c4 := Over.get e4
                        have hbs := hB.size
                        have HCLX := hide hcl
                        generalize hvp : cur'.getD p 0 = vp at *
                        generalize hvt : cur'.getD t 0 = vt at *
                        generalize apV lp.2.1 lt.2.1 = ap at *
                        have HVP := hide hvp
                        have HVV := hide hvt
                        clear hxs hlp hlt' e1 e2 e3 e4 hcl hvp hvt
                        by_cases h1 : vp = (g : Int)
                        · have d1 : (vp == (g : Int)) = true := by simpa using h1
                          by_cases h2 : vt < 0
                          · have d2 : decide (vt < 0) = true := by simpa using h2
                            have HV1 : Hid (vt = -1) := hide (by have := HVT.out; omega)
                            by_cases h3 : ap ≤ x
                            · have d3 : decide (ap ≤ x) = true := by simpa using h3
                              have HS2 := hide (HST.out h1 HV1.out (HNE.out.trans d3))
                              have HP2 := hide (HHIT.out (cur'.set t (g : Int)) HS2.out.2 p (t + 1))
                              clear h1 h2 h3 HKEEP HHIT HST HNE
                              go_wp2
                              refine wp_region_over (by kernel_rfl) (by kernel_rfl) ?_
                              repeat (go_big_quiet_step ((go_at_call 52; exact over_call (HCA.out _))))
                              refine wpQuiet_nil ?_
                              intro w3 hb3
                              have HO3 := hide (HO.out.below hb3 hsz)
                              have hB3 := hB.trans (hb3.mono hbs)
                              have hsz3 : w.heap.size < w3.heap.size := Nat.lt_of_lt_of_le hsz hb3.size
                              obtain ⟨v0, hv0, hf0⟩ := there_some HO3.out.1 (j := t) (by rw [HCLX.out]; exact htk)
                              simp only [Nat.zero_add] at hv0 hf0
                              have HO4 := hide (HO3.out.set (j := t) (by rw [HCLX.out]; exact htk) (g : Int))
                              clear c1 c2 c3 c4 hb3
                              go_wp2
                              exact ⟨⟨true, _, t + 1, by omega, by go_num, rfl, hide HS2.out.1, HP2, HO4, hB3.setCell (p := ⟨w.heap.size, t, none⟩) (Nat.le_refl _) _, by rw [size_setCell]; exact hsz3⟩, by simp [intOf]; omega⟩
                            · have d3 : decide (ap ≤ x) = false := by simpa using h3
                              have HP2 := hide (HKEEP.out (fun _ _ => HNE.out.trans d3))
                              clear h1 h2 h3 HKEEP HHIT HST HNE
                              go_wp2
                              refine wp_region_over (by kernel_rfl) (by kernel_rfl) ?_
                              repeat (go_big_quiet_step ((go_at_call 52; exact over_call (HCA.out _))))
                              refine wpQuiet_nil ?_
                              intro w3 hb3
                              have HO3 := hide (HO.out.below hb3 hsz)
                              have hB3 := hB.trans (hb3.mono hbs)
                              have hsz3 : w.heap.size < w3.heap.size := Nat.lt_of_lt_of_le hsz hb3.size
                              clear c1 c2 c3 c4 hb3
                              go_wp2
                              exact ⟨⟨cb, _, t + 1, by omega, by go_num, rfl, HMI, HP2, HO3, hB3, hsz3⟩, by simp [intOf]; omega⟩
                          · have d2 : decide (vt < 0) = false := by simpa using h2
                            have HP2 := hide (HKEEP.out (fun _ hB => by omega))
                            clear h1 h2 HKEEP HHIT HST HNE
                            go_wp2
                            refine wp_region_over (by kernel_rfl) (by kernel_rfl) ?_
                            repeat (go_big_quiet_step (fail))
                            refine wpQuiet_nil ?_
                            intro w3 hb3
                            have HO3 := hide (HO.out.below hb3 hsz)
                            have hB3 := hB.trans (hb3.mono hbs)
                            have hsz3 : w.heap.size < w3.heap.size := Nat.lt_of_lt_of_le hsz hb3.size
                            clear c1 c2 c3 c4 hb3
                            go_wp2
                            exact ⟨⟨cb, _, t + 1, by omega, by go_num, rfl, HMI, HP2, HO3, hB3, hsz3⟩, by simp [intOf]; omega⟩
                        · have d1 : (vp == (g : Int)) = false := by simpa using h1
                          have HP2 := hide (HKEEP.out (fun hA => absurd hA h1))
                          clear h1 HKEEP HHIT HST HNE
                          go_wp2
                          refine wp_region_over (by kernel_rfl) (by kernel_rfl) ?_
                          repeat (go_big_quiet_step (fail))
                          refine wpQuiet_nil ?_
                          intro w3 hb3
                          have HO3 := hide (HO.out.below hb3 hsz)
                          have hB3 := hB.trans (hb3.mono hbs)
                          have hsz3 : w.heap.size < w3.heap.size := Nat.lt_of_lt_of_le hsz hb3.size
                          clear c1 c2 c3 c4 hb3
                          go_wp2
                          exact ⟨⟨cb, _, t + 1, by omega, by go_num, rfl, HMI, HP2, HO3, hB3, hsz3⟩, by simp [intOf]; omega⟩
                      · obtain rfl : t = k := by omega
                        have HP2 := hide (pass_row near HPI.out)
                        go_wp2
                        exact ⟨⟨cb, cur', p + 1, by omega, by go_num, rfl, HMI, HP2, HO, hB, hsz⟩, by simp [intOf]; omega⟩
                  · obtain rfl : p = k := by omega
                    have HCLD : Hid (cb = false → ∀ a b, a < p → b < p → cur'.getD a 0 = (g : Int) → cur'.getD b 0 = -1 → near a b = false) := hide (fun hcb a b ha hb hA hB => by
                      obtain ⟨e, h⟩ := HPI.out.2.2 hcb
                      rw [e] at hA hB
                      exact h a b (.inl ha) hb hA hB)
                    have HMS2 : Hid (2 * noGW wr w.heap.size p + mch (.bool cb) < 2 * noGW W1 w.heap.size p + mch (.bool true)) := hide (by
                      have h1 := HO.out.noG
                      rw [HMI.out.1.trans HLX.out] at h1
                      rw [h1, HMZ.out]
                      cases cb
                      · have := HPI.out.1; show 2 * _ + 0 < 2 * _ + 1; omega
                      · have := HPI.out.2.1 rfl; show 2 * _ + 1 < 2 * _ + 1; omega)
                    go_wp2
                    exact ⟨⟨cb, cur', rfl, HMI, HCLD, HO, hB, hsz⟩, HMS2.out⟩
          · have HNX := hide (HOLD.out m hneg)
            have hd2 : decide ((0 : Int) ≤ (grpS near k m).1.getD m 0) = true := decide_eq_true (by omega)
            clear hneg hb0 q1 q2 q3 hmx hlen
            generalize (grpS near k m).1.getD m 0 = v at *
            go_wp2
            exact ⟨⟨m + 1, by omega, by go_num, by rw [HNX.out], by rw [HNX.out]; exact HO, hB, hsz⟩, by simp [intOf]; omega⟩
        · obtain rfl : m = k := by omega
          have HE : Hid (IntsIn wr w.heap.size (some ⟨w.heap.size, 0, none⟩) (grpS near m m).1) := hide (HO.out.at_ hsz)
          have HLN : Hid (m = (grpS near m m).1.length) := hide q1.symm
          clear q1 q2 q3 HO hlen
          go_wp2
          go_ret2
          exact ⟨_, m, by rw [← HLN.out]; rfl, HE.out, hB⟩
end Go.Proofs.YtjmkbdghenjlaaaDoor
