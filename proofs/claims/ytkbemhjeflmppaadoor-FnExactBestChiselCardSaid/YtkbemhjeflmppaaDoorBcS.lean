/- BestChisel: its data, and the model's. -/
import Derived.Test.YtkbemhjeflmppaaDoorChO2
import Derived.Test.YtkbemhjeflmppaaDoorBcA
import Derived.Test.YtkbemhjeflmppaaDoorBfI
namespace Go.Proofs.YtkbemhjeflmppaaDoor
open Go Go.RowKit

/-- How long a text takes with the chisel at place k. -/
def bcO (S : List Int) (ks : List (Int × Int)) (L : List UInt8) (k : Nat) : Int := timeT (ks.getD k (0, 0)).1 (ks.getD k (0, 0)).2 (stkL S L) (stkL S L).length
theorem bcO_at {S : List Int} {ks : List (Int × Int)} {L : List UInt8} {k : Nat} {h p : Int} (e : ks[k]? = some (h, p)) : bcO S ks L k = timeT h p (stkL S L) (stkL S L).length := by simp [bcO, List.getD, e]
noncomputable def bcB (S : List Int) (ks : List (Int × Int)) (L : List UInt8) : Bool := vstr S && (ks.all vcp && vtext L)
noncomputable def bcR (S : List Int) (ks : List (Int × Int)) (L : List UInt8) : Int × Int × Int :=
  if bcB S ks L = true then (if 20 < ks.length then (0, 0, 3) else chR (allC (bcO S ks L) ks.length)) else (0, 0, 1)
theorem bc_no {S : List Int} {ks : List (Int × Int)} {L : List UInt8} (h : bcB S ks L = false) : bcR S ks L = (0, 0, 1) := by unfold bcR; rw [h]; rfl
theorem bc_lim {S : List Int} {ks : List (Int × Int)} {L : List UInt8} (h : bcB S ks L = true) (h2 : 20 < ks.length) : bcR S ks L = (0, 0, 3) := by unfold bcR; rw [h, if_pos rfl, if_pos h2]
theorem bc_ok {S : List Int} {ks : List (Int × Int)} {L : List UInt8} (h : bcB S ks L = true) (h2 : ¬ 20 < ks.length) : bcR S ks L = chR (allC (bcO S ks L) ks.length) := by unfold bcR; rw [h, if_pos rfl, if_neg h2]

set_option maxRecDepth 100000 in
set_option maxHeartbeats 8000000 in
theorem specBestChisel_any (S : List Int) (hS : S.length = 26) (hSx : ∀ x ∈ S, i8ok x) (K : Option Addr) (ks : List (Int × Int)) (ck : Nat) (hkn : ks.length ≤ maxLen) (hkx : ∀ x ∈ ks, chok x) (s : ByteArray) (hs : s.size ≤ maxLen) (w : World) (hK : ChsAt w w.heap.size K ks) :
    Calls Tryd.prog 31 #[.agg (wc S).toArray, .slice K ks.length ck, .string s] w fun e w' => e = .returned (.tuple #[.int .i64 (bcR S ks s.data.toList).1, .int .i64 (bcR S ks s.data.toList).2.1, .int .i64 (bcR S ks s.data.toList).2.2]) ∧ Below w.heap.size w w' := by
  have r0 := rangeAt_new w (wc S) 26
  have b0 : Below w.heap.size w (w.alloc (.cells (wc S).toArray 26)) := (Below.refl _ _).alloc (Nat.le_refl _) _
  have s0 : w.heap.size < (w.alloc (.cells (wc S).toArray 26)).heap.size := by simp
  have HST := hide (l05Strokes_any S hS hSx _ _ r0)
  have HT1 := hide (fun W => l01Text_any s W hs)
  have HKK := hide (hK.below b0)
  have HCH := hide (fun h p (e : (h, p) ∈ ks) b oo W hr => l05ChiselO_any h p (hkx _ e).1 (hkx _ e).2 b oo W hr)
  have HNO := hide (fun h p (e : (h, p) ∈ ks) (h2 : vchi h p = false) => bc_no (S := S) (ks := ks) (L := s.data.toList) (by
      unfold bcB
      have : ks.all vcp = false := by
        cases e2 : ks.all vcp
        · rfl
        · have := List.all_eq_true.1 e2 _ e
          unfold vcp at this
          rw [h2] at this; cases this
      rw [this, Bool.false_and, Bool.and_false]))
  have HN1 := hide (fun (h : vstr S = false) => bc_no (S := S) (ks := ks) (L := s.data.toList) (by unfold bcB; rw [h]; rfl))
  have HN2 := hide (fun (h : vtext s.data.toList = false) => bc_no (S := S) (ks := ks) (L := s.data.toList) (by unfold bcB; rw [h, Bool.and_false, Bool.and_false]))
  have HYES : Hid (vstr S = true → vtext s.data.toList = true → (∀ x ∈ ks, vcp x = true) → bcB S ks s.data.toList = true) := hide (fun h1 h2 h3 => by
    unfold bcB
    rw [h1, h2, Bool.true_and, Bool.and_true]
    exact List.all_eq_true.2 h3)
  have HLIM := hide (bc_lim (S := S) (ks := ks) (L := s.data.toList))
  have HOK := hide (bc_ok (S := S) (ks := ks) (L := s.data.toList))
  have HLI := hide (fun W h r hb => l05List_any S hS hSx s w.heap.size W h r hb)
  have HTI := hide (fun (h1 : vstr S = true) (h2 : vtext s.data.toList = true) h p hh hp bc oo A c W hb hr hA => l05TimeO_any h p hh hp bc oo A (stkL S s.data.toList) c W (stk_n h2) (fun x hx => by have := stk_bd hS h1 h2 x hx; omega) hb hr hA)
  have HAT := hide (fun k h p => @bcO_at S ks s.data.toList k h p)
  have HLN := hide (lst_next (bcO S ks s.data.toList))
  have HL1 : Hid (lstO (allC (bcO S ks s.data.toList) 1) = some (0, bcO S ks s.data.toList 0)) := hide rfl
  have HL0 : Hid (chR (allC (bcO S ks s.data.toList) 0) = (0, 0, 6)) := hide rfl
  unfold IntsB at HLI
  obtain ⟨n, hL⟩ : ∃ n, ks.length = n := ⟨_, rfl⟩
  have HL := hide hL
  rw [hL] at hkn HLIM HOK ⊢
  unfold maxLen at hkn
  generalize bcR S ks s.data.toList = V at *
  generalize bcO S ks s.data.toList = O at *
  generalize bcB S ks s.data.toList = BB at *
  generalize stkL S s.data.toList = xs at *
  clear hK hL hkx hS hSx
  go_enter Tryd.func31, Tryd.ntmps31
  go_wp2
  generalize (w.alloc (.cells (wc S).toArray 26)) = W0 at *
  go_loop [9] (fun i => ∃ k : Nat, k ≤ n ∧ i = .int .i64 k ∧ Hid (∀ j x, j < k → ks[j]? = some x → vcp x = true)) (fun i => n - (intOf i).toNat)
  case atStart => exact ⟨0, Nat.zero_le _, rfl, hide (fun j x h => by omega)⟩
  case round =>
    obtain ⟨k, hk, rfl, hvd⟩ := hrel
    by_cases hlt : k < n
    · obtain ⟨b, o, rfl, hb, hxs⟩ := HKK.out (by intro e; rw [e] at HL; have := HL.out; simp at this; omega)
      obtain ⟨x, hmk⟩ : ∃ x, ks[k]? = some x := ⟨ks[k]'(by rw [HL.out]; exact hlt), List.getElem?_eq_getElem _⟩
      obtain ⟨h, p⟩ := x
      have hrow := hxs k _ hmk
      have hi : (k : Int) < n := by omega
      have h0 : (0 : Int) ≤ k := by omega
      have hm := List.mem_of_getElem? hmk
      have HTM := hide (HCH.out h p hm b (o + k * 2) W0 hrow)
      have HMK := hide hmk
      clear hxs hmk hrow
      cases hvm : vchi h p
      · have HP := hide (HNO.out h p hm hvm)
        rw [hvm] at HTM
        clear hm hvm
        go_wp2_with fail
        refine HTM.out.mono ?_
        rintro e w1 ⟨rfl, rfl⟩
        go_wp2
        go_ret3
        exact ⟨rt3_of HP.out, b0⟩
      · have HVM : Hid (vcp (h, p) = true) := hide hvm
        rw [hvm] at HTM
        clear hm hvm
        go_wp2_with fail
        refine HTM.out.mono ?_
        rintro e w1 ⟨rfl, rfl⟩
        go_wp2
        refine ⟨⟨k + 1, by omega, by go_num, hide (fun j x hj hx => ?_)⟩, by simp [intOf]; omega⟩
        by_cases e : j = k
        · subst e
          have := hx.symm.trans HMK.out
          injection this with this
          subst this
          exact HVM.out
        · exact hvd.out j x (by omega) hx
    · obtain rfl : k = n := by omega
      have hallv : ∀ x ∈ ks, vcp x = true := fun x hx => by
        obtain ⟨j, hj, hjx⟩ := List.getElem_of_mem hx
        exact hvd.out j x (by rw [← HL.out]; exact hj) (by rw [List.getElem?_eq_getElem hj, hjx])
      have HALL := hide hallv
      clear hallv
      cases h1 : vstr S
      · have HP := hide (HN1.out h1)
        rw [h1] at HST
        clear h1
        go_wp2_with (go_at_call 39; refine HST.out.mono ?_; rintro e w1 ⟨rfl, rfl⟩)
        go_ret3
        exact ⟨rt3_of HP.out, b0⟩
      · rw [h1] at HST
        cases h2 : vtext s.data.toList
        · have HP := hide (HN2.out h2)
          rw [h2] at HT1
          clear h1 h2
          go_wp2_with (first | (go_at_call 39; refine HST.out.mono ?_; rintro e w1 ⟨rfl, rfl⟩) | (go_at_call 40; refine (HT1.out _).mono ?_; rintro e w1 ⟨rfl, rfl⟩))
          go_ret3
          exact ⟨rt3_of HP.out, b0⟩
        · rw [h2] at HT1
          have hB := HYES.out h1 h2 HALL.out
          by_cases h12 : 20 < k
          · have HP := hide (HLIM.out hB h12)
            have hi : (20 : Int) < k := by omega
            clear hB h1 h2
            go_wp2_with (first | (go_at_call 39; refine HST.out.mono ?_; rintro e w1 ⟨rfl, rfl⟩) | (go_at_call 40; refine (HT1.out _).mono ?_; rintro e w1 ⟨rfl, rfl⟩))
            go_ret3
            exact ⟨rt3_of HP.out, b0⟩
          · have HP := hide (HOK.out hB h12)
            have hi : ¬ (20 : Int) < k := by omega
            have HT := hide (HTI.out h1 h2)
            have HLL := hide (fun W => HLI.out W h2)
            clear hB h1 h2 HTI HLI
            cases k with
            | zero =>
              rw [HL0.out] at HP
              go_wp2_with (first | (go_at_call 39; refine HST.out.mono ?_; rintro e w1 ⟨rfl, rfl⟩) | (go_at_call 40; refine (HT1.out _).mono ?_; rintro e w1 ⟨rfl, rfl⟩))
              go_ret3
              exact ⟨rt3_of HP.out, b0⟩
            | succ m =>
              have hz : (((m + 1 : Nat) : Int) == 0) = false := by simp; omega
              have hz' : ((m : Int) + 1 == 0) = false := by simp; omega
              have h00 : (0 : Int) < ((m + 1 : Nat) : Int) := by omega
              obtain ⟨b, o, rfl, hb, hxs⟩ := HKK.out (by intro e; rw [e] at HL; have := HL.out; simp at this)
              have HX := hide hxs
              obtain ⟨x0, hx0⟩ : ∃ x0, ks[0]? = some x0 := ⟨ks[0]'(by rw [HL.out]; omega), List.getElem?_eq_getElem _⟩
              have hrow0 := hxs 0 x0 hx0
              rw [Nat.zero_mul, Nat.add_zero] at hrow0
              have hv0 := hvd.out 0 x0 (by omega) hx0
              obtain ⟨h0, p0⟩ := x0
              have HV0 := hide (vchi_true.1 hv0)
              have HA0 := hide (HAT.out 0 h0 p0 hx0)
              have HR0 := hide hrow0
              have HBB := hide hb
              generalize hn1 : m + 1 = n1 at *
              clear hxs hb hx0 hn1 hrow0 hv0
              go_wp2_with (first | (go_at_call 39; refine HST.out.mono ?_; rintro e w1 ⟨rfl, rfl⟩) | (go_at_call 40; refine (HT1.out _).mono ?_; rintro e w1 ⟨rfl, rfl⟩))
              refine (HLL.out _ r0 s0).mono ?_
              rintro e w2 ⟨A2, c2, rfl, hc2, hI2, hb2⟩
              have HI2 := hide hI2.at_
              have hw02 : W0.heap.size ≤ w2.heap.size := hb2.size
              clear hI2
              go_wp2_with fail
              refine (HT.out h0 p0 HV0.out.1 HV0.out.2 b o A2 c2 w2 (Nat.lt_of_lt_of_le HBB.out (Nat.le_trans b0.size hw02)) (rangeAt_below HR0.out hb2 (Nat.lt_of_lt_of_le HBB.out b0.size)) HI2.out).mono ?_
              rintro e w3 ⟨rfl, hb3⟩
              rw [← HA0.out]
              go_wp2
              have hB02 : Below w.heap.size w w2 := b0.trans (hb2.mono b0.size)
              go_loopw [11, 12, 13] (fun b1 b2 I wr => ∃ (k : Nat) (q : Pr), 1 ≤ k ∧ k ≤ n1 ∧ I = .int .i64 k ∧ b1 = .int .i64 q.1 ∧ b2 = .int .i64 q.2 ∧ Hid (lstO (allC O k) = some q) ∧ Below w2.heap.size w2 wr)
                (fun _ _ I _ => n1 - (intOf I).toNat)
              case atStart => exact ⟨1, (0, O 0), Nat.le_refl _, by omega, rfl, rfl, rfl, hide HL1.out, hb3⟩
              case round =>
                obtain ⟨k, q, hk1, hk, rfl, rfl, rfl, hq, hBw⟩ := hrel
                by_cases hlt2 : k < n1
                · obtain ⟨x, hx⟩ : ∃ x, ks[k]? = some x := ⟨ks[k]'(by rw [HL.out]; exact hlt2), List.getElem?_eq_getElem _⟩
                  obtain ⟨h, p⟩ := x
                  have hv := vchi_true.1 (show vchi h p = true from hvd.out k (h, p) hlt2 hx)
                  have hbw0 : b < w2.heap.size := Nat.lt_of_lt_of_le HBB.out (Nat.le_trans b0.size hw02)
                  have hrow := rangeAt_below (rangeAt_below (HX.out k (h, p) hx) hb2 (Nat.lt_of_lt_of_le HBB.out b0.size)) hBw hbw0
                  have HCK := hide (HT.out h p hv.1 hv.2 b (o + k * 2) A2 c2 wr (Nat.lt_of_lt_of_le hbw0 hBw.size) hrow (HI2.out.go hBw))
                  rw [← HAT.out k h p hx] at HCK
                  have HN := hide (HLN.out k q hq.out)
                  have i1 : (k : Int) < n1 := by omega
                  have i0 : (0 : Int) ≤ k := by omega
                  obtain ⟨q1, q2⟩ := q
                  clear hx hrow hv
                  generalize hOk : O k = U at *
                  by_cases hU : U < q2
                  · have HN2 := hide (HN.out.trans (if_pos hU))
                    go_wp2_with fail
                    refine HCK.out.mono ?_
                    rintro e w3 ⟨rfl, hb3⟩
                    go_wp2
                    exact ⟨⟨k + 1, ((k : Int), U), by omega, by omega, by go_num, rfl, rfl, HN2, hBw.trans (hb3.mono hBw.size)⟩, by simp [intOf]; omega⟩
                  · have HN2 := hide (HN.out.trans (if_neg hU))
                    go_wp2_with fail
                    refine HCK.out.mono ?_
                    rintro e w3 ⟨rfl, hb3⟩
                    go_wp2
                    exact ⟨⟨k + 1, (q1, q2), by omega, by omega, by go_num, rfl, rfl, HN2, hBw.trans (hb3.mono hBw.size)⟩, by simp [intOf]; omega⟩
                · obtain rfl : k = n1 := by omega
                  have HP2 := hide (HP.out.trans (show chR (allC O k) = (q.1, q.2, 0) by unfold chR; rw [hq.out]))
                  go_wp2
                  go_ret3
                  exact ⟨rt3_of HP2.out, hB02.trans (hBw.mono hB02.size)⟩
end Go.Proofs.YtkbemhjeflmppaaDoor
