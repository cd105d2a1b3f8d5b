/- The words in which some are replaced: the program's. -/
import Derived.Test.YtikmmeohmkjbeaaShWhich
import Derived.WalkMore
namespace Go.Proofs.Ytikmmeohmkjbeaa
open Go Go.RowKit Go.Shelf Go.Sort Go.Maps

/-- slices.Clone of a list of texts. -/
theorem cloneS_any (A : Option Addr) (xs : List ByteArray) (c : Nat) (w : World) (hn : xs.length ≤ 1048576) (hA : StrsAt w w.heap.size A xs) :
    Calls Try.prog 164 #[.slice A xs.length c] w (StrsBk xs w) := by
  cases A with
  | none =>
    have hps : xs = [] := by
      cases xs with
      | nil => rfl
      | cons p r => obtain ⟨b, o, e, _⟩ := hA (by simp); cases e
    subst hps
    refine (Try.slices_Clone_string_nil 0 c w).mono ?_
    rintro e w1 ⟨rfl, rfl⟩
    exact ⟨none, 0, rfl, Nat.le_refl _, StrsIn.empty _ _ _, Below.refl _ _⟩
  | some ad =>
    by_cases h0 : xs = []
    · subst h0
      refine (Try.slices_Clone_string_zero ad c w).mono ?_
      rintro e w1 ⟨v', rfl, hown, _, hb⟩
      obtain ⟨A', c', rfl, hc', _⟩ := strsIn_of_own (ss := []) hown rfl
      exact ⟨A', c', rfl, hc', StrsIn.empty _ _ _, hb⟩
    · obtain ⟨b, o, e, hb, hps⟩ := hA h0
      injection e with e
      subst e
      refine (Try.slices_Clone_string b o xs.length c xs w (Nat.le_refl _) (by omega) (fun j hj => ?_)).mono ?_
      · rw [hps j xs[j] (List.getElem?_eq_getElem hj)]
        simp [List.getD, hj]
      · rintro e w1 ⟨v', rfl, hown, _, hb1⟩
        rw [List.take_of_length_le (Nat.le_refl _), ← enc_bytes] at hown
        obtain ⟨A', c', rfl, hc', hP⟩ := strsIn_of_own hown (List.length_map _).symm
        exact ⟨A', c', rfl, hc', (congrArg (StrsIn w1 w.heap.size A') (bas_of xs)).mp hP, hb1⟩

def idxNd (bs : List Int) : Prop := ∀ j k : Nat, j < k → k < bs.length → (bs.getD j 0).toNat ≠ (bs.getD k 0).toNat

set_option maxRecDepth 100000 in
set_option maxHeartbeats 8000000 in
theorem shorten_any (A2 : Option Addr) (xs : List ByteArray) (c2 : Nat) (A : Option Addr) (ps : List Sh) (c : Nat) (B : Option Addr) (bs : List Int) (cb : Nat) (w : World) (hn : ps.length ≤ maxLen) (hxn : xs.length ≤ 1048576) (hbn : bs.length ≤ maxLen) (hi : idxOk xs.length bs) (hnd : idxNd bs) (hX : StrsAt w w.heap.size A2 xs) (hA : ShsAt w w.heap.size A ps) (hB : IntsAt w w.heap.size B bs) :
    Calls Try.prog 117 #[.slice A2 xs.length c2, .slice A ps.length c, .slice B bs.length cb] w (StrsBk (rp ps xs bs bs.length) w) := by
  have HCL := hide (cloneS_any A2 xs c2 w hxn hX)
  have HIX := hide hi
  have HND := hide hnd
  have HSO := hide (fun k i x s => @rp_some ps xs bs k i x s)
  have HNO := hide (fun k i x => @rp_none ps xs bs k i x)
  have HKP := hide (rp_keep ps xs bs)
  have HLN := hide (fun k => rp_len ps xs bs k)
  have HOH := hide (fun x k p => @ofS_hit ps x k p)
  have HON := hide (fun x => @ofS_none ps x)
  unfold StrsBk at HCL ⊢
  rw [HLN.out]
  unfold maxLen at hbn hn
  obtain ⟨n, hL⟩ : ∃ n, xs.length = n := ⟨_, rfl⟩
  have HL := hide hL
  obtain ⟨m, hM⟩ : ∃ m, bs.length = m := ⟨_, rfl⟩
  have HM := hide hM
  obtain ⟨r, hR⟩ : ∃ r, ps.length = r := ⟨_, rfl⟩
  have HR := hide hR
  rw [hL] at hxn HIX HLN HCL ⊢
  rw [hM] at hbn ⊢
  rw [hR] at hn HON ⊢
  clear hL hM hR hi hnd
  go_enter Try.func117, Try.ntmps117
  go_wp2
  go_step3
  go_wp2_with fail
  refine HCL.out.mono ?_
  rintro e w1 ⟨A4, c4, rfl, hc4, hP4, hb1⟩
  have HP4 := hide hP4
  have hbs1 := hb1.size
  clear hP4 HCL
  go_wp2
  go_step3
  go_wp2
  go_loopw [16] (fun i wr => ∃ k : Nat, k ≤ m ∧ i = .int .i64 k ∧ Hid (StrsIn wr w.heap.size A4 (rp ps xs bs k)) ∧ Below w.heap.size w wr)
    (fun i _ => m - (intOf i).toNat)
  case atStart => exact ⟨0, by omega, rfl, HP4, hb1⟩
  case round =>
    obtain ⟨k, hk, rfl, hS, hBl⟩ := hrel
    have hbs := hBl.size
    by_cases hlt : k < m
    · obtain ⟨b3, o3, rfl, hb3, hbcs⟩ := hB (by intro e; rw [e] at HM; have := HM.out; simp at this; omega)
      obtain ⟨v, hv⟩ : ∃ v, bs[k]? = some v := ⟨bs[k]'(by rw [HM.out]; exact hlt), List.getElem?_eq_getElem _⟩
      obtain ⟨v0, v1⟩ := HIX.out k v hv
      obtain ⟨i, rfl⟩ : ∃ i : Nat, v = i := ⟨v.toNat, by omega⟩
      obtain ⟨x, hx⟩ : ∃ x, xs[i]? = some x := ⟨xs[i]'(by rw [HL.out]; omega), List.getElem?_eq_getElem _⟩
      have c1 : wr.cell? ⟨b3, o3 + k, none⟩ = some (.int .i64 i) := (hBl.cell (p := ⟨b3, o3 + k, none⟩) hb3).trans (hbcs k _ hv)
      have hi : (k : Int) < m := by omega
      have h0 : (0 : Int) ≤ k := by omega
      have hin : i < n := by omega
      have hin' : (i : Int) < n := by omega
      have hi0 : (0 : Int) ≤ i := by omega
      have hgi : (bs.getD k 0).toNat = i := by simp [List.getD, hv]
      have hri : (rp ps xs bs k)[i]? = some x := by
        rw [HKP.out i k (fun j hj e => HND.out j k hj (by rw [HM.out]; exact hlt) (by rw [e, hgi]))]; exact hx
      have HGI := hide hgi
      have HX := hide (getD_get hx)
      have hrl := HLN.out k
      obtain ⟨b4, o4, rfl, hb41, hb42, hcs4, hth⟩ := hS.out (by intro e; rw [e] at hrl; simp at hrl; omega)
      rw [hrl] at hth
      have c4x : wr.cell? ⟨b4, o4 + i, none⟩ = some (.string x) := hcs4 i x hri
      have HF4 := hide (there_some hth hin)
      have HTH := hide hth
      have HPT := hide (fun W s (h : StrsIn W w.heap.size (some ⟨b4, o4, none⟩) (rp ps xs bs k)) => h.put rfl (i := i) (by rw [hrl]; exact hin) s)
      clear hx hbcs hv hri hgi hcs4 hth hrl
      go_wp2
      clear c1
      obtain ⟨W1, hW1⟩ : ∃ W1, W1 = wr := ⟨_, rfl⟩
      subst hW1
      have HON' := hide (HON.out x)
      have HOH' := hide (HOH.out x)
      go_loopw [22] (fun j wr => ∃ q : Nat, q ≤ r ∧ j = .int .i64 q ∧ Hid (noS ps x q) ∧ Below W1.heap.size W1 wr)
        (fun j _ => r - (intOf j).toNat)
      case atStart => exact ⟨0, by omega, rfl, hide (noS_zero _ _), Below.refl _ _⟩
      case round =>
        obtain ⟨q, hq, rfl, hno, hB2⟩ := hrel
        have hbs2 := hB2.size
        by_cases hlq : q < r
        · obtain ⟨b, o, rfl, hb, hps⟩ := hA (by intro e; rw [e] at HR; have := HR.out; simp at this; omega)
          obtain ⟨p, hp⟩ : ∃ p, ps[q]? = some p := ⟨ps[q]'(by rw [HR.out]; exact hlq), List.getElem?_eq_getElem _⟩
          obtain ⟨y, z⟩ := p
          have hB3 := hBl.trans (hB2.mono hbs)
          have hq0 := rangeAt_below (hps q _ hp) hB3 hb
          have c0 : wr.cell? ⟨b, o + q * 2, none⟩ = some (.string y) := hq0 0 _ rfl
          have c1 : wr.cell? ⟨b, o + q * 2 + 1, none⟩ = some (.string z) := hq0 1 _ rfl
          have hi2 : (q : Int) < r := by omega
          have h02 : (0 : Int) ≤ q := by omega
          have HP := hide hp
          clear hq0 hps hp
          have hB4 : Below W1.heap.size W1 (wr.alloc (.cells #[.string y, .string z] 132)) := hB2.alloc hbs2 _
          have e0 := rangeAt_new' wr #[.string y, .string z] 132
          have hz1 : wr.heap.size < (wr.alloc (.cells #[.string y, .string z] 132)).heap.size := by simp
          have hx4 := (hB4.cell (p := ⟨b4, o4 + i, none⟩) hb42).trans c4x
          have HF5 := hide (there_some (there_below HTH.out hB4 hb42) hin)
          have HS5 := hide (hS.out.go hB4)
          go_wp2
          clear c0 c1
          have hBf := hBl.trans (hB4.mono hbs)
          have hbs4 := hB4.size
          generalize (wr.alloc (.cells #[.string y, .string z] 132)) = W2 at *
          generalize wr.heap.size = g at *
          have d0 := Over.get (e0 0 _ rfl)
          have d1 := Over.get (e0 1 _ rfl)
          have d4 := Over.get hx4
          simp only [Nat.zero_add, Nat.add_zero] at d0 d1
          clear e0 hx4
          cases he : (y.toList == x.toList)
          · have he2 : (x.toList == y.toList) = false := by rw [← he]; exact BEq.comm
            have hgo := hide (noS_succ hno.out HP.out he)
            refine wp_region_over (by kernel_rfl) (by kernel_rfl) ?_
            repeat (go_big_quiet_step ((fail)))
            refine wpQuiet_nil ?_
            intro w3 hb3
            have hB6 : Below W1.heap.size W1 w3 := hB4.trans (hb3.mono hbs4)
            clear hb3 d0 d1 d4
            go_wp2
            exact ⟨⟨q + 1, by omega, by go_num, hgo, hB6⟩, by simp [intOf]; omega⟩
          · have he2 : (x.toList == y.toList) = true := by rw [← he]; exact BEq.comm
            have HE := hide (HSO.out k i x z HGI.out HX.out (HOH'.out q _ hno.out HP.out he))
            refine wp_region_over (by kernel_rfl) (by kernel_rfl) ?_
            repeat (go_big_quiet_step ((fail)))
            refine wpQuiet_nil ?_
            intro w3 hb3
            have f1 : w3.cell? ⟨g, 1, none⟩ = some (.string z) := d1 ⟨w3, hb3⟩
            have hBf3 := hBf.trans (hb3.mono hBf.size)
            have HS6 := hide (HPT.out _ z (HS5.out.go hb3))
            obtain ⟨u, hu, hfu⟩ := there_some (there_below (there_below HTH.out hB4 hb42) hb3 (by omega)) hin
            clear d0 d1 d4 hb3
            go_wp2
            exact ⟨⟨k + 1, by omega, by go_num, hide (by rw [HE.out]; exact HS6.out), hBf3.setCell (p := ⟨b4, o4 + i, none⟩) hb41 _⟩, by simp [intOf]; omega⟩
        · obtain rfl : q = r := by omega
          have HE := hide (HNO.out k i x HGI.out HX.out (HON'.out hno.out))
          go_wp2
          exact ⟨⟨k + 1, by omega, by go_num, hide (by rw [HE.out]; exact hS.out.go hB2), hBl.trans (hB2.mono hbs)⟩, by simp [intOf]; omega⟩
    · obtain rfl : k = m := by omega
      go_wp2
      rw [Exit.noGoto_ret]
      go_ret
      exact ⟨A4, c4, rfl, hc4, hS.out, hBl⟩
end Go.Proofs.Ytikmmeohmkjbeaa
