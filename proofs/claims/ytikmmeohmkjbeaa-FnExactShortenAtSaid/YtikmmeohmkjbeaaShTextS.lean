/- ShortsText: the model's. -/
import Derived.Test.YtikmmeohmkjbeaaShTextW
namespace Go.Proofs.Ytikmmeohmkjbeaa
open Go Go.RowKit Go.Shelf Go.Sort Go.Maps

theorem shL_len (ps : List Sh) (k : Nat) : (shL (ps.take k)).length ≤ k := by rw [shL, List.length_map, List.length_take]; omega
theorem shL_J {ps : List Sh} (h : vshorts ps = true) (k : Nat) (hk : k ≤ 6) : (J (shL (ps.take k))).length ≤ 4000 :=
  J_bd (fun y hy => shL_mem h y (by
    obtain ⟨p, hp, rfl⟩ := List.mem_map.1 hy
    exact List.mem_map.2 ⟨p, List.mem_of_mem_take hp, rfl⟩)) (by have := shL_len ps k; omega)

set_option maxRecDepth 100000 in
set_option maxHeartbeats 4000000 in
theorem l02Text_any (A : Option Addr) (ps : List Sh) (c : Nat) (w : World) (hv : vshorts ps = true) (hA : ShsAt w w.heap.size A ps) :
    Calls Try.prog 125 #[.slice A ps.length c] w fun e w' => e = .returned (.string ⟨(J (shL ps)).toArray⟩) ∧ Below w.heap.size w w' := by
  have h6 := vshorts_len hv
  have HSZ := hide (fun k p (hp : ps[k]? = some p) => shB_sizes (vshorts_mem hv hp))
  have HLEN := hide (fun k hk => shL_J hv k hk)
  obtain ⟨n, hL⟩ : ∃ n, ps.length = n := ⟨_, rfl⟩
  have HL := hide hL
  rw [hL] at h6 ⊢
  clear hL hv
  go_enter Try.func125, Try.ntmps125
  go_wp2
  go_loopw [3, 4] (fun t i wr => ∃ (k : Nat) (s : ByteArray), k ≤ n ∧ i = .int .i64 k ∧ t = .string s ∧ s.size ≤ 4000 ∧ Hid (s.data.toList = J (shL (ps.take k))) ∧ Below w.heap.size w wr)
    (fun _ i _ => n - (intOf i).toNat)
  case atStart => exact ⟨0, ⟨#[]⟩, by omega, rfl, rfl, by decide, hide rfl, Below.refl _ _⟩
  case round =>
    obtain ⟨k, s, hk, rfl, rfl, hs, hg, hB⟩ := hrel
    have hbs := hB.size
    by_cases hlt : k < n
    · obtain ⟨b, o, rfl, hb, hps⟩ := hA (by intro e; rw [e] at HL; have := HL.out; simp at this; omega)
      obtain ⟨p, hp⟩ : ∃ p, ps[k]? = some p := ⟨ps[k]'(by rw [HL.out]; exact hlt), List.getElem?_eq_getElem _⟩
      obtain ⟨s1, s2⟩ := HSZ.out k p hp
      have htk := shL_take hp
      obtain ⟨x, y⟩ := p
      simp only at s1 s2
      have hq0 := rangeAt_below (hps k _ hp) hB (by omega)
      have hc0 : wr.cell? ⟨b, o + k * 2, none⟩ = some (.string x) := hq0 0 _ rfl
      have hc1 : wr.cell? ⟨b, o + k * 2 + 1, none⟩ = some (.string y) := hq0 1 _ rfl
      have c0 := Over.get hc0
      have c1 := Over.get hc1
      have hi : (k : Int) < n := by omega
      have h0 : (0 : Int) ≤ k := by omega
      have s4 : (⟨#[61]⟩ : ByteArray).size = 1 := rfl
      have s5 : (⟨#[32]⟩ : ByteArray).size = 1 := rfl
      have s3 : (x ++ (⟨#[61]⟩ : ByteArray)).size ≤ 21 := by rw [append_size]; omega
      have s6 : ((x ++ (⟨#[61]⟩ : ByteArray)) ++ y).size ≤ 41 := by rw [append_size]; omega
      have hsw := shW_str (x, y)
      have hnext := HLEN.out (k + 1) (by omega)
      have hln := shL_len ps k
      clear hq0 hps hc0 hc1
      by_cases hk0 : k = 0
      · have hd : decide ((0 : Int) < k) = false := by simp; omega
        have hd' : decide (0 < k) = false := by simp; omega
        have e1 : (s ++ ((x ++ (⟨#[61]⟩ : ByteArray)) ++ y)).data.toList = J (shL (ps.take (k + 1))) := by
          rw [append_data, hg.out, htk, hk0, hsw]; simp [shL, J_nil, J_one]
        have e2 : (s ++ ((x ++ (⟨#[61]⟩ : ByteArray)) ++ y)).size ≤ 4000 := by rw [← e1, Array.length_toList] at hnext; exact hnext
        have E1 := hide e1
        have E2 := hide e2
        clear e1 e2 hk0 htk hnext hp hsw hln
        go_wp2
        refine wp_region_over (by kernel_rfl) (by kernel_rfl) ?_
        repeat (go_big_quiet_step ((fail)))
        refine wpQuiet_nil ?_
        intro w3 hb3
        have hB2 : Below w.heap.size w w3 := hB.trans (hb3.mono hbs)
        clear hb3 c0 c1
        go_wp2
        exact ⟨⟨k + 1, _, by omega, by go_num, rfl, E2.out, E1, hB2⟩, by simp [intOf]; omega⟩
      · have hd : decide ((0 : Int) < k) = true := by simp; omega
        have hd' : decide (0 < k) = true := by simp; omega
        have hne : shL (ps.take k) ≠ [] := by
          intro e
          have h := congrArg List.length e
          rw [shL, List.length_map, List.length_take, List.length_nil, HL.out] at h
          omega
        have e3 : (s ++ (⟨#[32]⟩ : ByteArray)).size ≤ 4001 := by rw [append_size]; omega
        have e1 : ((s ++ (⟨#[32]⟩ : ByteArray)) ++ ((x ++ (⟨#[61]⟩ : ByteArray)) ++ y)).data.toList = J (shL (ps.take (k + 1))) := by
          rw [append_data, append_data, hg.out, htk, hsw, J_snoc _ _ hne]; simp
        have e2 : ((s ++ (⟨#[32]⟩ : ByteArray)) ++ ((x ++ (⟨#[61]⟩ : ByteArray)) ++ y)).size ≤ 4000 := by rw [← e1, Array.length_toList] at hnext; exact hnext
        have E1 := hide e1
        have E2 := hide e2
        clear e1 e2 hk0 htk hnext hp hsw hln hne
        go_wp2
        refine wp_region_over (by kernel_rfl) (by kernel_rfl) ?_
        repeat (go_big_quiet_step ((fail)))
        refine wpQuiet_nil ?_
        intro w3 hb3
        have hB2 : Below w.heap.size w w3 := hB.trans (hb3.mono hbs)
        clear hb3 c0 c1
        go_wp2
        exact ⟨⟨k + 1, _, by omega, by go_num, rfl, E2.out, E1, hB2⟩, by simp [intOf]; omega⟩
    · obtain rfl : k = n := by omega
      have hfin : s = ⟨(J (shL ps)).toArray⟩ := by
        apply ba_ext
        have := hg.out
        rw [List.take_of_length_le (by rw [HL.out]; omega)] at this
        exact this
      have HF := hide hfin
      clear hfin
      go_wp2
      go_ret
      exact ⟨ret_st HF.out, hB⟩

theorem specShortsText_any (A : Option Addr) (ps : List Sh) (c : Nat) (hn : ps.length ≤ maxLen) (hx : ∀ x ∈ ps, x.1.size ≤ maxLen ∧ x.2.size ≤ maxLen) (w : World) (hA : ShsAt w w.heap.size A ps) :
    Calls Try.prog 54 #[.slice A ps.length c] w fun e w' => e = .returned (.string (vsT ps)) ∧ Below w.heap.size w w' := by
  have HV := hide (specShorts_any A ps c hn hx w hA)
  cases hv : vshorts ps
  · rw [vsT_no hv]
    rw [hv] at HV
    clear hA hv hn hx
    generalize ps.length = n at *
    go_enter Try.func54, Try.ntmps54
    go_wp2_with (go_at_call 105; refine HV.out.mono ?_; rintro e w1 ⟨rfl, hb1⟩)
    go_ret
    exact ⟨rfl, hb1⟩
  · rw [vsT_ok hv]
    have HT := hide (fun W (h : Below w.heap.size w W) => l02Text_any A ps c W hv (hA.go h))
    rw [hv] at HV
    clear hA hv hn hx
    generalize ps.length = n at *
    go_enter Try.func54, Try.ntmps54
    go_wp2_with fail
    refine HV.out.mono ?_
    rintro e w1 ⟨rfl, hb1⟩
    go_wp2_with fail
    refine (HT.out _ hb1).mono ?_
    rintro e w2 ⟨rfl, hb2⟩
    go_wp2
    go_ret
    exact ⟨rfl, hb1.trans (hb2.mono hb1.size)⟩
end Go.Proofs.Ytikmmeohmkjbeaa
