/- WornOf, of both. -/
import Derived.Test.YtajlbfbpkafjfaaIvIB
import Derived.Test.YtajlbfbpkafjfaaIvSA
namespace Go.Proofs.Ytajlbfbpkafjfaa
open Go.RowKit

/-- The first k places are gone. -/
def woTo (L : List UInt8) (gs : List Int) (k : Nat) : List UInt8 := (gs.take k).foldl (fun acc g => acc.set g.toNat 46) L
theorem foldl_set_len : ∀ (gs : List Int) (L : List UInt8), (gs.foldl (fun acc g => acc.set g.toNat 46) L).length = L.length
  | [], _ => rfl
  | g :: gs, L => by rw [List.foldl_cons, foldl_set_len gs]; simp
theorem woTo_len (L : List UInt8) (gs : List Int) (k : Nat) : (woTo L gs k).length = L.length := foldl_set_len _ _
theorem woTo_zero (L : List UInt8) (gs : List Int) : woTo L gs 0 = L := by simp [woTo]
theorem woTo_succ {L : List UInt8} {gs : List Int} {k : Nat} {g : Int} (h : gs[k]? = some g) : woTo L gs (k + 1) = (woTo L gs k).set g.toNat 46 := by
  unfold woTo
  rw [List.take_add_one, h, List.foldl_append]
  rfl
def woIn (n : Nat) (g : Int) : Bool := inB g 0 ((n : Int) - 1)
noncomputable def woV (x : ByteArray) (gs : List Int) : ByteArray := if (lw x && gs.all (woIn x.size)) = true then ⟨(woTo x.data.toList gs gs.length).toArray⟩ else ⟨#[]⟩
noncomputable def woC (x : ByteArray) (gs : List Int) : Int := if lw x = true then if gs.all (woIn x.size) = true then 0 else 2 else 1
theorem wo_no {x : ByteArray} {gs : List Int} (h : lw x = false) : woV x gs = ⟨#[]⟩ ∧ woC x gs = 1 := by unfold woV woC; rw [h]; exact ⟨rfl, rfl⟩
theorem wo_out {x : ByteArray} {gs : List Int} (h : lw x = true) {k : Nat} {g : Int} (hk : gs[k]? = some g) (hg : woIn x.size g = false) : woV x gs = ⟨#[]⟩ ∧ woC x gs = 2 := by
  unfold woV woC; rw [h, all_false_of hk hg]; exact ⟨rfl, rfl⟩
theorem wo_ok {x : ByteArray} {gs : List Int} (h : lw x = true) (hg : ∀ j g, j < gs.length → gs[j]? = some g → woIn x.size g = true) : woV x gs = ⟨(woTo x.data.toList gs gs.length).toArray⟩ ∧ woC x gs = 0 := by
  unfold woV woC; rw [h, all_true_of hg]; exact ⟨rfl, rfl⟩

set_option maxRecDepth 100000 in
set_option maxHeartbeats 4000000 in
theorem implWornOf_any (s : ByteArray) (hs : s.size ≤ maxLen) (B : Option Addr) (bs : List Int) (cb : Nat) (hbn : bs.length ≤ maxLen) (w : World) (hB : IntsAt w w.heap.size B bs) :
    Calls Try.prog 46 #[.string s, .slice B bs.length cb] w fun e w' => e = .returned (.tuple #[.string (woV s bs), .int .i64 (woC s bs)]) ∧ Below w.heap.size w w' := by
  have HA := hide (isListed_any s w hs)
  unfold maxLen at hs hbn
  have hL : s.data.toList.length = s.size := by simp
  have HL := hide hL
  generalize hV : woV s bs = V
  generalize hC : woC s bs = C
  have HV := hide hV
  have HC := hide hC
  clear hV hC hL
  obtain ⟨n, hbl⟩ : ∃ n, bs.length = n := ⟨_, rfl⟩
  have HBL := hide hbl
  rw [hbl] at hbn ⊢
  clear hbl
  cases h1 : lw s
  · rw [h1] at HA
    have HP := hide (wo_no (gs := bs) h1)
    go_enter Try.func46, Try.ntmps46
    go_wp2_with (go_at_call 71; refine HA.out.mono ?_; rintro e w1 ⟨rfl, hb1⟩)
    go_ret2
    exact ⟨ret_si (HP.out.1.symm.trans HV.out) (HP.out.2.symm.trans HC.out), hb1⟩
  · rw [h1] at HA
    have hsz := lw_true h1
    have H1 := hide h1
    go_enter Try.func46, Try.ntmps46
    go_wp2_with fail
    refine HA.out.mono ?_
    rintro e w1 ⟨rfl, hb1⟩
    obtain ⟨W1, c, hcv, hb2, hBA, hlt⟩ := bytes_new2 s w1
    have HBA := hide hBA
    have HIN := hide (hB.below hb1)
    have hs1 := hb1.size
    clear hBA
    go_wp2
    go_loopw [16] (fun i wr => ∃ k : Nat, k ≤ n ∧ i = .int .i64 k ∧ Below w1.heap.size w1 wr ∧ w1.heap.size < wr.heap.size ∧ Hid (BytesAt wr w1.heap.size (woTo s.data.toList bs k)) ∧ Hid (∀ j g, j < k → bs[j]? = some g → woIn s.size g = true))
      (fun i _ => n - (intOf i).toNat)
    case atStart => exact ⟨0, by omega, rfl, hb2, hlt, hide (by rw [woTo_zero]; exact HBA.out), hide (fun j g hj => by omega)⟩
    case round =>
      obtain ⟨k, hk, rfl, hB2, hsz2, hcells, hg⟩ := hrel
      by_cases hlt2 : k < n
      · obtain ⟨b, o, rfl, hb, hxs⟩ := HIN.out (by intro e; rw [e] at HBL; have := HBL.out; simp at this; omega)
        obtain ⟨g, hgk⟩ : ∃ g, bs[k]? = some g := ⟨bs[k]'(by rw [HBL.out]; exact hlt2), List.getElem?_eq_getElem _⟩
        have hc0 : wr.cell? ⟨b, o + k, none⟩ = some (.int .i64 g) := (hB2.cell (p := ⟨b, o + k, none⟩) (Nat.lt_of_lt_of_le hb hs1)).trans (hxs k g hgk)
        have hi : (k : Int) < n := by omega
        have h0 : (0 : Int) ≤ k := by omega
        have hwr := IntWalk.i64_in ((s.size : Int) - 1) ⟨by omega, by omega⟩
        have HG := hide hgk
        clear hxs hgk
        cases hin : inB g 0 ((s.size : Int) - 1)
        · have HP := hide (wo_out H1.out HG.out (show woIn s.size g = false from hin))
          go_wp2_with (go_at_call 100; refine (between_any _ _ _ _).mono ?_; rintro e w' ⟨rfl, rfl⟩; simp only [hin])
          go_ret2
          exact ⟨ret_si (HP.out.1.symm.trans HV.out) (HP.out.2.symm.trans HC.out), hb1.trans (hB2.mono hs1)⟩
        · obtain ⟨g0, g1⟩ := inB_true.1 hin
          obtain ⟨m, rfl⟩ := Int.eq_ofNat_of_zero_le g0
          have hm : m < s.size := by omega
          have hmI : (m : Int) < s.size := by omega
          have hsc : s.size < 9223372036854775807 := by omega
          obtain ⟨hcm, hfm⟩ := hcells.out m (by rw [woTo_len, HL.out]; exact hm)
          have HST := hide (hcells.out.set (k := m) (by rw [woTo_len, HL.out]; exact hm) 46)
          have HSU := hide (woTo_succ (L := s.data.toList) HG.out)
          have HGO := hide (fun j g hj (hq : bs[j]? = some g) => (by
            by_cases e : j = k
            · subst e; rw [HG.out] at hq; injection hq with hq; subst hq; exact hin
            · exact hg.out j g (by omega) hq : woIn s.size g = true) : ∀ j g, j < k + 1 → bs[j]? = some g → woIn s.size g = true)
          go_wp2_with (go_at_call 100; refine (between_any _ _ _ _).mono ?_; rintro e w' ⟨rfl, rfl⟩; simp only [hin])
          exact ⟨⟨k + 1, by omega, by go_num, hB2.setCell (p := ⟨w1.heap.size, m, none⟩) (Nat.le_refl _) _, (by rw [size_setCell]; exact hsz2), hide (by rw [HSU.out]; exact HST.out), HGO⟩, by simp [intOf]; omega⟩
      · obtain rfl : k = n := by omega
        have HOK := hide (wo_ok H1.out (fun j g hj => hg.out j g (by rw [← HBL.out]; exact hj)))
        have hbk := bytes_back (c := c) hcells.out
        rw [woTo_len, HL.out] at hbk
        go_wp2
        go_ret2
        exact ⟨ret_si (by rw [← HV.out, HOK.out.1, HBL.out]) (HOK.out.2.symm.trans HC.out), hb1.trans (hB2.mono hs1)⟩

set_option maxRecDepth 100000 in
set_option maxHeartbeats 4000000 in
theorem specWornOf_any (s : ByteArray) (hs : s.size ≤ maxLen) (B : Option Addr) (bs : List Int) (cb : Nat) (hbn : bs.length ≤ maxLen) (w : World) (hB : IntsAt w w.heap.size B bs) :
    Calls Try.prog 44 #[.string s, .slice B bs.length cb] w fun e w' => e = .returned (.tuple #[.string (woV s bs), .int .i64 (woC s bs)]) ∧ Below w.heap.size w w' := by
  have HA := hide (fun w => l04Word_any s w hs)
  unfold maxLen at hs hbn
  have hL : s.data.toList.length = s.size := by simp
  have HL := hide hL
  generalize hV : woV s bs = V
  generalize hC : woC s bs = C
  have HV := hide hV
  have HC := hide hC
  clear hV hC hL
  obtain ⟨n, hbl⟩ : ∃ n, bs.length = n := ⟨_, rfl⟩
  have HBL := hide hbl
  rw [hbl] at hbn ⊢
  clear hbl
  cases h1 : lw s
  · have HP := hide (wo_no (gs := bs) h1)
    go_enter Try.func44, Try.ntmps44
    go_wp2_with (go_at_call 99; refine (HA.out _).mono ?_; rintro e w1 ⟨rfl, rfl⟩; simp only [h1])
    go_ret2
    exact ⟨ret_si (HP.out.1.symm.trans HV.out) (HP.out.2.symm.trans HC.out), Below.refl _ _⟩
  · have hsz := lw_true h1
    have H1 := hide h1
    obtain ⟨W1, c, hcv, hb2, hBA, hlt⟩ := bytes_new2 s w
    have HBA := hide hBA
    have HIN := hide hB
    clear hBA hB
    go_enter Try.func44, Try.ntmps44
    go_wp2_with (go_at_call 99; refine (HA.out _).mono ?_; rintro e w1 ⟨rfl, rfl⟩; simp only [h1])
    go_loopw [7] (fun i wr => ∃ k : Nat, k ≤ n ∧ i = .int .i64 k ∧ Below w.heap.size w wr ∧ w.heap.size < wr.heap.size ∧ Hid (BytesAt wr w.heap.size (woTo s.data.toList bs k)) ∧ Hid (∀ j g, j < k → bs[j]? = some g → woIn s.size g = true))
      (fun i _ => n - (intOf i).toNat)
    case atStart => exact ⟨0, by omega, rfl, hb2, hlt, hide (by rw [woTo_zero]; exact HBA.out), hide (fun j g hj => by omega)⟩
    case round =>
      obtain ⟨k, hk, rfl, hB2, hsz2, hcells, hg⟩ := hrel
      by_cases hlt2 : k < n
      · obtain ⟨b, o, rfl, hb, hxs⟩ := HIN.out (by intro e; rw [e] at HBL; have := HBL.out; simp at this; omega)
        obtain ⟨g, hgk⟩ : ∃ g, bs[k]? = some g := ⟨bs[k]'(by rw [HBL.out]; exact hlt2), List.getElem?_eq_getElem _⟩
        have hc0 : wr.cell? ⟨b, o + k, none⟩ = some (.int .i64 g) := (hB2.cell (p := ⟨b, o + k, none⟩) hb).trans (hxs k g hgk)
        have hi : (k : Int) < n := by omega
        have h0 : (0 : Int) ≤ k := by omega
        have hwr := IntWalk.i64_in ((s.size : Int) - 1) ⟨by omega, by omega⟩
        have HG := hide hgk
        clear hxs hgk
        cases hin : inB g 0 ((s.size : Int) - 1)
        · have HP := hide (wo_out H1.out HG.out (show woIn s.size g = false from hin))
          go_wp2_with (go_at_call 74; refine (l00In_any _ _ _ _).mono ?_; rintro e w' ⟨rfl, rfl⟩; simp only [hin])
          go_ret2
          exact ⟨ret_si (HP.out.1.symm.trans HV.out) (HP.out.2.symm.trans HC.out), hB2⟩
        · obtain ⟨g0, g1⟩ := inB_true.1 hin
          obtain ⟨m, rfl⟩ := Int.eq_ofNat_of_zero_le g0
          have hm : m < s.size := by omega
          have hmI : (m : Int) < s.size := by omega
          obtain ⟨hcm, hfm⟩ := hcells.out m (by rw [woTo_len, HL.out]; exact hm)
          have HST := hide (hcells.out.set (k := m) (by rw [woTo_len, HL.out]; exact hm) 46)
          have HSU := hide (woTo_succ (L := s.data.toList) HG.out)
          have HGO := hide (fun j g hj (hq : bs[j]? = some g) => (by
            by_cases e : j = k
            · subst e; rw [HG.out] at hq; injection hq with hq; subst hq; exact hin
            · exact hg.out j g (by omega) hq : woIn s.size g = true) : ∀ j g, j < k + 1 → bs[j]? = some g → woIn s.size g = true)
          go_wp2_with (go_at_call 74; refine (l00In_any _ _ _ _).mono ?_; rintro e w' ⟨rfl, rfl⟩; simp only [hin])
          exact ⟨⟨k + 1, by omega, by go_num, hB2.setCell (p := ⟨w.heap.size, m, none⟩) (Nat.le_refl _) _, (by rw [size_setCell]; exact hsz2), hide (by rw [HSU.out]; exact HST.out), HGO⟩, by simp [intOf]; omega⟩
      · obtain rfl : k = n := by omega
        have HOK := hide (wo_ok H1.out (fun j g hj => hg.out j g (by rw [← HBL.out]; exact hj)))
        have hbk := bytes_back (c := c) hcells.out
        rw [woTo_len, HL.out] at hbk
        go_wp2
        go_ret2
        exact ⟨ret_si (by rw [← HV.out, HOK.out.1, HBL.out]) (HOK.out.2.symm.trans HC.out), hB2⟩
end Go.Proofs.Ytajlbfbpkafjfaa
