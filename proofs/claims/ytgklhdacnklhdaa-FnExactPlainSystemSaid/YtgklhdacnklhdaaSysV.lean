/- Whether a system is valid: the model's way. -/
import Derived.Test.YtgklhdacnklhdaaSys
namespace Go.Proofs.Ytgklhdacnklhdaa
open Go.RowKit

/-- No sign ahead of place k has the letter x. -/
def noneTo (sg : List Dub) (x : Int) (k : Nat) : Prop := ∀ (j : Nat) (q : Dub), j < k → sg[j]? = some q → q.1 ≠ x
theorem noneTo.succ {sg : List Dub} {x : Int} {k : Nat} {p : Dub} (h : noneTo sg x k) (hp : sg[k]? = some p) (hne : p.1 ≠ x) : noneTo sg x (k + 1) := fun j q hj hq => by
  by_cases e : j = k
  · subst e; rw [hp] at hq; injection hq with hq; subst hq; exact hne
  · exact h j q (by omega) hq

set_option maxRecDepth 100000 in
set_option maxHeartbeats 2000000 in
theorem l03Value_any (S : Sy) (hS : S.ok) (b : Nat) (A D : Option Addr) (c d : Nat) (x : Int) (w : World) (hr : w.rangeAt b 0 [.slice A S.sg.length c, .slice D S.mn.length d]) (hA : SyAt w w.heap.size A D S) :
    Calls Try.prog 153 #[.pointer (some ⟨b, 0, none⟩), .int .u8 x] w fun e w' => e = .returned (.int .i64 (valL S.sg x)) ∧ w = w' := by
  have x0 := rangeAt_cell hr (k := 0) rfl
  have hn := hS.n
  unfold maxLen at hn
  have HS := hide hS
  clear hr hS
  go_enter Try.func153, Try.ntmps153
  go_wp2
  go_loop [5] (fun i => ∃ k : Nat, k ≤ S.sg.length ∧ i = .int .i64 k ∧ Hid (noneTo S.sg x k))
    (fun i => S.sg.length - (intOf i).toNat)
  case atStart => exact ⟨0, by omega, rfl, hide (fun j q hj => by omega)⟩
  case round =>
    obtain ⟨k, hk, rfl, hno⟩ := hrel
    by_cases hlt : k < S.sg.length
    · obtain ⟨b', o, rfl, hb, hps⟩ := hA.1 (by intro e; rw [e] at hlt; simp at hlt)
      obtain ⟨p, hp⟩ : ∃ p, S.sg[k]? = some p := ⟨S.sg[k]'hlt, List.getElem?_eq_getElem _⟩
      have hcell := hps k p hp
      obtain ⟨y, z⟩ := p
      have hbd := HS.out.sign hp
      have HP := hide hp
      clear hp
      have c0 : w.cell? ⟨b', o + k * 2, none⟩ = some (.int .u8 y) := hcell 0 _ rfl
      have c1 : w.cell? ⟨b', o + k * 2 + 1, none⟩ = some (.int .i16 z) := hcell 1 _ rfl
      have hi : (k : Int) < S.sg.length := by omega
      have hi0 : (0 : Int) ≤ k := by omega
      obtain ⟨⟨h1, h2⟩, h3, h4⟩ := hbd
      clear hcell hps hA
      by_cases he : y = x
      · have hd : ((y : Int) == x) = true := by simpa using he
        have HE := hide he
        clear he
        go_wp2
        go_ret
        exact ⟨ret_int (valL_get HP.out HE.out hno.out).symm, rfl⟩
      · have hd : ((y : Int) == x) = false := by simpa using he
        have HE := hide he
        clear he
        go_wp2
        exact ⟨⟨k + 1, by omega, by go_num, hide (hno.out.succ HP.out HE.out)⟩, by simp [intOf]; omega⟩
    · obtain rfl : k = S.sg.length := by omega
      go_wp2
      go_ret
      exact ⟨ret_int (valL_none (fun j q hq => hno.out j q (List.getElem?_eq_some_iff.1 hq).1 hq)).symm, rfl⟩

theorem sgTo.vsg {S : Sy} (h1 : 1 ≤ S.sg.length) (h8 : S.sg.length ≤ 8) (hl : ∀ p, S.sg[S.sg.length - 1]? = some p → p.2 = 1) (h : sgTo S.sg S.sg.length) : vsg S.sg := ⟨h1, h8, hl, h⟩

set_option maxRecDepth 100000 in
set_option maxHeartbeats 16000000 in
theorem l03Ok_any (S : Sy) (hS : S.ok) (b : Nat) (A D : Option Addr) (c d : Nat) (w : World) (hr : w.rangeAt b 0 [.slice A S.sg.length c, .slice D S.mn.length d]) (hb : b < w.heap.size) (hA : SyAt w w.heap.size A D S) :
    Calls Try.prog 98 #[.pointer (some ⟨b, 0, none⟩)] w fun e w' => e = .returned (.bool (vsys S)) ∧ Below w.heap.size w w' := by
  have HT := hide (fun h : okS S => vsys_true.2 h)
  have HF := hide (fun h : ¬ okS S => vsys_false.2 h)
  generalize vsys S = V at *
  have hn := hS.n
  have hm := hS.m
  unfold maxLen at hn hm
  have x0 := rangeAt_cell hr (k := 0) rfl
  have x1 := rangeAt_cell hr (k := 1) rfl
  have HV := hide (fun (W : World) (hB : Below w.heap.size w W) (x : Int) => l03Value_any S hS b A D c d x W (rangeAt_below hr hB hb) ((hA.below hB).mono hB.size))
  have HS := hide hS
  clear hS
  cases hi : inB S.sg.length 1 8
  · have HI := hide hi
    go_enter Try.func98, Try.ntmps98
    go_wp2_with (go_at_call 117; refine (l00In_any _ _ _ _).mono ?_; rintro e w' ⟨rfl, rfl⟩; rw [HI.out])
    go_ret
    exact ⟨ret_bool (HF.out (fun h => by have := inB_false.1 HI.out; have := h.sg.n1; have := h.sg.n8; omega)).symm, Below.refl _ _⟩
  have HI := hide hi
  have hn8 := inB_true.1 hi
  clear hi
  by_cases hm8 : 8 < S.mn.length
  · have hd : decide ((8 : Int) < S.mn.length) = true := by simp; omega
    have hd2 : decide (8 < S.mn.length) = true := by simp; omega
    go_enter Try.func98, Try.ntmps98
    go_wp2_with (go_at_call 117; refine (l00In_any _ _ _ _).mono ?_; rintro e w' ⟨rfl, rfl⟩; rw [HI.out])
    go_ret
    exact ⟨ret_bool (HF.out (fun h => by have := h.m8; omega)).symm, Below.refl _ _⟩
  have hd : decide ((8 : Int) < S.mn.length) = false := by simp; omega
  have hd2 : decide (8 < S.mn.length) = false := by simp; omega
  obtain ⟨bs, os, rfl, hbs, hps⟩ := hA.1 (by intro e; rw [e] at hn8; simp at hn8)
  obtain ⟨p, hp⟩ : ∃ p, S.sg[S.sg.length - 1]? = some p := ⟨S.sg[S.sg.length - 1]'(by omega), List.getElem?_eq_getElem _⟩
  have hcell := hps _ _ hp
  obtain ⟨y, z⟩ := p
  have c1 : w.cell? ⟨bs, os + (S.sg.length - 1) * 2 + 1, none⟩ = some (.int .i16 z) := hcell 1 _ rfl
  have hi1 : (0 : Int) ≤ (S.sg.length : Int) - 1 := by omega
  have hw1 : IntKind.i64.wrap ((S.sg.length : Int) - 1) = (S.sg.length : Int) - 1 := IntWalk.i64_in _ ⟨by omega, by omega⟩
  have ht1 : ((S.sg.length : Int) - 1).toNat = S.sg.length - 1 := by omega
  have hlt1 : (S.sg.length : Int) - 1 < S.sg.length := by omega
  clear hcell
  by_cases hz : z = 1
  · have hz1 : ((z : Int) != 1) = false := by simpa using hz
    have HL := hide (show ∀ q, S.sg[S.sg.length - 1]? = some q → q.2 = 1 from fun q hq => by rw [hp] at hq; injection hq with hq; rw [← hq]; exact hz)
    clear hz hp
    go_enter Try.func98, Try.ntmps98
    go_wp2_with (go_at_call 117; refine (l00In_any _ _ _ _).mono ?_; rintro e w' ⟨rfl, rfl⟩; rw [HI.out])
    clear c1 hi1 hw1 ht1 hlt1 hd hd2
    have QL := hide (fun (W : World) (n : Int) => l01Letter_any n W)
    have QI := hide (fun (W : World) (n : Int) => l00In_any n 1 5000 W)
    go_loopw [4] (fun i wr => ∃ k : Nat, k ≤ S.sg.length ∧ i = .int .i64 k ∧ Below w.heap.size w wr ∧ Hid (sgTo S.sg k ∧ apart S.sg k))
      (fun i _ => S.sg.length - (intOf i).toNat)
    case atStart => exact ⟨0, by omega, rfl, Below.refl _ _, hide ⟨sgTo.zero _, apart.zero _⟩⟩
    case round =>
      obtain ⟨k, hk, rfl, hB, hG⟩ := hrel
      have x0' : wr.cell? ⟨b, 0, none⟩ = some (.slice (some ⟨bs, os, none⟩) S.sg.length c) := rangeAt_below hr hB hb 0 _ rfl
      have x1' : wr.cell? ⟨b, 1, none⟩ = some (.slice D S.mn.length d) := rangeAt_below hr hB hb 1 _ rfl
      clear x0 x1
      by_cases hlt : k < S.sg.length
      · obtain ⟨p, hp⟩ : ∃ p, S.sg[k]? = some p := ⟨S.sg[k]'hlt, List.getElem?_eq_getElem _⟩
        have hcell := rangeAt_below (hps k p hp) hB hbs
        obtain ⟨y, z⟩ := p
        obtain ⟨⟨h1, h2⟩, h3, h4⟩ := HS.out.sign hp
        have c0 : wr.cell? ⟨bs, os + k * 2, none⟩ = some (.int .u8 y) := hcell 0 _ rfl
        have c1 : wr.cell? ⟨bs, os + k * 2 + 1, none⟩ = some (.int .i16 z) := hcell 1 _ rfl
        have hi : (k : Int) < S.sg.length := by omega
        have h0 : (0 : Int) ≤ k := by omega
        clear hcell
        have HP := hide hp
        clear hp
        cases hcap : cap y
        · have HC := hide hcap
          go_wp2
          go_quiet (first | (go_at_call 59; exact qleft (l01Letter_any _ _)) | (go_at_call 117; exact qleft (l00In_any _ _ _ _)))
          go_wp2
          go_ret
          exact ⟨ret_bool (HF.out (fun h => by have := h.sg.to.caps k _ hlt HP.out; rw [HC.out] at this; cases this)).symm, below_drewN hB _⟩
        have HC := hide hcap
        cases hin : inB z 1 5000
        · have HN := hide hin
          go_wp2
          go_quiet (first | (go_at_call 59; exact qleft (l01Letter_any _ _)) | (go_at_call 117; exact qleft (l00In_any _ _ _ _)))
          go_wp2
          go_ret
          exact ⟨ret_bool (HF.out (fun h => by have := h.sg.bd HP.out; have := inB_false.1 HN.out; omega)).symm, below_drewN hB _⟩
        have HN := hide hin
        obtain ⟨z1, z5⟩ := inB_true.1 hin
        -- the value is less than the one before
        have hstep : ∀ W, Below w.heap.size w W → Hid (sgTo S.sg (k + 1)) → W.cell? ⟨b, 0, none⟩ = some (.slice (some ⟨bs, os, none⟩) S.sg.length c) → True := fun _ _ _ _ => trivial
        clear hstep
        have bad : ∀ q : Dub, 0 < k → S.sg[k - 1]? = some q → q.2 ≤ z → ¬ okS S := fun q h0 hq hle h => by
          have := h.sg.to.fall (k - 1) q (y, z) (by omega) hq (by rw [show k - 1 + 1 = k by omega]; exact HP.out)
          simp only at this; omega
        have HBAD := hide bad
        clear bad
        by_cases hk0 : k = 0
        · have hd0 : decide (0 < k) = false := by simp; omega
          have HG1 := hide (show sgTo S.sg (k + 1) from hG.out.1.succ HP.out HC.out (fun q h => by omega) (fun _ => z5))
          have HK := hide hk0
          clear hk0
          go_wp2
          go_quiet (first | (go_at_call 59; exact qleft (l01Letter_any _ _)) | (go_at_call 117; exact qleft (l00In_any _ _ _ _)))
          clear hcap hin hd0 z1 z5 c1
          go_wp2
          go_loopw [5] (fun i w2 => ∃ m : Nat, m ≤ k ∧ i = .int .i64 m ∧ Below w.heap.size w w2 ∧ Hid (noneTo S.sg y m))
            (fun i _ => k - (intOf i).toNat)
          case atStart => exact ⟨0, by omega, rfl, below_drewN hB _, hide (fun j q hj => by omega)⟩
          case round =>
            obtain ⟨m, hmk, rfl, hB2, hno⟩ := hrel
            clear x0' x1' c0
            have x0' : wr.cell? ⟨b, 0, none⟩ = some (.slice (some ⟨bs, os, none⟩) S.sg.length c) := rangeAt_below hr hB2 hb 0 _ rfl
            have c0 : wr.cell? ⟨bs, os + k * 2, none⟩ = some (.int .u8 y) := rangeAt_below (hps k _ HP.out) hB2 hbs 0 _ rfl
            by_cases hlm : m < k
            · obtain ⟨q, hq⟩ : ∃ q, S.sg[m]? = some q := ⟨S.sg[m]'(by omega), List.getElem?_eq_getElem _⟩
              obtain ⟨y2, z2⟩ := q
              have c2 : wr.cell? ⟨bs, os + m * 2, none⟩ = some (.int .u8 y2) := rangeAt_below (hps m _ hq) hB2 hbs 0 _ rfl
              have HQ2 := hide hq
              have hm1 : (m : Int) < k := by omega
              have hm2 : (m : Int) < S.sg.length := by omega
              have hm0 : (0 : Int) ≤ m := by omega
              clear hq
              by_cases he : y2 = y
              · have HB3 := hide (show ¬ okS S from fun h => h.ap m k _ _ hlm hlt HQ2.out HP.out he)
                have hd : ((y2 : Int) == y) = true := by simpa using he
                clear he
                go_wp2
                go_quiet (fail)
                go_wp2
                go_ret
                exact ⟨ret_bool (HF.out HB3.out).symm, below_drewN hB2 _⟩
              · have HN2 := hide (hno.out.succ HQ2.out he)
                have hd : ((y2 : Int) == y) = false := by simpa using he
                clear he
                go_wp2
                go_quiet (fail)
                go_wp2
                exact ⟨⟨m + 1, by omega, by go_num, below_drewN hB2 _, HN2⟩, by simp [intOf]; omega⟩
            · obtain rfl : m = k := by omega
              have HAP := hide (hG.out.2.succ HP.out hno.out)
              clear c0
              go_wp2
              exact ⟨⟨m + 1, by omega, by go_num, hB2, hide ⟨HG1.out, HAP.out⟩⟩, by simp [intOf]; omega⟩
        · have hd0 : decide (0 < k) = true := by simp; omega
          obtain ⟨q, hq⟩ : ∃ q, S.sg[k - 1]? = some q := ⟨S.sg[k - 1]'(by omega), List.getElem?_eq_getElem _⟩
          have hcell' := rangeAt_below (hps (k - 1) q hq) hB hbs
          obtain ⟨y', z'⟩ := q
          have c1' : wr.cell? ⟨bs, os + (k - 1) * 2 + 1, none⟩ = some (.int .i16 z') := hcell' 1 _ rfl
          have j1 : (1 : Int) ≤ k := by omega
          have j2 : (k : Int) - 1 < S.sg.length := by omega
          have j3 : ((k : Int) - 1).toNat = k - 1 := by omega
          have j4 : (0 : Int) ≤ (k : Int) - 1 := by omega
          have e2 := IntWalk.i64_in ((k : Int) - 1) ⟨by omega, by omega⟩
          have HQ := hide hq
          clear hcell' hk0 hq
          by_cases hle : z' ≤ z
          · have hdl : decide (z' ≤ z) = true := by simpa using hle
            have HBB := hide (HBAD.out _ (by omega) HQ.out hle)
            clear hle
            go_wp2
            go_quiet (first | (go_at_call 59; exact qleft (l01Letter_any _ _)) | (go_at_call 117; exact qleft (l00In_any _ _ _ _)))
            go_wp2
            go_ret
            exact ⟨ret_bool (HF.out HBB.out).symm, below_drewN hB _⟩
          · have hdl : decide (z' ≤ z) = false := by simpa using hle
            have HG1 := hide (show sgTo S.sg (k + 1) from hG.out.1.succ HP.out HC.out (fun q' _ hq' => by rw [HQ.out] at hq'; injection hq' with hq'; subst hq'; simp only; omega) (fun h => by omega))
            clear hle
            go_wp2
            go_quiet (first | (go_at_call 59; exact qleft (l01Letter_any _ _)) | (go_at_call 117; exact qleft (l00In_any _ _ _ _)))
            clear hcap hin hd0 z1 z5 c1 c1' j1 j2 j3 j4 e2 hdl
            go_wp2
            go_loopw [5] (fun i w2 => ∃ m : Nat, m ≤ k ∧ i = .int .i64 m ∧ Below w.heap.size w w2 ∧ Hid (noneTo S.sg y m))
              (fun i _ => k - (intOf i).toNat)
            case atStart => exact ⟨0, by omega, rfl, below_drewN hB _, hide (fun j q hj => by omega)⟩
            case round =>
              obtain ⟨m, hmk, rfl, hB2, hno⟩ := hrel
              clear x0' x1' c0
              have x0' : wr.cell? ⟨b, 0, none⟩ = some (.slice (some ⟨bs, os, none⟩) S.sg.length c) := rangeAt_below hr hB2 hb 0 _ rfl
              have c0 : wr.cell? ⟨bs, os + k * 2, none⟩ = some (.int .u8 y) := rangeAt_below (hps k _ HP.out) hB2 hbs 0 _ rfl
              by_cases hlm : m < k
              · obtain ⟨q, hq⟩ : ∃ q, S.sg[m]? = some q := ⟨S.sg[m]'(by omega), List.getElem?_eq_getElem _⟩
                obtain ⟨y2, z2⟩ := q
                have c2 : wr.cell? ⟨bs, os + m * 2, none⟩ = some (.int .u8 y2) := rangeAt_below (hps m _ hq) hB2 hbs 0 _ rfl
                have HQ2 := hide hq
                have hm1 : (m : Int) < k := by omega
                have hm2 : (m : Int) < S.sg.length := by omega
                have hm0 : (0 : Int) ≤ m := by omega
                clear hq
                by_cases he : y2 = y
                · have HB3 := hide (show ¬ okS S from fun h => h.ap m k _ _ hlm hlt HQ2.out HP.out he)
                  have hd : ((y2 : Int) == y) = true := by simpa using he
                  clear he
                  go_wp2
                  go_quiet (fail)
                  go_wp2
                  go_ret
                  exact ⟨ret_bool (HF.out HB3.out).symm, below_drewN hB2 _⟩
                · have HN2 := hide (hno.out.succ HQ2.out he)
                  have hd : ((y2 : Int) == y) = false := by simpa using he
                  clear he
                  go_wp2
                  go_quiet (fail)
                  go_wp2
                  exact ⟨⟨m + 1, by omega, by go_num, below_drewN hB2 _, HN2⟩, by simp [intOf]; omega⟩
              · obtain rfl : m = k := by omega
                have HAP := hide (hG.out.2.succ HP.out hno.out)
                clear c0
                go_wp2
                exact ⟨⟨m + 1, by omega, by go_num, hB2, hide ⟨HG1.out, HAP.out⟩⟩, by simp [intOf]; omega⟩
      · obtain rfl : k = S.sg.length := by omega
        have HVS := hide (show vsg S.sg from ⟨by omega, by omega, HL.out, hG.out.1⟩)
        have HAP := hide hG.out.2
        clear hG hlt
        go_wp2
        go_loopw [6] (fun i wr => ∃ k : Nat, k ≤ S.mn.length ∧ i = .int .i64 k ∧ Below w.heap.size w wr ∧ Hid (mnTo S k))
          (fun i _ => S.mn.length - (intOf i).toNat)
        case atStart => exact ⟨0, by omega, rfl, hB, hide (mnTo.zero _)⟩
        case round =>
          clear hB x0' x1'
          obtain ⟨k, hk, rfl, hB, hG⟩ := hrel
          have x1' : wr.cell? ⟨b, 1, none⟩ = some (.slice D S.mn.length d) := rangeAt_below hr hB hb 1 _ rfl
          by_cases hlt : k < S.mn.length
          · obtain ⟨bm, om, rfl, hbm, hpm⟩ := hA.2 (by intro e; rw [e] at hlt; simp at hlt)
            obtain ⟨p, hp⟩ : ∃ p, S.mn[k]? = some p := ⟨S.mn[k]'hlt, List.getElem?_eq_getElem _⟩
            have hcell := rangeAt_below (hpm k p hp) hB hbm
            obtain ⟨y, z⟩ := p
            obtain ⟨⟨h1, h2⟩, h3, h4⟩ := HS.out.pair hp
            have c0 : wr.cell? ⟨bm, om + k * 2, none⟩ = some (.int .u8 y) := hcell 0 _ rfl
            have c1 : wr.cell? ⟨bm, om + k * 2 + 1, none⟩ = some (.int .u8 z) := hcell 1 _ rfl
            have hi : (k : Int) < S.mn.length := by omega
            have h0 : (0 : Int) ≤ k := by omega
            have HP := hide hp
            clear hcell hp
            go_wp2_with fail
            refine (HV.out _ (hB.alloc hB.size _) _).mono ?_
            rintro e w1 ⟨rfl, rfl⟩
            go_wp2_with fail
            refine (HV.out _ (hB.alloc hB.size _) _).mono ?_
            rintro e w1 ⟨rfl, rfl⟩
            have HVAL := hide (fun h : okS S => h.mn.val k _ hlt HP.out)
            have HORD := hide (fun (h : okS S) (q : Dub) (h0 : 0 < k) (hq : S.mn[k - 1]? = some q) => h.mn.ord (k - 1) q _ (by omega) hq (by rw [show k - 1 + 1 = k by omega]; exact HP.out))
            have HSTEP := hide (fun h1 h2 h3 => hG.out.succ HP.out h1 h2 h3)
            simp only at HVAL HSTEP
            have hB1 := hB.alloc hB.size (.cells #[.int .u8 y, .int .u8 z] 144)
            obtain ⟨v1, v2⟩ := valL_bd HS.out y
            obtain ⟨v3, v4⟩ := valL_bd HS.out z
            generalize valL S.sg y = vy at *
            generalize valL S.sg z = vz at *
            by_cases e0 : vy = 0
            · have HE := hide e0
              have hd : ((vy : Int) == 0) = true := by simpa using e0
              clear e0
              go_wp2
              go_ret
              exact ⟨ret_bool (HF.out (fun h => (HVAL.out h).1 HE.out)).symm, hB1⟩
            have hd : ((vy : Int) == 0) = false := by simpa using e0
            by_cases e1 : vz ≤ vy
            · have hd2 : decide (vz ≤ vy) = true := by simpa using e1
              have HE := hide e1
              clear e0 e1
              go_wp2
              go_ret
              exact ⟨ret_bool (HF.out (fun h => by have := (HVAL.out h).2; have := HE.out; omega)).symm, hB1⟩
            have hd2 : decide (vz ≤ vy) = false := by simpa using e1
            have HST := hide (HSTEP.out e0 (by omega))
            clear e0 e1 HSTEP HVAL
            by_cases hk0 : k = 0
            · have hd0 : decide (0 < k) = false := by simp; omega
              have HN := hide (HST.out (fun q h => by omega))
              clear hk0
              go_wp2
              exact ⟨⟨k + 1, by omega, by go_num, hB1, HN⟩, by simp [intOf]; omega⟩
            · have hd0 : decide (0 < k) = true := by simp; omega
              obtain ⟨q, hq⟩ : ∃ q, S.mn[k - 1]? = some q := ⟨S.mn[k - 1]'(by omega), List.getElem?_eq_getElem _⟩
              have hcell' := rangeAt_below (hpm (k - 1) q hq) hB1 hbm
              obtain ⟨y', z'⟩ := q
              have j1 : (1 : Int) ≤ k := by omega
              have j2 : (k : Int) - 1 < S.mn.length := by omega
              have j3 : ((k : Int) - 1).toNat = k - 1 := by omega
              have j4 : (0 : Int) ≤ (k : Int) - 1 := by omega
              have e2 := IntWalk.i64_in ((k : Int) - 1) ⟨by omega, by omega⟩
              have hx1 : (wr.alloc (Obj.cells #[.int .u8 y, .int .u8 z] 144)).cell? ⟨b, 1, none⟩ = some (.slice (some ⟨bm, om, none⟩) S.mn.length d) := rangeAt_below hr hB1 hb 1 _ rfl
              have c0' : (wr.alloc (Obj.cells #[.int .u8 y, .int .u8 z] 144)).cell? ⟨bm, om + (k - 1) * 2, none⟩ = some (.int .u8 y') := hcell' 0 _ rfl
              have c1' : (wr.alloc (Obj.cells #[.int .u8 y, .int .u8 z] 144)).cell? ⟨bm, om + (k - 1) * 2 + 1, none⟩ = some (.int .u8 z') := hcell' 1 _ rfl
              have m0 := rangeAt_cell (rangeAt_new wr (a2c (y, z)) 144) (k := 0) rfl
              have m1 := rangeAt_cell (rangeAt_new wr (a2c (y, z)) 144) (k := 1) rfl
              have sz : wr.heap.size < (wr.alloc (Obj.cells #[.int .u8 y, .int .u8 z] 144)).heap.size := by simp
              change (wr.alloc (Obj.cells #[.int .u8 y, .int .u8 z] 144)).cell? ⟨wr.heap.size, 0, none⟩ = some (.int .u8 y) at m0
              change (wr.alloc (Obj.cells #[.int .u8 y, .int .u8 z] 144)).cell? ⟨wr.heap.size, 1, none⟩ = some (.int .u8 z) at m1
              have HO := hide (fun h => HORD.out h _ (by omega) hq)
              have HST' := hide (fun h : lexB (y', z') (y, z) = true => HST.out (fun q' _ hq' => by rw [hq] at hq'; injection hq' with hq'; subst hq'; exact h))
              clear hcell' hk0 hq HORD HST c0 c1
              generalize wr.alloc (Obj.cells #[.int .u8 y, .int .u8 z] 144) = W2 at *
              have hB3 := hB1.alloc hB1.size (.cells #[.int .u8 y', .int .u8 z'] 144)
              by_cases g1 : y < y'
              · have hg : decide (y < y') = true := by simpa using g1
                have HL1 := hide (show lexB (y', z') (y, z) = false from lexB_false.2 (by simp only; omega))
                clear g1
                go_wp2
                go_ret
                exact ⟨ret_bool (HF.out (fun h => by have := HO.out h; rw [HL1.out] at this; cases this)).symm, hB3⟩
              · have hg : decide (y < y') = false := by simpa using g1
                by_cases g2 : y' = y
                · have hg2 : ((y' : Int) == y) = true := by simpa using g2
                  by_cases g3 : z ≤ z'
                  · have hg3 : decide (z ≤ z') = true := by simpa using g3
                    have HL1 := hide (show lexB (y', z') (y, z) = false from lexB_false.2 (by simp only; omega))
                    clear g1 g2 g3
                    go_wp2
                    go_ret
                    exact ⟨ret_bool (HF.out (fun h => by have := HO.out h; rw [HL1.out] at this; cases this)).symm, hB3⟩
                  · have hg3 : decide (z ≤ z') = false := by simpa using g3
                    have HL1 := hide (HST'.out (lexB_true.2 (by simp only; omega)))
                    clear g1 g2 g3
                    go_wp2
                    exact ⟨⟨k + 1, by omega, by go_num, hB3, HL1⟩, by simp [intOf]; omega⟩
                · have hg2 : ((y' : Int) == y) = false := by simpa using g2
                  have HL1 := hide (HST'.out (lexB_true.2 (by simp only; omega)))
                  clear g1 g2
                  go_wp2
                  exact ⟨⟨k + 1, by omega, by go_num, hB3, HL1⟩, by simp [intOf]; omega⟩
          · obtain rfl : k = S.mn.length := by omega
            go_wp2
            go_ret
            exact ⟨ret_bool (HT.out ⟨HVS.out, HAP.out, by omega, hG.out⟩).symm, hB⟩
  · have hz1 : ((z : Int) != 1) = true := by simpa using hz
    have HZ := hide hz
    have HP := hide hp
    clear hz hp
    go_enter Try.func98, Try.ntmps98
    go_wp2_with (go_at_call 117; refine (l00In_any _ _ _ _).mono ?_; rintro e w' ⟨rfl, rfl⟩; rw [HI.out])
    go_ret
    exact ⟨ret_bool (HF.out (fun h => HZ.out (h.sg.last _ HP.out))).symm, Below.refl _ _⟩

set_option maxRecDepth 100000 in
set_option maxHeartbeats 2000000 in
theorem specValidSystem_any (Y : Sy) (hY : Y.ok) (G J : Option Addr) (cg cj : Nat) (w : World) (hG : SyAt w w.heap.size G J Y) :
    Calls Try.prog 39 #[sv Y G J cg cj] w fun e w' => e = .returned (.bool (vsys Y)) ∧ Below w.heap.size w w' := by
  have b0 : Below w.heap.size w (w.alloc (.cells #[.slice G Y.sg.length cg, .slice J Y.mn.length cj] 69)) := (Below.refl _ _).alloc (Nat.le_refl _) _
  have H := hide (l03Ok_any Y hY w.heap.size G J cg cj _ (rangeAt_new w [.slice G Y.sg.length cg, .slice J Y.mn.length cj] 69) (by simp) ((hG.below b0).mono b0.size))
  generalize vsys Y = V at *
  go_enter Try.func39, Try.ntmps39
  go_wp2_with fail
  refine H.out.mono ?_
  rintro e w1 ⟨rfl, hb1⟩
  go_wp2
  go_ret
  exact ⟨rfl, b0.trans (hb1.mono b0.size)⟩
end Go.Proofs.Ytgklhdacnklhdaa
