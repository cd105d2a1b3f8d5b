/- JoinAll, of both. -/
import Derived.Test.YtajlbfbpkafjfaaIvPv
import Derived.Test.YtajlbfbpkafjfaaHasI
import Derived.Test.YtajlbfbpkafjfaaIvWo
namespace Go.Proofs.Ytajlbfbpkafjfaa
open Go.RowKit

def pAt' (ps : List Pcx) (x : Int) : Pcx := ps.getD x.toNat (⟨#[]⟩, 0, 0)
theorem pAt'_at {ps : List Pcx} {k : Nat} {x : Pcx} (h : ps[k]? = some x) : pAt' ps ((k : Nat) : Int) = x := by simp [pAt', List.getD, h]
/-- So far it is a row. -/
def stB (ps : List Pcx) (os : List Int) (k : Nat) : Bool := !decide (os.getD k 0 ∈ os.take k) && (decide (k = 0) || joB (pAt' ps (os.getD (k - 1) 0)) (pAt' ps (os.getD k 0)))
def rowB (ps : List Pcx) (os : List Int) : Bool := (List.range os.length).all (stB ps os)
theorem rowB_true {ps : List Pcx} {os : List Int} (h : ∀ j, j < os.length → stB ps os j = true) : rowB ps os = true := by
  unfold rowB; rw [List.all_eq_true]; intro j hj; exact h j (List.mem_range.1 hj)
theorem rowB_false {ps : List Pcx} {os : List Int} {k : Nat} (hk : k < os.length) (h : stB ps os k = false) : rowB ps os = false := by
  unfold rowB; rw [List.all_eq_false]; exact ⟨k, List.mem_range.2 hk, by rw [h]; exact Bool.false_ne_true⟩
/-- The text of the first k pieces. -/
def jtx (ps : List Pcx) (os : List Int) (k : Nat) : List UInt8 := (os.take k).flatMap (fun x => (pAt' ps x).1.data.toList)
def jts (ps : List Pcx) (os : List Int) (k : Nat) : ByteArray := ⟨(jtx ps os k).toArray⟩
theorem jts_zero (ps : List Pcx) (os : List Int) : jts ps os 0 = ⟨#[]⟩ := rfl
theorem jts_succ {ps : List Pcx} {os : List Int} {k : Nat} {x : Int} {p : Pcx} (h : os[k]? = some x) (hp : pAt' ps x = p) : jts ps os (k + 1) = jts ps os k ++ p.1 := by
  symm
  unfold jts
  apply ba_ext
  rw [append_data]
  show jtx ps os k ++ p.1.data.toList = jtx ps os (k + 1)
  unfold jtx
  rw [List.take_add_one, h, List.flatMap_append]
  simp [hp]
theorem jts_size (s t : ByteArray) (k : Nat) (h : s.size ≤ 20 * k) (ht : t.size ≤ 20) : (s ++ t).size ≤ 20 * (k + 1) := by rw [append_size]; omega
noncomputable def jaV (ps : List Pcx) (os : List Int) : ByteArray := if (vpcs ps && os.all (woIn ps.length) && rowB ps os) = true then jts ps os os.length else ⟨#[]⟩
noncomputable def jaC (ps : List Pcx) (os : List Int) : Int := if vpcs ps = true then if os.all (woIn ps.length) = true then if rowB ps os = true then 0 else 4 else 2 else 1
theorem ja_no {ps : List Pcx} {os : List Int} (h : vpcs ps = false) : jaV ps os = ⟨#[]⟩ ∧ jaC ps os = 1 := by unfold jaV jaC; rw [h]; exact ⟨rfl, rfl⟩
theorem ja_out {ps : List Pcx} {os : List Int} (h : vpcs ps = true) {k : Nat} {g : Int} (hk : os[k]? = some g) (hg : woIn ps.length g = false) : jaV ps os = ⟨#[]⟩ ∧ jaC ps os = 2 := by
  unfold jaV jaC; rw [h, all_false_of hk hg]; exact ⟨rfl, rfl⟩
theorem ja_not {ps : List Pcx} {os : List Int} (h : vpcs ps = true) (h1 : os.all (woIn ps.length) = true) (h2 : rowB ps os = false) : jaV ps os = ⟨#[]⟩ ∧ jaC ps os = 4 := by
  unfold jaV jaC; rw [h, h1, h2]; exact ⟨rfl, rfl⟩
theorem ja_ok {ps : List Pcx} {os : List Int} (h : vpcs ps = true) (h1 : os.all (woIn ps.length) = true) (h2 : rowB ps os = true) : jaV ps os = jts ps os os.length ∧ jaC ps os = 0 := by
  unfold jaV jaC; rw [h, h1, h2]; exact ⟨rfl, rfl⟩
theorem wo_get {n : Nat} {os : List Int} (h : os.all (woIn n) = true) {k : Nat} {x : Int} (hk : os[k]? = some x) : ∃ m : Nat, m < n ∧ x = (m : Int) := by
  have := List.all_eq_true.1 h x (List.mem_of_getElem? hk)
  obtain ⟨h1, h2⟩ := inB_true.1 this
  exact ⟨x.toNat, by omega, by omega⟩
theorem getD_os {os : List Int} {k : Nat} {x : Int} (h : os[k]? = some x) : os.getD k 0 = x := by simp [List.getD, h]
theorem IntsAt.take {w : World} {B : Nat} {A : Option Addr} {xs : List Int} (h : IntsAt w B A xs) (k : Nat) : IntsAt w B A (xs.take k) := fun hn => by
  obtain ⟨b, o, e, h1, h2⟩ := h (by intro e; rw [e] at hn; simp at hn)
  exact ⟨b, o, e, h1, fun j x hx => h2 j x (by rw [List.getElem?_take] at hx; split at hx; exact hx; cases hx)⟩

set_option maxRecDepth 100000 in
set_option maxHeartbeats 8000000 in
theorem isRow_any (A : Option Addr) (ps : List Pcx) (c : Nat) (B : Option Addr) (os : List Int) (cb : Nat) (w : World) (hcap : os.length ≤ cb) (hn : ps.length ≤ 8) (hx : ∀ x ∈ ps, pxok x) (hon : os.length ≤ 1048576) (hall : os.all (woIn ps.length) = true) (hA : PcAt w w.heap.size A ps) (hB : IntsAt w w.heap.size B os) :
    Calls Try.prog 119 #[.slice A ps.length c, .slice B os.length cb] w fun e w' => e = .returned (.bool (rowB ps os)) ∧ Below w.heap.size w w' := by
  have HALL := hide (fun k x (h : os[k]? = some x) => wo_get hall h)
  have HXO := hide (fun k x (h : ps[k]? = some x) => hx x (List.mem_of_getElem? h))
  have HRF := hide (fun k h1 h2 => @rowB_false ps os k h1 h2)
  have HRT := hide (fun h => @rowB_true ps os h)
  generalize hR : rowB ps os = R at *
  have HR := hide hR
  clear hR
  have HPA := hide hA
  have HOB := hide hB
  obtain ⟨m, hm⟩ : ∃ m, os.length = m := ⟨_, rfl⟩
  obtain ⟨n, hnn⟩ : ∃ n, ps.length = n := ⟨_, rfl⟩
  have HM := hide hm
  have HN := hide hnn
  rw [hm] at hon hcap HRF HRT ⊢
  rw [hnn] at hn HALL ⊢
  have HCO := hide (fun k (W : World) (hW : Below w.heap.size w W) v (hk : k < m) => (by
    have := containsI_any B (os.take k) cb v W (by rw [List.length_take]; unfold maxLen; omega) ((hB.take k).go hW)
    rwa [show (os.take k).length = k by rw [List.length_take]; omega] at this :
      Calls Try.prog 152 #[.slice B k cb, .int .i64 v] W fun e w' => e = .returned (.bool (decide (v ∈ os.take k))) ∧ Below W.heap.size W w'))
  clear hm hnn hA hB hx hall
  go_enter Try.func119, Try.ntmps119
  go_wp2
  go_loopw [9] (fun i wr => ∃ k : Nat, k ≤ m ∧ i = .int .i64 k ∧ Hid (∀ j, j < k → stB ps os j = true) ∧ Below w.heap.size w wr) (fun i _ => m - (intOf i).toNat)
  case atStart => exact ⟨0, Nat.zero_le _, rfl, hide (fun j hj => by omega), Below.refl _ _⟩
  case round =>
    obtain ⟨k, hk, rfl, hg, hBe⟩ := hrel
    by_cases hlt : k < m
    · obtain ⟨x, hxk⟩ : ∃ x, os[k]? = some x := ⟨os[k]'(by rw [HM.out]; exact hlt), List.getElem?_eq_getElem _⟩
      obtain ⟨q, hqn, rfl⟩ := HALL.out k x hxk
      obtain ⟨bo, oo, rfl, hbo, hos⟩ := HOB.out (by intro e; rw [e] at hxk; simp at hxk)
      obtain ⟨p, hp⟩ : ∃ p, ps[q]? = some p := ⟨ps[q]'(by rw [HN.out]; exact hqn), List.getElem?_eq_getElem _⟩
      obtain ⟨b, o, rfl, hb, hxs⟩ := HPA.out (by intro e; rw [e] at hp; simp at hp)
      have hbs := hBe.size
      have c0 : wr.cell? ⟨bo, oo + k, none⟩ = some (.int .i64 (q : Int)) := (hBe.cell (p := ⟨bo, oo + k, none⟩) hbo).trans (hos k _ hxk)
      have r1 := rangeAt_below (hxs q p hp) hBe hb
      have hpo := HXO.out q p hp
      have hi : (k : Int) < m := by omega
      have h0 : (0 : Int) ≤ k := by omega
      have hqi : (q : Int) < n := by omega
      have hq0 : (0 : Int) ≤ q := by omega
      have hkc : (k : Int) ≤ cb := by omega
      have HGO := hide (fun (hw : stB ps os k = true) => (fun j hj => by
        by_cases e : j = k
        · subst e; exact hw
        · exact hg.out j (by omega) : ∀ j, j < k + 1 → stB ps os j = true))
      have HST : Hid (stB ps os k = (!decide ((q : Int) ∈ os.take k) && (decide (k = 0) || joB (pAt' ps (os.getD (k - 1) 0)) p))) := hide (by unfold stB; rw [getD_os hxk, pAt'_at hp])
      have HC := hide (fun W (hW : Below wr.heap.size wr W) => HCO.out k W (hBe.trans (hW.mono hbs)) (q : Int) hlt)
      obtain ⟨t, a1, a2⟩ := p
      have q0 := Over.get c0
      have q1 := Over.get (show wr.cell? ⟨b, o + q * 3, none⟩ = some (.string t) from r1 0 _ rfl)
      have q2 := Over.get (show wr.cell? ⟨b, o + q * 3 + 1, none⟩ = some (.int .u8 a1) from r1 1 _ rfl)
      have q3 := Over.get (show wr.cell? ⟨b, o + q * 3 + 2, none⟩ = some (.int .u8 a2) from r1 2 _ rfl)
      have HOS := hide hos
      have HXS := hide hxs
      clear hos hxs hxk hp r1
      generalize decide ((q : Int) ∈ os.take k) = D at *
      cases D
      · by_cases hk0 : k = 0
        · have HS := hide (HGO.out (by rw [HST.out]; simp [hk0]))
          have hd : decide ((0 : Int) < k) = false := by simp; omega
          have hd' : decide (0 < k) = false := by simp; omega
          have HK0 := hide hk0
          have HJ := hide True.intro
          clear hk0
          go_wp2
          refine wp_region_over (by kernel_rfl) (by kernel_rfl) ?_
          repeat (go_big_quiet_step (first | (go_at_call 152; exact over_call (HC.out _ (Over.h _)))))
          refine wpQuiet_nil ?_
          intro w1 hb1
          clear q0 q1 q2 q3
          go_wp2
          exact ⟨⟨k + 1, by omega, by go_num, HS, hBe.trans (hb1.mono hbs)⟩, by simp [intOf]; omega⟩
        · have hd : decide ((0 : Int) < k) = true := by simp; omega
          have hd' : decide (0 < k) = true := by simp; omega
          obtain ⟨y, hyk⟩ : ∃ y, os[k - 1]? = some y := ⟨os[k - 1]'(by rw [HM.out]; omega), List.getElem?_eq_getElem _⟩
          obtain ⟨r, hrn, rfl⟩ := HALL.out (k - 1) y hyk
          obtain ⟨p', hp'⟩ : ∃ p', ps[r]? = some p' := ⟨ps[r]'(by rw [HN.out]; exact hrn), List.getElem?_eq_getElem _⟩
          have cm : wr.cell? ⟨bo, oo + (k - 1), none⟩ = some (.int .i64 (r : Int)) := (hBe.cell (p := ⟨bo, oo + (k - 1), none⟩) hbo).trans (HOS.out (k - 1) _ hyk)
          have r2 := rangeAt_below (HXS.out r p' hp') hBe hb
          have hpo' := HXO.out r p' hp'
          have HST2 : Hid (stB ps os k = joB p' (t, a1, a2)) := hide (by
            rw [HST.out, getD_os hyk, pAt'_at hp']
            have : decide (k = 0) = false := by simpa using hk0
            rw [this]; simp)
          obtain ⟨t', b1, b2⟩ := p'
          have HJ := hide (fun W => joins_any t' t b1 b2 a1 a2 W hpo'.2.2 hpo.2.1)
          have q4 := Over.get cm
          have q5 := Over.get (show wr.cell? ⟨b, o + r * 3, none⟩ = some (.string t') from r2 0 _ rfl)
          have q6 := Over.get (show wr.cell? ⟨b, o + r * 3 + 1, none⟩ = some (.int .u8 b1) from r2 1 _ rfl)
          have q7 := Over.get (show wr.cell? ⟨b, o + r * 3 + 2, none⟩ = some (.int .u8 b2) from r2 2 _ rfl)
          have hri : (r : Int) < n := by omega
          have hr0 : (0 : Int) ≤ r := by omega
          have j00 : (1 : Int) ≤ (k : Int) := by omega
          have j0 : (0 : Int) ≤ (k : Int) - 1 := by omega
          have j1 : (k : Int) - 1 < m := by omega
          have j2 : ((k : Int) - 1).toNat = k - 1 := by omega
          have j3 := IntWalk.i64_in ((k : Int) - 1) ⟨by omega, by omega⟩
          clear hyk hp' r2 cm
          cases hj : joB (t', b1, b2) (t, a1, a2)
          · have HNO := hide (HRF.out k hlt (by rw [HST2.out, hj]))
            rw [hj] at HJ
            go_wp2
            refine wp_region_over (by kernel_rfl) (by kernel_rfl) ?_
            repeat (go_big_quiet_step (first | (go_at_call 152; exact over_call (HC.out _ (Over.h _))) | (go_at_call 117; exact over_call (HJ.out _))))
            refine wpQuiet_nil ?_
            intro w1 hb1
            clear q0 q1 q2 q3 q4 q5 q6 q7
            go_wp2
            go_ret
            exact ⟨ret_bool HNO.out.symm, hBe.trans (hb1.mono hbs)⟩
          · have HS := hide (HGO.out (by rw [HST2.out, hj]))
            rw [hj] at HJ
            go_wp2
            refine wp_region_over (by kernel_rfl) (by kernel_rfl) ?_
            repeat (go_big_quiet_step (first | (go_at_call 152; exact over_call (HC.out _ (Over.h _))) | (go_at_call 117; exact over_call (HJ.out _))))
            refine wpQuiet_nil ?_
            intro w1 hb1
            clear q0 q1 q2 q3 q4 q5 q6 q7
            go_wp2
            exact ⟨⟨k + 1, by omega, by go_num, HS, hBe.trans (hb1.mono hbs)⟩, by simp [intOf]; omega⟩
      · have HNO := hide (HRF.out k hlt (by rw [HST.out]; rfl))
        go_wp2
        refine wp_region_over (by kernel_rfl) (by kernel_rfl) ?_
        repeat (go_big_quiet_step (first | (go_at_call 152; exact over_call (HC.out _ (Over.h _)))))
        refine wpQuiet_nil ?_
        intro w1 hb1
        clear q0 q1 q2 q3
        go_wp2
        go_ret
        exact ⟨ret_bool HNO.out.symm, hBe.trans (hb1.mono hbs)⟩
    · have HA := hide (HRT.out (fun j hj => hg.out j (by omega)))
      have hk' : k = m := by omega
      clear hg
      go_wp2
      go_ret
      exact ⟨ret_bool HA.out.symm, hBe⟩

set_option maxRecDepth 100000 in
set_option maxHeartbeats 4000000 in
theorem rowText_any (A : Option Addr) (ps : List Pcx) (c : Nat) (B : Option Addr) (os : List Int) (cb : Nat) (w : World) (hn : ps.length ≤ 8) (hv : ps.all pvB = true) (hon : os.length ≤ 1048576) (hall : os.all (woIn ps.length) = true) (hA : PcAt w w.heap.size A ps) (hB : IntsAt w w.heap.size B os) :
    Calls Try.prog 120 #[.slice A ps.length c, .slice B os.length cb] w fun e w' => e = .returned (.string (jts ps os os.length)) ∧ w = w' := by
  have HALL := hide (fun k x (h : os[k]? = some x) => wo_get hall h)
  have HPV := hide (fun k x (h : ps[k]? = some x) => (pv_mem hv (List.mem_of_getElem? h)).1)
  have HSU := hide (fun k x p => @jts_succ ps os k x p)
  have HZ := hide (jts_zero ps os)
  have HPA := hide hA
  have HOB := hide hB
  obtain ⟨m, hm⟩ : ∃ m, os.length = m := ⟨_, rfl⟩
  obtain ⟨n, hnn⟩ : ∃ n, ps.length = n := ⟨_, rfl⟩
  have HM := hide hm
  have HN := hide hnn
  rw [hm] at hon ⊢
  rw [hnn] at hn HALL ⊢
  clear hm hnn hA hB hall hv
  go_enter Try.func120, Try.ntmps120
  go_wp2
  go_loop [5, 10] (fun t i => ∃ (k : Nat) (s : ByteArray), k ≤ m ∧ i = .int .i64 k ∧ t = .string s ∧ s.size ≤ 20 * k ∧ Hid (s = jts ps os k)) (fun _ i => m - (intOf i).toNat)
  case atStart => exact ⟨0, _, Nat.zero_le _, rfl, rfl, Nat.le_refl _, hide HZ.out.symm⟩
  case round =>
    obtain ⟨k, s, hk, rfl, rfl, hsz, hg⟩ := hrel
    by_cases hlt : k < m
    · obtain ⟨x, hxk⟩ : ∃ x, os[k]? = some x := ⟨os[k]'(by rw [HM.out]; exact hlt), List.getElem?_eq_getElem _⟩
      obtain ⟨q, hqn, rfl⟩ := HALL.out k x hxk
      obtain ⟨bo, oo, rfl, hbo, hos⟩ := HOB.out (by intro e; rw [e] at hxk; simp at hxk)
      obtain ⟨p, hp⟩ : ∃ p, ps[q]? = some p := ⟨ps[q]'(by rw [HN.out]; exact hqn), List.getElem?_eq_getElem _⟩
      obtain ⟨b, o, rfl, hb, hxs⟩ := HPA.out (by intro e; rw [e] at hp; simp at hp)
      have c0 := hos k _ hxk
      have c1 : w.cell? ⟨b, o + q * 3, none⟩ = some (.string p.1) := hxs q p hp 0 _ rfl
      have hts := HPV.out q p hp
      have hi : (k : Int) < m := by omega
      have h0 : (0 : Int) ≤ k := by omega
      have hqi : (q : Int) < n := by omega
      have hq0 : (0 : Int) ≤ q := by omega
      have HSS := hide (HSU.out k _ p hxk (pAt'_at hp))
      have hsz2 := jts_size s p.1 k hsz hts
      have hap : (s ++ p.1).size ≤ maxLen := by unfold maxLen; omega
      clear hos hxs hxk hp
      go_wp2
      exact ⟨⟨k + 1, _, by omega, by go_num, rfl, hsz2, hide (by rw [HSS.out, ← hg.out])⟩, by simp [intOf]; omega⟩
    · obtain rfl : k = m := by omega
      go_wp2
      go_ret
      exact ⟨ret_st hg.out, rfl⟩

set_option maxRecDepth 100000 in
set_option maxHeartbeats 8000000 in
theorem implJoinAll_any (A : Option Addr) (ps : List Pcx) (c : Nat) (hn : ps.length ≤ maxLen) (hx : ∀ x ∈ ps, pxok x) (B : Option Addr) (os : List Int) (cb : Nat) (hon : os.length ≤ 1048576) (hcap : os.length ≤ cb) (w : World) (hA : PcAt w w.heap.size A ps) (hB : IntsAt w w.heap.size B os) :
    Calls Try.prog 64 #[.slice A ps.length c, .slice B os.length cb] w fun e w' => e = .returned (.tuple #[.string (jaV ps os), .int .i64 (jaC ps os)]) ∧ Below w.heap.size w w' := by
  have HVP := hide (implValidPieces_any A ps c hn hx w hA)
  generalize hV : jaV ps os = V
  generalize hC : jaC ps os = C
  have HV := hide hV
  have HC := hide hC
  clear hV hC
  cases hv : vpcs ps
  · rw [hv] at HVP
    have HP := hide (ja_no (os := os) hv)
    generalize os.length = m at *
    go_enter Try.func64, Try.ntmps64
    go_wp2_with (go_at_call 58; refine HVP.out.mono ?_; rintro e w1 ⟨rfl, hb1⟩)
    go_ret2
    exact ⟨ret_si (HP.out.1.symm.trans HV.out) (HP.out.2.symm.trans HC.out), hb1⟩
  · rw [hv] at HVP
    obtain ⟨hl, hpv⟩ := vpcs_true.1 hv
    have HIR := hide (fun hall W h1 h2 => isRow_any A ps c B os cb W hcap hl hx hon hall h1 h2)
    have HRT := hide (fun hall W h1 h2 => rowText_any A ps c B os cb W hl hpv hon hall h1 h2)
    have HOUT := hide (fun k g h1 h2 => @ja_out ps os hv k g h1 h2)
    have HNOT := hide (fun h1 h2 => @ja_not ps os hv h1 h2)
    have HOK := hide (fun h1 h2 => @ja_ok ps os hv h1 h2)
    have HALT := hide (fun h => @all_true_of Int (woIn ps.length) os h)
    have HPA := hide hA
    have HOB := hide hB
    obtain ⟨m, hm⟩ : ∃ m, os.length = m := ⟨_, rfl⟩
    obtain ⟨n, hnn⟩ : ∃ n, ps.length = n := ⟨_, rfl⟩
    have HM := hide hm
    have HN := hide hnn
    rw [hm] at hon hcap HIR HRT HALT HOK ⊢
    rw [hnn] at hn hl HIR HRT HALT HOUT HNOT HOK HVP ⊢
    clear hm hnn hA hB hx hpv
    go_enter Try.func64, Try.ntmps64
    go_wp2_with fail
    refine HVP.out.mono ?_
    rintro e w1 ⟨rfl, hb1⟩
    have hs1 := hb1.size
    have hwr := IntWalk.i64_in ((n : Int) - 1) ⟨by omega, by omega⟩
    go_wp2
    go_loop [13] (fun i => ∃ k : Nat, k ≤ m ∧ i = .int .i64 k ∧ Hid (∀ j x, j < k → os[j]? = some x → woIn n x = true)) (fun i => m - (intOf i).toNat)
    case atStart => exact ⟨0, Nat.zero_le _, rfl, hide (fun j x hj => by omega)⟩
    case round =>
      obtain ⟨k, hk, rfl, hg⟩ := hrel
      by_cases hlt : k < m
      · obtain ⟨x, hxk⟩ : ∃ x, os[k]? = some x := ⟨os[k]'(by rw [HM.out]; exact hlt), List.getElem?_eq_getElem _⟩
        obtain ⟨bo, oo, rfl, hbo, hos⟩ := HOB.out (by intro e; rw [e] at hxk; simp at hxk)
        have c0 : w1.cell? ⟨bo, oo + k, none⟩ = some (.int .i64 x) := (hb1.cell (p := ⟨bo, oo + k, none⟩) hbo).trans (hos k _ hxk)
        have HXK := hide hxk
        have hi : (k : Int) < m := by omega
        have h0 : (0 : Int) ≤ k := by omega
        clear hos hxk
        cases hin : inB x 0 ((n : Int) - 1)
        · have HP := hide (HOUT.out k x HXK.out hin)
          go_wp2_with (go_at_call 100; refine (between_any _ _ _ _).mono ?_; rintro e w' ⟨rfl, rfl⟩; simp only [hin])
          go_ret2
          exact ⟨ret_si (HP.out.1.symm.trans HV.out) (HP.out.2.symm.trans HC.out), hb1⟩
        · go_wp2_with (go_at_call 100; refine (between_any _ _ _ _).mono ?_; rintro e w' ⟨rfl, rfl⟩; simp only [hin])
          exact ⟨⟨k + 1, by omega, by go_num, hide (fun j y hj hy => by
            by_cases e : j = k
            · subst e; rw [HXK.out] at hy; injection hy with hy; subst hy; exact hin
            · exact hg.out j y (by omega) hy)⟩, by simp [intOf]; omega⟩
      · obtain rfl : k = m := by omega
        have hall := HALT.out (fun j x hj hx => hg.out j x hj hx)
        have HA1 := hide (HPA.out.go hb1)
        have HB1 := hide (HOB.out.go hb1)
        have HI2 := hide (HIR.out hall w1 HA1.out HB1.out)
        cases hr : rowB ps os
        · have HP := hide (HNOT.out hall hr)
          rw [hr] at HI2
          clear hg hall
          go_wp2_with (go_at_call 119; refine HI2.out.mono ?_; rintro e w2 ⟨rfl, hb2⟩)
          go_ret2
          exact ⟨ret_si (HP.out.1.symm.trans HV.out) (HP.out.2.symm.trans HC.out), hb1.trans (hb2.mono hs1)⟩
        · have HP := hide (HOK.out hall hr)
          have HALL := hide hall
          rw [hr] at HI2
          clear hg hall
          go_wp2_with fail
          refine HI2.out.mono ?_
          rintro e w2 ⟨rfl, hb2⟩
          have HR2 := hide (HRT.out HALL.out w2 (HA1.out.go hb2) (HB1.out.go hb2))
          go_wp2_with (go_at_call 120; refine HR2.out.mono ?_; rintro e w3 ⟨rfl, rfl⟩)
          go_ret2
          exact ⟨ret_si (HP.out.1.symm.trans HV.out) (HP.out.2.symm.trans HC.out), hb1.trans (hb2.mono hs1)⟩

set_option maxRecDepth 100000 in
set_option maxHeartbeats 16000000 in
theorem specJoinAll_any (A : Option Addr) (ps : List Pcx) (c : Nat) (hn : ps.length ≤ maxLen) (hx : ∀ x ∈ ps, pxok x) (B : Option Addr) (os : List Int) (cb : Nat) (hon : os.length ≤ 1048576) (hcap : os.length ≤ cb) (w : World) (hA : PcAt w w.heap.size A ps) (hB : IntsAt w w.heap.size B os) :
    Calls Try.prog 63 #[.slice A ps.length c, .slice B os.length cb] w fun e w' => e = .returned (.tuple #[.string (jaV ps os), .int .i64 (jaC ps os)]) ∧ Below w.heap.size w w' := by
  have HVP := hide (fun W h => l04Pieces_any A ps c W hn hx h)
  generalize hV : jaV ps os = V
  generalize hC : jaC ps os = C
  have HV := hide hV
  have HC := hide hC
  clear hV hC
  cases hv : vpcs ps
  · have HP := hide (ja_no (os := os) hv)
    generalize os.length = m at *
    go_enter Try.func63, Try.ntmps63
    go_wp2_with (go_at_call 109; refine (HVP.out _ hA).mono ?_; rintro e w1 ⟨rfl, rfl⟩; simp only [hv])
    go_ret2
    exact ⟨ret_si (HP.out.1.symm.trans HV.out) (HP.out.2.symm.trans HC.out), Below.refl _ _⟩
  · obtain ⟨hl, hpv⟩ := vpcs_true.1 hv
    have HOUT := hide (fun k g h1 h2 => @ja_out ps os hv k g h1 h2)
    have HNOT := hide (fun h1 h2 => @ja_not ps os hv h1 h2)
    have HOK := hide (fun h1 h2 => @ja_ok ps os hv h1 h2)
    have HALT := hide (fun h => @all_true_of Int (woIn ps.length) os h)
    have HALL := hide (fun (hall : os.all (woIn ps.length) = true) k x (h : os[k]? = some x) => wo_get hall h)
    have HXO := hide (fun k x (h : ps[k]? = some x) => hx x (List.mem_of_getElem? h))
    have HPV := hide (fun k x (h : ps[k]? = some x) => (pv_mem hpv (List.mem_of_getElem? h)).1)
    have HRF := hide (fun k h1 h2 => @rowB_false ps os k h1 h2)
    have HRT := hide (fun h => @rowB_true ps os h)
    have HSU := hide (fun k x p => @jts_succ ps os k x p)
    have HZ := hide (jts_zero ps os)
    have HPA := hide hA
    have HOB := hide hB
    obtain ⟨m, hm⟩ : ∃ m, os.length = m := ⟨_, rfl⟩
    obtain ⟨n, hnn⟩ : ∃ n, ps.length = n := ⟨_, rfl⟩
    have HM := hide hm
    have HN := hide hnn
    rw [hm] at hon hcap HALT HOK HRF HRT ⊢
    rw [hnn] at hn hl HALT HALL HOUT HNOT HOK HVP ⊢
    have HCO := hide (fun k (W : World) (hW : Below w.heap.size w W) v (hk : k < m) => (by
      have := l00Has_any B (os.take k) cb v W (by rw [List.length_take]; unfold maxLen; omega) ((hB.take k).go hW)
      rwa [show (os.take k).length = k by rw [List.length_take]; omega] at this :
        Calls Try.prog 118 #[.slice B k cb, .int .i64 v] W fun e W' => e = .returned (.bool (decide (v ∈ os.take k))) ∧ Below W.heap.size W W'))
    clear hm hnn hA hB hx hpv
    have hwr := IntWalk.i64_in ((n : Int) - 1) ⟨by omega, by omega⟩
    go_enter Try.func63, Try.ntmps63
    go_wp2_with (go_at_call 109; refine (HVP.out _ HPA.out).mono ?_; rintro e w1 ⟨rfl, rfl⟩; simp only [hv])
    go_loop [6] (fun i => ∃ k : Nat, k ≤ m ∧ i = .int .i64 k ∧ Hid (∀ j x, j < k → os[j]? = some x → woIn n x = true)) (fun i => m - (intOf i).toNat)
    case atStart => exact ⟨0, Nat.zero_le _, rfl, hide (fun j x hj => by omega)⟩
    case round =>
      obtain ⟨k, hk, rfl, hg⟩ := hrel
      by_cases hlt : k < m
      · obtain ⟨x, hxk⟩ : ∃ x, os[k]? = some x := ⟨os[k]'(by rw [HM.out]; exact hlt), List.getElem?_eq_getElem _⟩
        obtain ⟨bo, oo, rfl, hbo, hos⟩ := HOB.out (by intro e; rw [e] at hxk; simp at hxk)
        have c0 := hos k _ hxk
        have HXK := hide hxk
        have hi : (k : Int) < m := by omega
        have h0 : (0 : Int) ≤ k := by omega
        clear hos hxk
        cases hin : inB x 0 ((n : Int) - 1)
        · have HP := hide (HOUT.out k x HXK.out hin)
          go_wp2_with (go_at_call 74; refine (l00In_any _ _ _ _).mono ?_; rintro e w' ⟨rfl, rfl⟩; simp only [hin])
          go_ret2
          exact ⟨ret_si (HP.out.1.symm.trans HV.out) (HP.out.2.symm.trans HC.out), Below.refl _ _⟩
        · go_wp2_with (go_at_call 74; refine (l00In_any _ _ _ _).mono ?_; rintro e w' ⟨rfl, rfl⟩; simp only [hin])
          exact ⟨⟨k + 1, by omega, by go_num, hide (fun j y hj hy => by
            by_cases e : j = k
            · subst e; rw [HXK.out] at hy; injection hy with hy; subst hy; exact hin
            · exact hg.out j y (by omega) hy)⟩, by simp [intOf]; omega⟩
      · obtain rfl : k = m := by omega
        have hall := HALT.out (fun j x hj hx => hg.out j x hj hx)
        have HAL := hide hall
        have HAQ := hide (HALL.out hall)
        clear hg hall
        go_wp2
        go_loopw [7, 8] (fun t i wr => ∃ (q : Nat) (s : ByteArray), q ≤ k ∧ i = .int .i64 q ∧ t = .string s ∧ s.size ≤ 20 * q ∧ Hid (s = jts ps os q) ∧ Hid (∀ j, j < q → stB ps os j = true) ∧ Below w.heap.size w wr) (fun _ i _ => k - (intOf i).toNat)
        case atStart => exact ⟨0, _, Nat.zero_le _, rfl, rfl, Nat.le_refl _, hide HZ.out.symm, hide (fun j hj => by omega), Below.refl _ _⟩
        case round =>
          obtain ⟨z, s, hz, rfl, rfl, hsz, hgs, hg, hBe⟩ := hrel
          by_cases hlt2 : z < k
          · obtain ⟨x, hxk⟩ : ∃ x, os[z]? = some x := ⟨os[z]'(by rw [HM.out]; exact hlt2), List.getElem?_eq_getElem _⟩
            obtain ⟨q, hqn, rfl⟩ := HAQ.out z x hxk
            obtain ⟨bo, oo, rfl, hbo, hos⟩ := HOB.out (by intro e; rw [e] at hxk; simp at hxk)
            obtain ⟨p, hp⟩ : ∃ p, ps[q]? = some p := ⟨ps[q]'(by rw [HN.out]; exact hqn), List.getElem?_eq_getElem _⟩
            obtain ⟨b, o, rfl, hb, hxs⟩ := HPA.out (by intro e; rw [e] at hp; simp at hp)
            have hbs := hBe.size
            have c0 : wr.cell? ⟨bo, oo + z, none⟩ = some (.int .i64 (q : Int)) := (hBe.cell (p := ⟨bo, oo + z, none⟩) hbo).trans (hos z _ hxk)
            have r1 := rangeAt_below (hxs q p hp) hBe hb
            have hpo := HXO.out q p hp
            have hts := HPV.out q p hp
            have hi2 : (z : Int) < k := by omega
            have h02 : (0 : Int) ≤ z := by omega
            have hqi : (q : Int) < n := by omega
            have hq0 : (0 : Int) ≤ q := by omega
            have hkc : (z : Int) ≤ cb := by omega
            have HGO := hide (fun (hw : stB ps os z = true) => (fun j hj => by
              by_cases e : j = z
              · subst e; exact hw
              · exact hg.out j (by omega) : ∀ j, j < z + 1 → stB ps os j = true))
            have HST : Hid (stB ps os z = (!decide ((q : Int) ∈ os.take z) && (decide (z = 0) || joB (pAt' ps (os.getD (z - 1) 0)) p))) := hide (by unfold stB; rw [getD_os hxk, pAt'_at hp])
            have HCC := hide (fun W (hW : Below wr.heap.size wr W) => HCO.out z W (hBe.trans (hW.mono hbs)) (q : Int) hlt2)
            have HSS := hide (HSU.out z _ p hxk (pAt'_at hp))
            have hsz2 := jts_size s p.1 z hsz hts
            have hap : (s ++ p.1).size ≤ maxLen := by unfold maxLen; omega
            obtain ⟨t, a1, a2⟩ := p
            have q0 := Over.get c0
            have p0 : wr.cell? ⟨b, o + q * 3, none⟩ = some (.string t) := r1 0 _ rfl
            have q1 := Over.get p0
            have q2 := Over.get (show wr.cell? ⟨b, o + q * 3 + 1, none⟩ = some (.int .u8 a1) from r1 1 _ rfl)
            have q3 := Over.get (show wr.cell? ⟨b, o + q * 3 + 2, none⟩ = some (.int .u8 a2) from r1 2 _ rfl)
            have HNEXT := hide (fun (W : World) (hW : Below wr.heap.size wr W) => (⟨(hW.cell (p := ⟨bo, oo + z, none⟩) (show bo < wr.heap.size by omega)).trans c0, (hW.cell (p := ⟨b, o + q * 3, none⟩) (show b < wr.heap.size by omega)).trans p0⟩ : W.cell? ⟨bo, oo + z, none⟩ = some (.int .i64 (q : Int)) ∧ W.cell? ⟨b, o + q * 3, none⟩ = some (.string t)))
            have HOS := hide hos
            have HXS := hide hxs
            clear hos hxs hxk hp r1
            simp only at hsz2 hap HSS hts
            generalize decide ((q : Int) ∈ os.take z) = D at *
            cases D
            · by_cases hk0 : z = 0
              · have HS := hide (HGO.out (by rw [HST.out]; simp [hk0]))
                have hd : decide ((0 : Int) < z) = false := by simp; omega
                have hd' : decide (0 < z) = false := by simp; omega
                have HK0 := hide hk0
                clear hk0
                go_wp2
                refine wp_region_over (by kernel_rfl) (by kernel_rfl) ?_
                repeat (go_big_quiet_step (first | (go_at_call 118; exact over_call (HCC.out _ (Over.h _)))))
                refine wpQuiet_nil ?_
                intro w1 hb1
                obtain ⟨d0, d1⟩ := HNEXT.out w1 hb1
                clear q0 q1 q2 q3 c0 p0
                go_wp2
                exact ⟨⟨z + 1, _, by omega, by go_num, rfl, hsz2, hide (by rw [HSS.out, ← hgs.out]), HS, hBe.trans (hb1.mono hbs)⟩, by simp [intOf]; omega⟩
              · have hd : decide ((0 : Int) < z) = true := by simp; omega
                have hd' : decide (0 < z) = true := by simp; omega
                obtain ⟨y, hyk⟩ : ∃ y, os[z - 1]? = some y := ⟨os[z - 1]'(by rw [HM.out]; omega), List.getElem?_eq_getElem _⟩
                obtain ⟨r, hrn, rfl⟩ := HAQ.out (z - 1) y hyk
                obtain ⟨p', hp'⟩ : ∃ p', ps[r]? = some p' := ⟨ps[r]'(by rw [HN.out]; exact hrn), List.getElem?_eq_getElem _⟩
                have cm : wr.cell? ⟨bo, oo + (z - 1), none⟩ = some (.int .i64 (r : Int)) := (hBe.cell (p := ⟨bo, oo + (z - 1), none⟩) hbo).trans (HOS.out (z - 1) _ hyk)
                have r2 := rangeAt_below (HXS.out r p' hp') hBe hb
                have hpo' := HXO.out r p' hp'
                have HST2 : Hid (stB ps os z = joB p' (t, a1, a2)) := hide (by
                  rw [HST.out, getD_os hyk, pAt'_at hp']
                  have : decide (z = 0) = false := by simpa using hk0
                  rw [this]; simp)
                obtain ⟨t', b1, b2⟩ := p'
                have HJ := hide (fun W => specCanJoin_any t' t b1 b2 a1 a2 W hpo'.2.2 hpo.2.1)
                have q4 := Over.get cm
                have q5 := Over.get (show wr.cell? ⟨b, o + r * 3, none⟩ = some (.string t') from r2 0 _ rfl)
                have q6 := Over.get (show wr.cell? ⟨b, o + r * 3 + 1, none⟩ = some (.int .u8 b1) from r2 1 _ rfl)
                have q7 := Over.get (show wr.cell? ⟨b, o + r * 3 + 2, none⟩ = some (.int .u8 b2) from r2 2 _ rfl)
                have hri : (r : Int) < n := by omega
                have hr0 : (0 : Int) ≤ r := by omega
                have j00 : (1 : Int) ≤ (z : Int) := by omega
                have j0 : (0 : Int) ≤ (z : Int) - 1 := by omega
                have j1 : (z : Int) - 1 < k := by omega
                have j2 : ((z : Int) - 1).toNat = z - 1 := by omega
                have j3 := IntWalk.i64_in ((z : Int) - 1) ⟨by omega, by omega⟩
                clear hyk hp' r2 cm
                cases hj : joB (t', b1, b2) (t, a1, a2)
                · have HNO := hide (HNOT.out HAL.out (HRF.out z hlt2 (by rw [HST2.out, hj])))
                  rw [hj] at HJ
                  go_wp2
                  refine wp_region_over (by kernel_rfl) (by kernel_rfl) ?_
                  repeat (go_big_quiet_step (first | (go_at_call 118; exact over_call (HCC.out _ (Over.h _))) | (go_at_call 114; exact over_call (HJ.out _))))
                  refine wpQuiet_nil ?_
                  intro w1 hb1
                  clear q0 q1 q2 q3 q4 q5 q6 q7
                  go_wp2
                  go_ret2
                  exact ⟨ret_si (HNO.out.1.symm.trans HV.out) (HNO.out.2.symm.trans HC.out), hBe.trans (hb1.mono hbs)⟩
                · have HS := hide (HGO.out (by rw [HST2.out, hj]))
                  rw [hj] at HJ
                  go_wp2
                  refine wp_region_over (by kernel_rfl) (by kernel_rfl) ?_
                  repeat (go_big_quiet_step (first | (go_at_call 118; exact over_call (HCC.out _ (Over.h _))) | (go_at_call 114; exact over_call (HJ.out _))))
                  refine wpQuiet_nil ?_
                  intro w1 hb1
                  obtain ⟨d0, d1⟩ := HNEXT.out w1 hb1
                  clear q0 q1 q2 q3 q4 q5 q6 q7 c0 p0
                  go_wp2
                  exact ⟨⟨z + 1, _, by omega, by go_num, rfl, hsz2, hide (by rw [HSS.out, ← hgs.out]), HS, hBe.trans (hb1.mono hbs)⟩, by simp [intOf]; omega⟩
            · have HNO := hide (HNOT.out HAL.out (HRF.out z hlt2 (by rw [HST.out]; rfl)))
              go_wp2
              refine wp_region_over (by kernel_rfl) (by kernel_rfl) ?_
              repeat (go_big_quiet_step (first | (go_at_call 118; exact over_call (HCC.out _ (Over.h _)))))
              refine wpQuiet_nil ?_
              intro w1 hb1
              clear q0 q1 q2 q3
              go_wp2
              go_ret2
              exact ⟨ret_si (HNO.out.1.symm.trans HV.out) (HNO.out.2.symm.trans HC.out), hBe.trans (hb1.mono hbs)⟩
          · obtain rfl : z = k := by omega
            have HP := hide (HOK.out HAL.out (HRT.out (fun j hj => hg.out j hj)))
            clear hg
            go_wp2
            go_ret2
            exact ⟨ret_si (by rw [← HV.out, HP.out.1]; exact hgs.out) (HP.out.2.symm.trans HC.out), hBe⟩
end Go.Proofs.Ytajlbfbpkafjfaa
