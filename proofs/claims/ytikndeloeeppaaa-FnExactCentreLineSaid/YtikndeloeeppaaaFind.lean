/- The program's search for a pair: BinarySearchFunc, findPair, byOf. -/
import Derived.Test.YtikndeloeeppaaaFindP
namespace Go.Proofs.Ytikndeloeeppaaa
open Go.RowKit

theorem ret_ib {i j : Int} {a b : Bool} (h : i = j) (h' : a = b) : Ending.returned (.tuple #[.int .i64 i, .bool a]) = .returned (.tuple #[.int .i64 j, .bool b]) := by rw [h, h']
theorem ret_ii {i j a b : Int} {k k' : IntKind} (h : i = j) (h' : a = b) : Ending.returned (.tuple #[.int k i, .int k' a]) = .returned (.tuple #[.int k j, .int k' b]) := by rw [h, h']
set_option maxRecDepth 100000 in
set_option maxHeartbeats 4000000 in
theorem search_any (A : Option Addr) (ps : List Tri) (c : Nat) (x y : Int) (w : World) (hn : ps.length ≤ maxLen / 4) (hs : sortedP ps) (hA : PairsAt w w.heap.size A ps) :
    Calls Try.prog 200 #[.slice A ps.length c, .agg #[.int .u8 x, .int .u8 y, .int .i8 0], .func (.func 199) #[] #[]] w fun e w' =>
      e = .returned (.tuple #[.int .i64 (lb ps (x, y, 0)), .bool (hit ps (x, y, 0))]) ∧ Below w.heap.size w w' := by
  unfold maxLen at hn
  have hn' : ps.length ≤ 2305843009213693951 := by omega
  clear hn
  have HS := hide hs
  clear hs
  have hb0 : Below w.heap.size w (w.alloc (.cells #[.int .u8 x, .int .u8 y, .int .i8 0] 36)) := (Below.refl _ _).alloc (Nat.le_refl _) _
  have e0 := rangeAt_new' w #[.int .u8 x, .int .u8 y, .int .i8 0] 36
  have hz1 : w.heap.size < (w.alloc (.cells #[.int .u8 x, .int .u8 y, .int .i8 0] 36)).heap.size := by simp
  have BA := hA.below hb0
  clear hA
  go_enter Try.func200, Try.ntmps200
  go_wp2
  generalize (w.alloc (.cells #[.int .u8 x, .int .u8 y, .int .i8 0] 36)) = W0 at *
  have hBs := hb0.size
  go_loopw [9, 10] (fun i j wr => ∃ l h : Nat, l ≤ h ∧ h ≤ ps.length ∧ i = .int .i64 l ∧ j = .int .i64 h ∧ Below W0.heap.size W0 wr ∧
      Hid (∀ k q, k < l → ps[k]? = some q → ahead q (x, y, 0) = true) ∧ Hid (∀ k q, h ≤ k → ps[k]? = some q → ahead q (x, y, 0) = false))
    (fun i j _ => (intOf j).toNat - (intOf i).toNat)
  case atStart => exact ⟨0, ps.length, by omega, by omega, rfl, rfl, Below.refl _ _, hide (fun k q hk => by omega), hide (fun k q hk hq => by have := (List.getElem?_eq_some_iff.1 hq).1; omega)⟩
  case round =>
    obtain ⟨l, h, hlh, hhn, rfl, rfl, hB, hlo, hhi⟩ := hrel
    by_cases hlt : l < h
    · have hi : (l : Int) < h := by omega
      have hm : ((l : Int) + h) / 2 = ((l + h) / 2 : Nat) := by omega
      have hm1 : l ≤ (l + h) / 2 := by omega
      have hm2 : (l + h) / 2 < h := by omega
      have HM := hide hm
      clear hm
      go_wp2
      simp only [HM.out]
      clear HM
      generalize (l + h) / 2 = m at *
      have hmn : m < ps.length := by omega
      obtain ⟨b, o, rfl, hb, hps⟩ := BA (by intro e; rw [e] at hmn; simp at hmn)
      obtain ⟨p, hp⟩ : ∃ p, ps[m]? = some p := ⟨ps[m]'hmn, List.getElem?_eq_getElem _⟩
      have hcell := rangeAt_below (hps m _ hp) hB (by omega)
      have hcellx := rangeAt_below e0 hB hz1
      obtain ⟨r, s, t⟩ := p
      have c0 := Over.get (hcell 0 _ rfl)
      have c1 := Over.get (hcell 1 _ rfl)
      have c2 := Over.get (hcell 2 _ rfl)
      have d0 := Over.get (hcellx 0 _ rfl)
      have d1 := Over.get (hcellx 1 _ rfl)
      have d2 := Over.get (hcellx 2 _ rfl)
      simp only [Nat.add_zero, Nat.zero_add] at c0 d0 d1 d2
      have i0 : (0 : Int) ≤ m := by omega
      have i1 : (m : Int) < ps.length := by omega
      clear hcell hcellx hps
      cases ha : ahead (r, s, t) (x, y, 0)
      · have hc0 : decide (cmpP (r, s, t) (x, y, 0) < 0) = false := by
          have : ¬ cmpP (r, s, t) (x, y, 0) < 0 := fun e => by rw [cmpP_neg.1 e] at ha; cases ha
          simpa using this
        refine wp_region_over (by kernel_rfl) (by kernel_rfl) ?_
        repeat (go_big_quiet_step (first | (go_at_call 199; exact over_call (comparePairs_any _ _ _ _ _ _ _))))
        refine wpQuiet_nil ?_
        intro w1 hb1
        have hB1 := hB.trans (hb1.mono hB.size)
        clear hb1 c0 c1 c2 d0 d1 d2
        go_wp2
        refine ⟨⟨l, m, by omega, by omega, rfl, rfl, hB1, hlo, hide (fun k q hk hq => ?_)⟩, by simp [intOf]; omega⟩
        by_cases e : k = m
        · subst e; rw [hp] at hq; injection hq with hq; subst hq; exact ha
        · cases e' : ahead q (x, y, 0)
          · rfl
          · have := ahead_trans (HS.out m k _ q (by omega) hp hq) e'
            rw [ha] at this; cases this
      · have hc0 : decide (cmpP (r, s, t) (x, y, 0) < 0) = true := by have := cmpP_neg.2 ha; simpa using this
        refine wp_region_over (by kernel_rfl) (by kernel_rfl) ?_
        repeat (go_big_quiet_step (first | (go_at_call 199; exact over_call (comparePairs_any _ _ _ _ _ _ _))))
        refine wpQuiet_nil ?_
        intro w1 hb1
        have hB1 := hB.trans (hb1.mono hB.size)
        clear hb1 c0 c1 c2 d0 d1 d2
        go_wp2
        refine ⟨⟨m + 1, h, by omega, by omega, by go_num, rfl, hB1, hide (fun k q hk hq => ?_), hhi⟩, by simp [intOf]; omega⟩
        by_cases e : k = m
        · subst e; rw [hp] at hq; injection hq with hq; subst hq; exact ha
        · exact ahead_trans (HS.out k m q _ (by omega) hq hp) ha
    · obtain rfl : l = h := by omega
      have hl : l = lb ps (x, y, 0) := lb_eq hhn (fun k q hk hq => hlo.out k q hk hq) (fun q hq => hhi.out l q (Nat.le_refl _) hq)
      have HL := hide hl
      clear hl hlt hlh
      by_cases hln : l < ps.length
      · have hi : decide ((l : Int) < ps.length) = true := by simp; omega
        have hi' : decide (l < ps.length) = true := by simp; omega
        obtain ⟨b, o, rfl, hb, hps⟩ := BA (by intro e; rw [e] at hln; simp at hln)
        obtain ⟨p, hp⟩ : ∃ p, ps[l]? = some p := ⟨ps[l]'hln, List.getElem?_eq_getElem _⟩
        have hcell := rangeAt_below (hps l _ hp) hB (by omega)
        have hcellx := rangeAt_below e0 hB hz1
        obtain ⟨r, s, t⟩ := p
        have c0 := Over.get (hcell 0 _ rfl)
        have c1 := Over.get (hcell 1 _ rfl)
        have c2 := Over.get (hcell 2 _ rfl)
        have d0 := Over.get (hcellx 0 _ rfl)
        have d1 := Over.get (hcellx 1 _ rfl)
        have d2 := Over.get (hcellx 2 _ rfl)
        simp only [Nat.add_zero, Nat.zero_add] at c0 d0 d1 d2
        have i0 : (0 : Int) ≤ l := by omega
        have i1 : (l : Int) < ps.length := by omega
        have hh : hit ps (x, y, 0) = (cmpP (r, s, t) (x, y, 0) == 0) := by simp only [hit]; rw [← HL.out, hp]
        have HH := hide hh
        clear hcell hcellx hps hh
        go_wp2
        refine wp_region_over (by kernel_rfl) (by kernel_rfl) ?_
        repeat (go_big_quiet_step (first | (go_at_call 199; exact over_call (comparePairs_any _ _ _ _ _ _ _))))
        refine wpQuiet_nil ?_
        intro w1 hb1
        have hB1 := hB.trans (hb1.mono hB.size)
        clear hb1 c0 c1 c2 d0 d1 d2
        go_wp2
        go_ret2
        exact ⟨ret_ib (by rw [← HL.out]) HH.out.symm, hb0.trans (hB1.mono hBs)⟩
      · have hi : decide ((l : Int) < ps.length) = false := by simp; omega
        have hi' : decide (l < ps.length) = false := by simp; omega
        have hh : hit ps (x, y, 0) = false := by simp only [hit]; rw [← HL.out, List.getElem?_eq_none (by omega)]
        have HH := hide hh
        clear hh
        go_wp2
        refine wp_region_over (by kernel_rfl) (by kernel_rfl) ?_
        repeat (go_big_quiet_step (fail))
        refine wpQuiet_nil ?_
        intro w1 hb1
        have hB1 := hB.trans (hb1.mono hB.size)
        clear hb1
        go_wp2
        go_ret2
        exact ⟨ret_ib (by rw [← HL.out]) HH.out.symm, hb0.trans (hB1.mono hBs)⟩

set_option maxHeartbeats 2000000 in
theorem findPair_any (A : Option Addr) (ps : List Tri) (c : Nat) (x y : Int) (w : World) (hn : ps.length ≤ maxLen / 4) (hs : sortedP ps) (hA : PairsAt w w.heap.size A ps) :
    Calls Try.prog 163 #[.slice A ps.length c, .int .u8 x, .int .u8 y] w fun e w' =>
      e = .returned (.tuple #[.int .i64 (lb ps (x, y, 0)), .bool (hit ps (x, y, 0))]) ∧ Below w.heap.size w w' := by
  have H := hide (search_any A ps c x y w hn hs hA)
  clear hn hs hA
  go_enter Try.func163, Try.ntmps163
  go_wp2_with (go_at_call 200; refine H.out.mono ?_; rintro e w1 ⟨rfl, hb1⟩)
  go_ret2
  exact ⟨rfl, hb1⟩

set_option maxRecDepth 100000 in
set_option maxHeartbeats 2000000 in
theorem byOf_any (F : Fc) (hF : F.ok) (A : Option Addr) (c : Nat) (x y : Int) (w : World) (hn : F.ps.length ≤ 1048576) (hs : sortedP F.ps) (hA : PairsAt w w.heap.size A F.ps) :
    Calls Try.prog 203 #[.agg (fc F (.slice A F.ps.length c)).toArray, .int .u8 x, .int .u8 y] w fun e w' =>
      e = .returned (.int .i64 (byL F.ps x y)) ∧ Below w.heap.size w w' := by
  have hW := hide hF.len
  have hr := rangeAt_new w (fc F (.slice A F.ps.length c)) 32
  have hb0 : Below w.heap.size w (w.alloc (.cells (fc F (.slice A F.ps.length c)).toArray 32)) := (Below.refl _ _).alloc (Nat.le_refl _) _
  have hs0 : w.heap.size < (w.alloc (.cells (fc F (.slice A F.ps.length c)).toArray 32)).heap.size := by simp
  have x28 := rangeAt_cell hr (fc_sl hW.out _)
  have BA := hA.below hb0
  have H := hide (findPair_any A F.ps c x y _ (by unfold maxLen; omega) hs (BA.mono hb0.size))
  obtain ⟨t1, t0⟩ := byL_hit hs x y
  have T1 := hide t1
  have T0 := hide t0
  clear t1 t0 hs hA
  cases hh : hit F.ps (x, y, 0)
  · have HH := hide hh
    go_enter Try.func203, Try.ntmps203
    go_wp2_with (go_at_call 163; refine H.out.mono ?_; rintro e w1 ⟨rfl, hb1⟩)
    go_ret
    exact ⟨ret_int (T0.out HH.out).symm, hb0.trans (hb1.mono hb0.size)⟩
  · obtain ⟨q, hq, hv⟩ := T1.out hh
    obtain ⟨r, s, t⟩ := q
    have hlt := (List.getElem?_eq_some_iff.1 hq).1
    obtain ⟨b, o, rfl, hb, hps⟩ := BA (by intro e; rw [e] at hlt; simp at hlt)
    have hcell := (hps _ _ hq) 2 _ rfl
    have HC := hide hcell
    have HX := hide x28
    have HV := hide hv
    have i0 : (0 : Int) ≤ (lb F.ps (x, y, 0) : Nat) := by omega
    have i1 : ((lb F.ps (x, y, 0) : Nat) : Int) < F.ps.length := by omega
    obtain ⟨⟨p1, p2⟩, ⟨p3, p4⟩, p5, p6⟩ := hF.pair hq
    clear hcell hps hv
    go_enter Try.func203, Try.ntmps203
    go_wp2_with fail
    generalize (w.alloc (.cells (fc F (.slice (some ⟨b, o, none⟩) F.ps.length c)).toArray 32)) = W0 at *
    refine H.out.mono ?_
    rintro e w1 ⟨rfl, hb1⟩
    have c28 : w1.cell? ⟨w.heap.size, 28, none⟩ = some (.slice (some ⟨b, o, none⟩) F.ps.length c) := (hb1.cell (p := ⟨w.heap.size, 28, none⟩) hs0).trans HX.out
    have c2 : w1.cell? ⟨b, o + lb F.ps (x, y, 0) * 3 + 2, none⟩ = some (.int .i8 t) := (hb1.cell (p := ⟨b, o + lb F.ps (x, y, 0) * 3 + 2, none⟩) (by show b < _; omega)).trans HC.out
    generalize lb F.ps (x, y, 0) = m at *
    go_wp2
    go_ret
    exact ⟨ret_int HV.out.symm, hb0.trans (hb1.mono hb0.size)⟩
end Go.Proofs.Ytikndeloeeppaaa
