/- Groups of hands, of the program. -/
import Derived.Test.YtjmkbdghenjlaaaDoorGhI
import Derived.Test.YtjmkbdghenjlaaaDoorRpt
namespace Go.Proofs.YtjmkbdghenjlaaaDoor
open Go Go.RowKit

set_option maxRecDepth 100000 in
set_option maxHeartbeats 16000000 in
theorem groupsOf_any (Ah : Option Addr) (ls : List Iss) (ch : Nat) (lim : Int) (w : World) (hn : ls.length ≤ 8) (hgv : ∀ l ∈ ls, gvB l.2.1 = true) (hl : IssOk w ls) (hH : HdsAt w w.heap.size Ah ls) :
    Calls Tryd.prog 57 #[.slice Ah ls.length ch, .int .i64 lim] w fun e w' => (∃ A c, e = .returned (.slice A (grpS (nearH (issD ls) lim) ls.length ls.length).1.length c) ∧ IntsIn w' w.heap.size A (grpS (nearH (issD ls) lim) ls.length ls.length).1) ∧ Below w.heap.size w w' := by
  have HSP := hide (fun n (hln : ls.length = n) (h8 : n ≤ 8) G pG pH pL pF B0 Ahh chh c hd hc => spread_any ls n lim G pG pH pL pF B0 Ahh chh c h8 hln hgv hd hc)
  have HL := hide hl
  have HH := hide hH
  have HHG := hide (fun k l (h : ls[k]? = some l) => hdz_get h)
  obtain ⟨n, hN⟩ : ∃ n, ls.length = n := ⟨_, rfl⟩
  have HN := hide hN
  unfold HdsAt at HH
  rw [hN] at hn HH HHG ⊢
  clear hN hl hH hgv
  obtain ⟨W0, hW0⟩ : ∃ W0, W0 = ((w.alloc (.cells #[.slice Ah n ch] 92)).alloc (.cells #[.int .i64 lim] 2)).alloc (.cells #[.int .i64 (-1)] 2) := ⟨_, rfl⟩
  have b0 : Below w.heap.size w W0 := by rw [hW0]; exact (((Below.refl _ _).alloc (Nat.le_refl _) _).alloc (by simp) _).alloc (by simp <;> omega) _
  have s0 : W0.heap.size = w.heap.size + 3 := by rw [hW0]; simp
  have e1 : W0.cell? ⟨w.heap.size, 0, none⟩ = some (.slice Ah n ch) := by rw [hW0]; exact World.rangeAt_alloc (World.rangeAt_alloc (rangeAt_new' w #[.slice Ah n ch] 92) _) _ 0 _ rfl
  have e2 : W0.cell? ⟨w.heap.size + 1, 0, none⟩ = some (.int .i64 lim) := by rw [hW0]; exact World.rangeAt_alloc (rangeAt_newg (w := w.alloc (.cells #[.slice Ah n ch] 92)) (cs := #[.int .i64 lim]) (t := 2) (g := w.heap.size + 1) (l := [.int .i64 lim]) (by simp) rfl) _ 0 _ rfl
  have e3 : W0.cell? ⟨w.heap.size + 2, 0, none⟩ = some (.int .i64 (-1)) := by rw [hW0]; exact rangeAt_newg (w := (w.alloc (.cells #[.slice Ah n ch] 92)).alloc (.cells #[.int .i64 lim] 2)) (cs := #[.int .i64 (-1)]) (t := 2) (g := w.heap.size + 2) (l := [.int .i64 (-1)]) (by simp) rfl 0 _ rfl
  have HRP := hide (repeat_any (w.heap.size + 2) (-1) n hn W0 e3)
  have HW0 := hide hW0
  clear hW0 e3
  go_enter Tryd.func57, Tryd.ntmps57
  repeat (first | (rw [← HW0.out]) | go_step)
  refine HRP.out.mono ?_
  rintro e w1 ⟨⟨G, rfl, hG1, hG2, hO1⟩, hb1⟩
  have z1 := hb1.size
  have b9 : Below w1.heap.size w1 ((w1.alloc (.cells #[.slice (some ⟨G, 0, none⟩) n n] 39)).alloc (.cells #[(.func (.func 96) #[] #[.pointer (some ⟨w1.heap.size, 0, none⟩), .pointer (some ⟨w.heap.size, 0, none⟩), .pointer (some ⟨w.heap.size + 1, 0, none⟩), .pointer (some ⟨w1.heap.size + 1, 0, none⟩)])] 155)) := ((Below.refl _ _).alloc (Nat.le_refl _) _).alloc (by simp) _
  have HS9 := hide (show ((w1.alloc (.cells #[.slice (some ⟨G, 0, none⟩) n n] 39)).alloc (.cells #[(.func (.func 96) #[] #[.pointer (some ⟨w1.heap.size, 0, none⟩), .pointer (some ⟨w.heap.size, 0, none⟩), .pointer (some ⟨w.heap.size + 1, 0, none⟩), .pointer (some ⟨w1.heap.size + 1, 0, none⟩)])] 155)).heap.size = w1.heap.size + 2 by simp)
  have hB9 : Below w.heap.size w ((w1.alloc (.cells #[.slice (some ⟨G, 0, none⟩) n n] 39)).alloc (.cells #[(.func (.func 96) #[] #[.pointer (some ⟨w1.heap.size, 0, none⟩), .pointer (some ⟨w.heap.size, 0, none⟩), .pointer (some ⟨w.heap.size + 1, 0, none⟩), .pointer (some ⟨w1.heap.size + 1, 0, none⟩)])] 155)) := b0.trans ((hb1.mono b0.size).trans (b9.mono (by omega)))
  have O9 := hide (hO1.below b9 hG2)
  have c1 : ((w1.alloc (.cells #[.slice (some ⟨G, 0, none⟩) n n] 39)).alloc (.cells #[(.func (.func 96) #[] #[.pointer (some ⟨w1.heap.size, 0, none⟩), .pointer (some ⟨w.heap.size, 0, none⟩), .pointer (some ⟨w.heap.size + 1, 0, none⟩), .pointer (some ⟨w1.heap.size + 1, 0, none⟩)])] 155)).cell? ⟨w1.heap.size, 0, none⟩ = some (.slice (some ⟨G, 0, none⟩) n n) := World.rangeAt_alloc (rangeAt_new' w1 #[.slice (some ⟨G, 0, none⟩) n n] 39) _ 0 _ rfl
  have c4 : ((w1.alloc (.cells #[.slice (some ⟨G, 0, none⟩) n n] 39)).alloc (.cells #[(.func (.func 96) #[] #[.pointer (some ⟨w1.heap.size, 0, none⟩), .pointer (some ⟨w.heap.size, 0, none⟩), .pointer (some ⟨w.heap.size + 1, 0, none⟩), .pointer (some ⟨w1.heap.size + 1, 0, none⟩)])] 155)).cell? ⟨w1.heap.size + 1, 0, none⟩ = some (.func (.func 96) #[] #[.pointer (some ⟨w1.heap.size, 0, none⟩), .pointer (some ⟨w.heap.size, 0, none⟩), .pointer (some ⟨w.heap.size + 1, 0, none⟩), .pointer (some ⟨w1.heap.size + 1, 0, none⟩)]) := rangeAt_newg (w := (w1.alloc (.cells #[.slice (some ⟨G, 0, none⟩) n n] 39))) (cs := #[(.func (.func 96) #[] #[.pointer (some ⟨w1.heap.size, 0, none⟩), .pointer (some ⟨w.heap.size, 0, none⟩), .pointer (some ⟨w.heap.size + 1, 0, none⟩), .pointer (some ⟨w1.heap.size + 1, 0, none⟩)])]) (t := 155) (g := w1.heap.size + 1) (l := [(.func (.func 96) #[] #[.pointer (some ⟨w1.heap.size, 0, none⟩), .pointer (some ⟨w.heap.size, 0, none⟩), .pointer (some ⟨w.heap.size + 1, 0, none⟩), .pointer (some ⟨w1.heap.size + 1, 0, none⟩)])]) (by simp) rfl 0 _ rfl
  have b09 := hb1.trans (b9.mono z1)
  have c2 : ((w1.alloc (.cells #[.slice (some ⟨G, 0, none⟩) n n] 39)).alloc (.cells #[(.func (.func 96) #[] #[.pointer (some ⟨w1.heap.size, 0, none⟩), .pointer (some ⟨w.heap.size, 0, none⟩), .pointer (some ⟨w.heap.size + 1, 0, none⟩), .pointer (some ⟨w1.heap.size + 1, 0, none⟩)])] 155)).cell? ⟨w.heap.size, 0, none⟩ = some (.slice Ah n ch) := (b09.cell (p := ⟨w.heap.size, 0, none⟩) (by show w.heap.size < W0.heap.size; omega)).trans e1
  have c3 : ((w1.alloc (.cells #[.slice (some ⟨G, 0, none⟩) n n] 39)).alloc (.cells #[(.func (.func 96) #[] #[.pointer (some ⟨w1.heap.size, 0, none⟩), .pointer (some ⟨w.heap.size, 0, none⟩), .pointer (some ⟨w.heap.size + 1, 0, none⟩), .pointer (some ⟨w1.heap.size + 1, 0, none⟩)])] 155)).cell? ⟨w.heap.size + 1, 0, none⟩ = some (.int .i64 lim) := (b09.cell (p := ⟨w.heap.size + 1, 0, none⟩) (by show w.heap.size + 1 < W0.heap.size; omega)).trans e2
  have hside : (w1.heap.size ≠ G ∧ w.heap.size ≠ G) ∧ (w.heap.size + 1 ≠ G ∧ w1.heap.size + 1 ≠ G) ∧ w.heap.size ≤ G := by omega
  have S9 : Hid (StG ls n lim G w1.heap.size w.heap.size (w.heap.size + 1) (w1.heap.size + 1) w.heap.size Ah ch ((w1.alloc (.cells #[.slice (some ⟨G, 0, none⟩) n n] 39)).alloc (.cells #[(.func (.func 96) #[] #[.pointer (some ⟨w1.heap.size, 0, none⟩), .pointer (some ⟨w.heap.size, 0, none⟩), .pointer (some ⟨w.heap.size + 1, 0, none⟩), .pointer (some ⟨w1.heap.size + 1, 0, none⟩)])] 155))) := hide ⟨c1, c2, c3, c4, HH.out.below hB9, fun l hl => (HL.out l hl).2.below hB9, hB9.size, by rw [HS9.out]; omega⟩
  have HSPP := hide (HSP.out n HN.out hn G w1.heap.size w.heap.size (w.heap.size + 1) (w1.heap.size + 1) w.heap.size Ah ch)
  have HBB := hide hB9
  have HSD := hide hside
  have HINV := hide (grp_inv (nearH (issD ls) lim) n)
  have HNEW := hide (fun k h => @grp_new (nearH (issD ls) lim) n k h)
  have HOLD := hide (fun k h => @grp_old (nearH (issD ls) lim) n k h)
  have HG0 : Hid (grpS (nearH (issD ls) lim) n 0 = (List.replicate n (-1), 0)) := hide rfl
  have HG20 : Hid ((0 : Int) = ((grpS (nearH (issD ls) lim) n 0).2 : Int)) := hide rfl
  have HO9 : Hid (OutA ((w1.alloc (.cells #[.slice (some ⟨G, 0, none⟩) n n] 39)).alloc (.cells #[(.func (.func 96) #[] #[.pointer (some ⟨w1.heap.size, 0, none⟩), .pointer (some ⟨w.heap.size, 0, none⟩), .pointer (some ⟨w.heap.size + 1, 0, none⟩), .pointer (some ⟨w1.heap.size + 1, 0, none⟩)])] 155)) G (grpS (nearH (issD ls) lim) n 0).1) := hide (by rw [HG0.out]; exact O9.out)
  clear b9 hB9 hO1 c1 c3 c4 b09 hside e1 e2 HSP hb1 b0
  generalize hnr : nearH (issD ls) lim = near at *
  have HNE := hide hnr
  clear hnr
  go_wp2
  generalize ((w1.alloc (.cells #[.slice (some ⟨G, 0, none⟩) n n] 39)).alloc (.cells #[(.func (.func 96) #[] #[.pointer (some ⟨w1.heap.size, 0, none⟩), .pointer (some ⟨w.heap.size, 0, none⟩), .pointer (some ⟨w.heap.size + 1, 0, none⟩), .pointer (some ⟨w1.heap.size + 1, 0, none⟩)])] 155)) = W9 at *
  clear c2
  go_loopw [7, 17] (fun g ix wr => ∃ k : Nat, k ≤ n ∧ ix = .int .i64 k ∧ g = .int .i64 ((grpS near n k).2 : Int) ∧ Hid (OutA wr G (grpS near n k).1) ∧ Hid (W9.grownBy wr (some G))) (fun _ ix _ => n - (intOf ix).toNat)
  case atStart => exact ⟨0, by omega, rfl, by rw [← HG20.out], HO9, hide (grown_refl _ _)⟩
  case round =>
    obtain ⟨k, hk, rfl, rfl, HO, HGR⟩ := hrel
    have HS := hide (S9.out.grown HSD.out HGR.out)
    have hGr := HS.out.2.2.2.2.2.2.2
    obtain ⟨q1, q2, q3⟩ := HINV.out k
    by_cases hlt : k < n
    · obtain ⟨l, hlk⟩ : ∃ l, ls[k]? = some l := ⟨ls[k]'(by rw [HN.out]; exact hlt), List.getElem?_eq_getElem _⟩
      have hgg := HHG.out k l hlk
      obtain ⟨b, oo, hAh, hb, hrow⟩ := HS.out.2.2.2.2.1 (by intro e; rw [e] at hgg; simp at hgg)
      have hr := hrow k _ hgg
      have HC := hide (fun W xs hs ho hl hneg => HSPP.out ((grpS near n k).2 : Int) HSD.out (by omega) (noG xs) W xs k l hlk hs ho hl hneg (Nat.le_refl _))
      obtain ⟨mA, mx, mc⟩ := l
      have c0 : wr.cell? ⟨b, oo + k * 2, none⟩ = some (.slice mA mx.length mc) := hr 0 _ rfl
      have c1 : wr.cell? ⟨b, oo + k * 2 + 1, none⟩ = some (.int .i64 k) := hr 1 _ rfl
      have hi : (k : Int) < n := by omega
      have h0 : (0 : Int) ≤ k := by omega
      have b7 : Below wr.heap.size wr (wr.alloc (.cells #[.slice mA mx.length mc, .int .i64 (k : Int)] 96)) := (Below.refl _ _).alloc (Nat.le_refl _) _
      have S7 := hide (HS.out.grown HSD.out (grown_below b7))
      have O7 := hide (HO.out.below b7 hGr)
      have r7 := rangeAt_new' wr #[.slice mA mx.length mc, .int .i64 (k : Int)] 96
      have HG7 := hide (grown_trans HGR.out (grown_below b7))
      have e1 := S7.out.1
      have e2 : (wr.alloc (.cells #[.slice mA mx.length mc, .int .i64 (k : Int)] 96)).cell? ⟨wr.heap.size, 1, none⟩ = some (.int .i64 (k : Int)) := r7 1 _ rfl
      have e3 := O7.out.get (j := k) (by rw [q1]; exact hlt)
      have e4 := S7.out.2.2.2.1
      have e5 : (wr.alloc (.cells #[.slice mA mx.length mc, .int .i64 (k : Int)] 96)).cell? ⟨wr.heap.size, 0, none⟩ = some (.slice mA mx.length mc) := r7 0 _ rfl
      have hw1 := IntWalk.i64_in (((grpS near n k).2 : Int) + 1) ⟨by omega, by omega⟩
      have HQ1 := hide q1
      clear hr hrow hgg b7 r7 hlk
      subst hAh
      by_cases hneg : (grpS near n k).1.getD k 0 = -1
      · have HNX := hide (HNEW.out k hneg)
        have HCC := hide (HC.out _ _ S7.out O7.out HQ1.out hneg)
        rw [hneg] at e3
        clear hneg q1 q2 q3 HC
        go_wp2_with fail
        refine HCC.out.mono ?_
        rintro e w4 ⟨rfl, hg4, hO4⟩
        have HO4 := hide hO4
        have HG4 := hide (grown_trans HG7.out hg4)
        clear hO4 hg4 e1 e2 e3 e4 e5 c0 c1
        go_wp2
        refine ⟨⟨k + 1, by omega, by go_num, ?_, ?_, HG4⟩, by simp [intOf]; omega⟩
        · rw [HNX.out]; show _ = Value.int .i64 (((grpS near n k).2 + 1 : Nat) : Int); congr 1
        · rw [HNX.out]; exact HO4
      · have HNX := hide (HOLD.out k hneg)
        have d1 : ((grpS near n k).1.getD k 0 == -1) = false := by simpa using hneg
        clear hneg q1 q2 q3 HC
        generalize (grpS near n k).1.getD k 0 = vt at *
        go_wp2
        exact ⟨⟨k + 1, by omega, by go_num, by rw [HNX.out], by rw [HNX.out]; exact O7, HG7⟩, by simp [intOf]; omega⟩
    · obtain rfl : k = n := by omega
      have HE : Hid (IntsIn wr w.heap.size (some ⟨G, 0, none⟩) (grpS near k k).1) := hide ((HO.out.at_ hGr).wider (by have := HSD.out; omega))
      have HLN : Hid ((grpS near k k).1.length = k) := hide q1
      have HBF := hide (HBB.out.trans (grown_toBelow HGR.out HBB.out.size (fun k' hk' => by injection hk' with hk'; have := HSD.out; omega)))
      have e1 := HS.out.1
      clear q1 q2 q3 HO hGr
      go_wp2
      go_ret
      refine ⟨⟨some ⟨G, 0, none⟩, k, ?_, by rw [HNE.out]; exact HE.out⟩, HBF.out⟩
      rw [HNE.out, HLN.out]; rfl
end Go.Proofs.YtjmkbdghenjlaaaDoor
