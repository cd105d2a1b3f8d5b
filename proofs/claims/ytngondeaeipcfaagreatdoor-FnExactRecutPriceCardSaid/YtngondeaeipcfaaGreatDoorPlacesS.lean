/- Where the letters of a text are: the model's. -/
import Derived.Test.YtngondeaeipcfaaGreatDoorPlacesW
import Derived.Test.YtngondeaeipcfaaGreatDoorLinesA
import Derived.Maps.AppendAt
namespace Go.Proofs.YtngondeaeipcfaaGreatDoor
open Go Go.RowKit Go.Maps

def wdW (F : Fc) (L : List UInt8) (k : Nat) : List Int := (List.range k).map (letW F L)
theorem wdW_succ (F : Fc) (L : List UInt8) (k : Nat) : wdW F L (k + 1) = wdW F L k ++ [letW F L k] := by simp [wdW, List.range_succ]
theorem wdW_len (F : Fc) (L : List UInt8) (k : Nat) : (wdW F L k).length = k := by simp [wdW]
def wdTo (F : Fc) (ws : List (List UInt8)) : Nat → List Int
  | 0 => []
  | k + 1 => wdTo F ws k ++ wdW F (ws.getD k []) (ws.getD k []).length
def wdL (F : Fc) (ws : List (List UInt8)) : List Int := wdTo F ws ws.length
theorem wdTo_len {F : Fc} {ws : List (List UInt8)} : ∀ k, (wdTo F ws k).length = (plTo F ws k).length
  | 0 => rfl
  | k + 1 => by simp only [wdTo, plTo, List.length_append, wdW_len, plW_len, wdTo_len k]
def atL (F : Fc) (ws : List (List UInt8)) (k : Nat) : Int := if k = 0 then 0 else preL F ws k - F.sp
def distV (v1 v2 : Value) : Prop := ∀ g, v1.ownBlock = some g → v2.ownBlock ≠ some g
theorem kept_dist {w w' : World} {base e sz n : Nat} {v1 v2 : Value} {cs : List Value} (h2 : w.ownsRow base e sz v2 n cs) (hg : w.grownBy w' v1.ownBlock) (hd : distV v1 v2) : w'.ownsRow base e sz v2 n cs :=
  h2.kept hg (by
    cases hv : v2.ownBlock with
    | none => exact .inl rfl
    | some g => exact .inr (fun e => hd g e.symm hv))
theorem dist_symm {v1 v2 : Value} (h : distV v1 v2) : distV v2 v1 := fun g h1 h2 => h g h2 h1
theorem dist_new {w : World} {base e sz n N : Nat} {v1 v1' v2 : Value} {cs : List Value} (hd : distV v1 v2) (h2 : w.ownsRow base e sz v2 n cs) (hb : v1'.ownBlock = v1.ownBlock ∨ v1'.ownBlock = some N) (hN : w.heap.size ≤ N) : distV v1' v2 := fun g h1 h3 => by
  rcases hb with hb | hb
  · exact hd g (hb.symm.trans h1) h3
  · rw [hb] at h1; injection h1 with h1; subst h1
    have := (h2.lt _ h3).2; omega
def PlBack (xs ys : List Int) (w : World) : Ending → World → Prop := fun e w' =>
  ∃ A' c' B' d', e = .returned (.tuple #[.slice A' xs.length c', .slice B' ys.length d']) ∧ xs.length ≤ c' ∧ IntsIn w' w.heap.size A' xs ∧ IntsIn w' w.heap.size B' ys ∧ Below w.heap.size w w'

set_option maxRecDepth 100000 in
set_option maxHeartbeats 16000000 in
theorem l01Places_any (F : Fc) (hF : F.ok) (b : Nat) (A : Option Addr) (c : Nat) (ws : List (List UInt8)) (A2 : Option Addr) (c2 : Nat) (w : World) (hv : vface F = true) (hw : ∀ x ∈ ws, x.length ≤ 60 ∧ allCap x) (hn : ws.length ≤ 61)
    (hr : w.rangeAt b 0 (fc F (.slice A F.ps.length c))) (hb : b < w.heap.size) (hA : PairsAt w w.heap.size A F.ps) (hS : StrsAt w w.heap.size A2 (bas ws)) :
    Calls Tryz.prog 111 #[.pointer (some ⟨b, 0, none⟩), .slice A2 ws.length c2] w (PlBack (plL F ws) (wdL F ws) w) := by
  obtain ⟨i0, hi0, hz0, hz1, hz2⟩ := info_parts Tryz.infoI64
  have hW := hide hF.len
  have HROW := hide (fun W (hB : Below w.heap.size w W) => rangeAt_below hr hB hb)
  have HBY := hide (fun x y W (hB : Below w.heap.size w W) => l01By_any F hF b A c x y W (rangeAt_below hr hB hb) ((hA.below hB).mono hB.size))
  have HPL := hide (fun k hk => plTo_len (F := F) (ws := ws) (fun y hy => (hw y hy).1) k hk)
  have HWL := hide (fun k => wdTo_len (F := F) (ws := ws) k)
  have HPB := hide (preL_bd hF hv hw)
  have HPS := hide (fun k => show preL F ws (k + 1) = preL F ws k + wideL F (ws.getD k []) + F.sp from rfl)
  have HAT := hide (fun k (h : 0 < k) => show atL F ws k = preL F ws k - F.sp by unfold atL; rw [if_neg (by omega)])
  have HA0 := hide (show atL F ws 0 = 0 from rfl)
  have HP1 := hide (fun k => show plTo F ws (k + 1) = plTo F ws k ++ plW F (ws.getD k []) (preL F ws k) (ws.getD k []).length from rfl)
  have HW1 := hide (fun k => show wdTo F ws (k + 1) = wdTo F ws k ++ wdW F (ws.getD k []) (ws.getD k []).length from rfl)
  have HBG := hide (fun (k : Nat) (hk : k < ws.length) => bas_get hk)
  have HWM := hide (fun (k : Nat) (hk : k < ws.length) => hw _ (getD_mem hk))
  obtain ⟨sp1, sp2⟩ := sp_bd hv
  obtain ⟨gp1, gp2⟩ := shape_gap (vface_true.1 hv).2.gp
  have HV := hide hv
  unfold plL wdL
  obtain ⟨n, hL⟩ : ∃ n, ws.length = n := ⟨_, rfl⟩
  have HL := hide hL
  have hne : 0 < n → bas ws ≠ [] := fun h e => by have := congrArg List.length e; simp at this; subst this; simp at hL; omega
  rw [hL] at hn HPL HPB HBG HWM ⊢
  have x26 := rangeAt_cell hr (fc_sp hW.out _)
  clear hL hA hr hw hv x26
  have hb0 : Below w.heap.size w ((w.alloc (.cells #[] 2)).alloc (.cells #[] 2)) := ((Below.refl _ _).alloc (Nat.le_refl _) _).alloc (by simp) _
  have ho1 : (w.alloc (.cells #[] 2)).ownsRow w.heap.size 2 1 (.slice (some ⟨w.heap.size, 0, none⟩) 0 0) 0 [] := World.ownsRow_lit w #[] 0 (Nat.le_refl _) (by unfold maxLen; omega) rfl
  have ho2 : ((w.alloc (.cells #[] 2)).alloc (.cells #[] 2)).ownsRow w.heap.size 2 1 (.slice (some ⟨w.heap.size + 1, 0, none⟩) 0 0) 0 [] := by
    have h := World.ownsRow_lit (base := w.heap.size) (e := 2) (size := 1) (w.alloc (.cells #[] 2)) #[] 0 (by simp) (by unfold maxLen; omega) rfl
    simpa using h
  have HO1 := hide (ho1.alloc (.cells #[] 2))
  have HO2 := hide ho2
  clear ho1 ho2
  go_enter Tryz.func111, Tryz.ntmps111
  go_wp2
  go_loopw [6, 7, 8, 9] (fun b1 b2 t i wr => ∃ k : Nat, k ≤ n ∧ i = .int .i64 k ∧ t = .int .i64 (atL F ws k) ∧ Hid (wr.ownsRow w.heap.size 2 1 b1 (plTo F ws k).length ((plTo F ws k).map (.int .i64))) ∧ Hid (wr.ownsRow w.heap.size 2 1 b2 (wdTo F ws k).length ((wdTo F ws k).map (.int .i64))) ∧ Hid (distV b1 b2) ∧ Below w.heap.size w wr)
    (fun _ _ _ i _ => n - (intOf i).toNat)
  case atStart => exact ⟨0, by omega, rfl, rfl, HO1, HO2, hide (fun g h1 h2 => by simp [Value.ownBlock] at h1 h2; omega), hb0⟩
  case round =>
    obtain ⟨k, hk, rfl, rfl, h1, h2, hd, hB⟩ := hrel
    by_cases hlt : k < n
    · obtain ⟨b2, o2, rfl, hb2, hxs⟩ := hS (hne (by omega))
      obtain ⟨x, hx⟩ : ∃ x, ws.getD k [] = x := ⟨_, rfl⟩
      obtain ⟨s', hs'⟩ : ∃ s' : ByteArray, s' = ⟨x.toArray⟩ := ⟨_, rfl⟩
      have hX : s'.data.toList = x := congrArg (fun b : ByteArray => b.data.toList) hs'
      have hbg := HBG.out k hlt
      rw [hx, ← hs'] at hbg
      obtain ⟨hx60, hcap⟩ := HWM.out k hlt
      rw [hx] at hx60 hcap
      have hl : s'.data.toList.length = s'.size := by simp
      have hs60 : s'.size ≤ 60 := by rw [← hl, hX]; exact hx60
      rw [← hX] at hcap
      rw [hX] at hcap
      have hbs := hB.size
      have HC := hide (fun i (hi : i < s'.size) => (show allCap s'.data.toList by rw [hX]; exact hcap) i (by rw [hl]; exact hi))
      have hcap' : allCap s'.data.toList := by rw [hX]; exact hcap
      have HBD := hide (fun q (hq : q ≤ s'.size) => wideTo_bd hF HV.out hcap' q (by rw [hl]; exact hq))
      have HLW := hide (fun i (hi : i < s'.size) => letW_bd hF HV.out hcap' (i := i) (by rw [hl]; exact hi))
      have HGB := hide (fun i => gapL_bd HV.out s'.data.toList i)
      have HBYB := hide (fun a b => byL_bd HV.out a b)
      have HST := hide (fun k => show wideTo F s'.data.toList (k + 1) = wideTo F s'.data.toList k + letW F s'.data.toList k + gapL F s'.data.toList k from rfl)
      have HGK := hide (fun k (hk : k ≠ 0) => show gapL F s'.data.toList k = F.gp + byL F.ps (byteAt s'.data.toList (k - 1)) (byteAt s'.data.toList k) by simp [gapL, hk])
      have HQ2 := hide (fun k => wdW_succ F s'.data.toList k)
      have hp1 := HP1.out k
      have hw1 := HW1.out k
      have hps := HPS.out k
      obtain ⟨pb1, pb2⟩ := HPB.out k (by omega)
      have hpl := HPL.out k (by omega)
      have hwl := HWL.out k
      rw [hx, ← hX, hl] at hp1 hw1
      have hwide : wideL F (ws.getD k []) = wideTo F s'.data.toList s'.size := by unfold wideL; rw [hx, ← hX, hl]
      rw [hwide] at hps
      have hat0 : k = 0 → atL F ws k = preL F ws k := fun e => by rw [e]; rfl
      have hat1 : 0 < k → atL F ws k + F.sp = preL F ws k := fun h => by rw [HAT.out k h]; omega
      have hcs0 : w.cell? ⟨b2, o2 + k, none⟩ = some (.string s') := hxs k _ hbg
      generalize preL F ws k = p at *
      generalize hPLd : plTo F ws k = PL at *
      generalize hWLd : wdTo F ws k = WL at *
      generalize hP0 : PL.length = P0 at *
      generalize hP1 : WL.length = P1 at *
      have hP0b : P0 ≤ 60 * k := hpl
      have HQ1 := hide (fun k => plW_succ F s'.data.toList p k)
      have HPSK := hide hps
      have HP1K := hide (hp1.trans rfl)
      have HW1K := hide hw1
      have HHP := hide hP0
      have HHW := hide hP1
      have hP1b : P1 ≤ 60 * k := by rw [hwl]; exact hpl
      clear hxs hbg hcap hcap' hl hX hs' hx hp1 hw1 hps hwide hP0 hP1 hpl hwl hPLd hWLd hx60
      have hi : (k : Int) < n := by omega
      have h0 : (0 : Int) ≤ k := by omega
      obtain ⟨Az, cz, rfl, _, _⟩ := cellsIn_of_own h1.out (by omega)
      obtain ⟨Aw, cw, rfl, _, _⟩ := cellsIn_of_own h2.out (by omega)
      have hBx := hB
      by_cases hk0 : k = 0
      · have hd0 : decide ((0 : Int) < k) = false := by simp; omega
        have hd0' : decide (0 < k) = false := by simp; omega
        rw [hat0 hk0]
        clear hat0 hat1 hk0
        go_wp2
        obtain ⟨W1, hW1⟩ : ∃ W1, W1 = wr := ⟨_, rfl⟩
        subst hW1
        go_loopw [6, 7, 8, 10] (fun b1 b2 t j wr => ∃ q : Nat, q ≤ s'.size ∧ j = .int .i64 q ∧ t = .int .i64 (p + wideTo F s'.data.toList q) ∧ Hid (wr.ownsRow w.heap.size 2 1 b1 (P0 + q) ((PL ++ plW F s'.data.toList p q).map (.int .i64))) ∧ Hid (wr.ownsRow w.heap.size 2 1 b2 (P1 + q) ((WL ++ wdW F s'.data.toList q).map (.int .i64))) ∧ Hid (distV b1 b2) ∧ Below w.heap.size w wr)
          (fun _ _ _ j _ => s'.size - (intOf j).toNat)
        case atStart => exact ⟨0, by omega, rfl, by simp [wideTo], hide (by simpa [plW] using h1.out), hide (by simpa [wdW] using h2.out), hd, hBx⟩
        case round =>
          obtain ⟨q, hq, rfl, rfl, o1, o2', hdd, hB2⟩ := hrel
          have hbs2 := hB2.size
          obtain ⟨Ax, cx, rfl, _, _⟩ := cellsIn_of_own o1.out (by omega)
          obtain ⟨Ay, cy, rfl, _, _⟩ := cellsIn_of_own o2'.out (by omega)
          have cs : wr.cell? ⟨b2, o2 + k, none⟩ = some (.string s') := (hB2.cell (p := ⟨b2, o2 + k, none⟩) hb2).trans hcs0
          by_cases hlq : q < s'.size
          · have hqi : (q : Int) < s'.size := by omega
            have hq0 : (0 : Int) ≤ q := by omega
            have hcq := HC.out q hlq
            have hbq := byteAt_get s' q hlq
            obtain ⟨q1, q2⟩ := capIdx hcq
            have q3 := cap_true.1 hcq
            obtain ⟨l1, l2⟩ := HLW.out q hlq
            obtain ⟨t1, t2⟩ := HBD.out q hq
            obtain ⟨g1, g2⟩ := HGB.out q
            have hlet : F.W.getD (byteAt s'.data.toList q - 65).toNat 0 = letW F s'.data.toList q := rfl
            rw [← hbq] at q1 q2 q3 hlet
            clear hbq hcq
            by_cases hq00 : q = 0
            · have hd0 : decide ((0 : Int) < q) = false := by simp; omega
              have hd0' : decide (0 < q) = false := by simp; omega
              have hg0 : p + wideTo F s'.data.toList q = (p + wideTo F s'.data.toList q + gapL F s'.data.toList q) := by rw [hq00]; simp [gapL]
              rw [hg0]
              have hB6 := hB2
              have cs6 := cs
              have o16 := o1
              have o26 := o2'
              have hd6 := hdd
              have HLE := hide hlet
              have HG0 := hide hg0
              clear hq00 hg0
              go_wp2
              clear cs
              have hcw0 := rangeAt_cell (HROW.out wr hB6) (fc_W hW.out _ q1)
              rw [hlet, show ((s'[q].toNat : Int) - 65).toNat = s'[q].toNat - 65 by omega] at hcw0
              have hcw := Over.get hcw0
              clear hlet hcw0
              have hcs := Over.get cs6
              have e1 := IntWalk.u8_in ((s'[q].toNat : Int) - 65) ⟨by omega, by omega⟩
              have e7 := IntWalk.i64_in (letW F s'.data.toList q) ⟨by omega, by omega⟩
              have e3 : (0 : Int) ≤ (s'[q].toNat : Int) - 65 := by omega
              have e4 : (s'[q].toNat : Int) - 65 < 26 := by omega
              refine wp_region_over (by kernel_rfl) (by kernel_rfl) ?_
              repeat (go_big_quiet_step ((fail)))
              refine wpQuiet_nil ?_
              intro w7 hb7
              have hB7 := hB6.trans (hb7.mono hB6.size)
              have o17 := own_go o16.out hb7
              have o27 := own_go o26.out hb7
              have hs7 := hB7.size
              clear hcw hcs e1 e7 hb7 cs6
              go_wp2_with (at_builtin; refine wpList_append_own_at _ rfl (.tmp 76) (.tmp 78) 33 rfl w.heap.size 2 i0 (.int .i64 0) 1 8 Tryz.underlying33 hi0 hz0 hz1 hz2 rfl (by decide) _ (P0 + q) _ rfl (o17.alloc _) ⟨w7.heap.size, 0, none⟩ 1 1 [.int .i64 (p + wideTo F s'.data.toList q + gapL F s'.data.toList q)] rfl rfl (one_cell _) (one_one rfl) ?h1 ?h2 ?h3 ?_)
              case h1 => unfold maxLen; omega
              case h2 => omega
              case h3 => simp; omega
              intro v8 w8 o18 hg8 _ hblk8
              obtain ⟨A8, c8, rfl, _, _⟩ := cellsIn_of_own o18 (by omega)
              have hg78 : w7.grownBy w8 _ := grown_trans (World.grownBy_alloc w7 _ _) hg8
              have o28 := kept_dist o27 hg78 hd6.out
              have hd8 := hide (dist_new hd6.out o27 hblk8 (by simp))
              have hB8 := hB7.trans (grown_toBelow hg78 (by omega) (fun k hk => (o17.lt k hk).1))
              have O18 := hide o18
              have hs8 := hg78.size
              clear o18 hg8 hg78 o17 o27 hblk8
              go_wp2_with (at_builtin; refine wpList_append_own_at _ rfl (.tmp 80) (.tmp 82) 33 rfl w.heap.size 2 i0 (.int .i64 0) 1 8 Tryz.underlying33 hi0 hz0 hz1 hz2 rfl (by decide) _ (P1 + q) _ rfl (o28.alloc _) ⟨w8.heap.size, 0, none⟩ 1 1 [.int .i64 (letW F s'.data.toList q)] rfl rfl (one_cell _) (one_one rfl) ?h1 ?h2 ?h3 ?_)
              case h1 => unfold maxLen; omega
              case h2 => omega
              case h3 => simp; omega
              intro v9 w9 o29 hg9 _ hblk9
              obtain ⟨A9, c9, rfl, _, _⟩ := cellsIn_of_own o29 (by omega)
              have hg89 : w8.grownBy w9 _ := grown_trans (World.grownBy_alloc w8 _ _) hg9
              have O19 := hide (kept_dist O18.out hg89 (dist_symm hd8.out))
              have hd9 := hide (dist_symm (dist_new (dist_symm hd8.out) O18.out hblk9 (by simp)))
              have hB9 := hB8.trans (grown_toBelow hg89 (by omega) (fun k hk => (o28.lt k hk).1))
              have O29 := hide o29
              have e9 := IntWalk.i64_in ((p + wideTo F s'.data.toList q + gapL F s'.data.toList q) + letW F s'.data.toList q) ⟨by omega, by omega⟩
              clear o29 hg9 hg89 o28 hblk9 O18
              go_wp2
              refine ⟨⟨q + 1, by omega, by go_num, ?_, hide ?_, hide ?_, hd9, hB9⟩, by simp [intOf]; omega⟩
              · rw [HST.out]; congr 1; omega
              · rw [HQ1.out, ← List.append_assoc, List.map_append, List.map_append, List.append_assoc]
                exact O19.out
              · rw [HQ2.out, ← List.append_assoc, List.map_append, List.map_append, List.append_assoc]
                exact O29.out
            · have hd0 : decide ((0 : Int) < q) = true := by simp; omega
              have hd0' : decide (0 < q) = true := by simp; omega
              have hlt1 : q - 1 < s'.size := by omega
              have j0 : (0 : Int) ≤ (q : Int) - 1 := by omega
              have j00 : (1 : Int) ≤ (q : Int) := by omega
              have j1 : (q : Int) - 1 < s'.size := by omega
              have j2 := IntWalk.i64_in ((q : Int) - 1) ⟨by omega, by omega⟩
              have j3 : ((q : Int) - 1).toNat = q - 1 := by omega
              have hgk := HGK.out q hq00
              rw [← byteAt_get s' q hlq, ← byteAt_get s' (q - 1) hlt1] at hgk
              obtain ⟨y1, y2, y3, y4⟩ := HBYB.out (s'[q - 1].toNat : Int) (s'[q].toNat : Int)
              have e5 := IntWalk.i64_in (F.gp + byL F.ps (s'[q - 1].toNat : Int) (s'[q].toNat : Int)) ⟨by omega, by omega⟩
              have e6 := IntWalk.i64_in (p + wideTo F s'.data.toList q + (F.gp + byL F.ps (s'[q - 1].toNat : Int) (s'[q].toNat : Int))) ⟨by omega, by omega⟩
              have e10 := IntWalk.i64_in F.gp ⟨by omega, by omega⟩
              have HGQ := hide hgk
              have HBQ := hide (fun (z : Over wr) => HBY.out (s'[q - 1].toNat : Int) (s'[q].toNat : Int) z.w (hB2.trans (z.h.mono hbs2)))
              have HLE := hide hlet
              clear hq00 hgk
              go_wp2
              have hcs2 := Over.get cs
              have x27 := Over.get (rangeAt_cell (HROW.out wr hB2) (fc_gp hW.out _))
              refine wp_region_over (by kernel_rfl) (by kernel_rfl) ?_
              repeat (go_big_quiet_step ((go_at_call 146; exact over_same (HBQ.out _))))
              refine wpQuiet_nil ?_
              intro w6 hb6
              rw [← HGQ.out]
              have hB6 := hB2.trans (hb6.mono hbs2)
              have cs6 : w6.cell? ⟨b2, o2 + k, none⟩ = some (.string s') := (hB6.cell (p := ⟨b2, o2 + k, none⟩) hb2).trans hcs0
              have o16 := hide (own_go o1.out hb6)
              have o26 := hide (own_go o2'.out hb6)
              have hd6 := hdd
              clear hcs2 x27 hb6 cs e5 e6 e10 j2 o1 o2'
              go_wp2
              have hcw0 := rangeAt_cell (HROW.out w6 hB6) (fc_W hW.out _ q1)
              rw [hlet, show ((s'[q].toNat : Int) - 65).toNat = s'[q].toNat - 65 by omega] at hcw0
              have hcw := Over.get hcw0
              clear hlet hcw0
              have hcs := Over.get cs6
              have e1 := IntWalk.u8_in ((s'[q].toNat : Int) - 65) ⟨by omega, by omega⟩
              have e7 := IntWalk.i64_in (letW F s'.data.toList q) ⟨by omega, by omega⟩
              have e3 : (0 : Int) ≤ (s'[q].toNat : Int) - 65 := by omega
              have e4 : (s'[q].toNat : Int) - 65 < 26 := by omega
              refine wp_region_over (by kernel_rfl) (by kernel_rfl) ?_
              repeat (go_big_quiet_step ((fail)))
              refine wpQuiet_nil ?_
              intro w7 hb7
              have hB7 := hB6.trans (hb7.mono hB6.size)
              have o17 := own_go o16.out hb7
              have o27 := own_go o26.out hb7
              have hs7 := hB7.size
              clear hcw hcs e1 e7 hb7 cs6
              go_wp2_with (at_builtin; refine wpList_append_own_at _ rfl (.tmp 76) (.tmp 78) 33 rfl w.heap.size 2 i0 (.int .i64 0) 1 8 Tryz.underlying33 hi0 hz0 hz1 hz2 rfl (by decide) _ (P0 + q) _ rfl (o17.alloc _) ⟨w7.heap.size, 0, none⟩ 1 1 [.int .i64 (p + wideTo F s'.data.toList q + gapL F s'.data.toList q)] rfl rfl (one_cell _) (one_one rfl) ?h1 ?h2 ?h3 ?_)
              case h1 => unfold maxLen; omega
              case h2 => omega
              case h3 => simp; omega
              intro v8 w8 o18 hg8 _ hblk8
              obtain ⟨A8, c8, rfl, _, _⟩ := cellsIn_of_own o18 (by omega)
              have hg78 : w7.grownBy w8 _ := grown_trans (World.grownBy_alloc w7 _ _) hg8
              have o28 := kept_dist o27 hg78 hd6.out
              have hd8 := hide (dist_new hd6.out o27 hblk8 (by simp))
              have hB8 := hB7.trans (grown_toBelow hg78 (by omega) (fun k hk => (o17.lt k hk).1))
              have O18 := hide o18
              have hs8 := hg78.size
              clear o18 hg8 hg78 o17 o27 hblk8
              go_wp2_with (at_builtin; refine wpList_append_own_at _ rfl (.tmp 80) (.tmp 82) 33 rfl w.heap.size 2 i0 (.int .i64 0) 1 8 Tryz.underlying33 hi0 hz0 hz1 hz2 rfl (by decide) _ (P1 + q) _ rfl (o28.alloc _) ⟨w8.heap.size, 0, none⟩ 1 1 [.int .i64 (letW F s'.data.toList q)] rfl rfl (one_cell _) (one_one rfl) ?h1 ?h2 ?h3 ?_)
              case h1 => unfold maxLen; omega
              case h2 => omega
              case h3 => simp; omega
              intro v9 w9 o29 hg9 _ hblk9
              obtain ⟨A9, c9, rfl, _, _⟩ := cellsIn_of_own o29 (by omega)
              have hg89 : w8.grownBy w9 _ := grown_trans (World.grownBy_alloc w8 _ _) hg9
              have O19 := hide (kept_dist O18.out hg89 (dist_symm hd8.out))
              have hd9 := hide (dist_symm (dist_new (dist_symm hd8.out) O18.out hblk9 (by simp)))
              have hB9 := hB8.trans (grown_toBelow hg89 (by omega) (fun k hk => (o28.lt k hk).1))
              have O29 := hide o29
              have e9 := IntWalk.i64_in ((p + wideTo F s'.data.toList q + gapL F s'.data.toList q) + letW F s'.data.toList q) ⟨by omega, by omega⟩
              clear o29 hg9 hg89 o28 hblk9 O18
              go_wp2
              refine ⟨⟨q + 1, by omega, by go_num, ?_, hide ?_, hide ?_, hd9, hB9⟩, by simp [intOf]; omega⟩
              · rw [HST.out]; congr 1; omega
              · rw [HQ1.out, ← List.append_assoc, List.map_append, List.map_append, List.append_assoc]
                exact O19.out
              · rw [HQ2.out, ← List.append_assoc, List.map_append, List.map_append, List.append_assoc]
                exact O29.out
          · obtain rfl : q = s'.size := by omega
            have HFIN := hide (HAT.out (k + 1) (by omega))
            go_wp2
            refine ⟨⟨k + 1, by omega, by go_num, ?_, hide ?_, hide ?_, hdd, hB2⟩, by simp [intOf]; omega⟩
            · rw [HFIN.out, HPSK.out]; congr 1; omega
            · rw [HP1K.out, List.length_append, plW_len, HHP.out]; exact o1.out
            · rw [HW1K.out, List.length_append, wdW_len, HHW.out]; exact o2'.out
      · have hd0 : decide ((0 : Int) < k) = true := by simp; omega
        have hd0' : decide (0 < k) = true := by simp; omega
        have hat := hat1 (by omega)
        have HATT := hide hat
        have x26 := rangeAt_cell (HROW.out wr hB) (fc_sp hW.out _)
        have e7 := IntWalk.i64_in F.sp ⟨by omega, by omega⟩
        have e8 := IntWalk.i64_in (atL F ws k + F.sp) ⟨by omega, by omega⟩
        clear hat0 hat1 hat hk0
        go_wp2
        rw [HATT.out]
        clear x26 e7 e8
        obtain ⟨W1, hW1⟩ : ∃ W1, W1 = wr := ⟨_, rfl⟩
        subst hW1
        go_loopw [6, 7, 8, 10] (fun b1 b2 t j wr => ∃ q : Nat, q ≤ s'.size ∧ j = .int .i64 q ∧ t = .int .i64 (p + wideTo F s'.data.toList q) ∧ Hid (wr.ownsRow w.heap.size 2 1 b1 (P0 + q) ((PL ++ plW F s'.data.toList p q).map (.int .i64))) ∧ Hid (wr.ownsRow w.heap.size 2 1 b2 (P1 + q) ((WL ++ wdW F s'.data.toList q).map (.int .i64))) ∧ Hid (distV b1 b2) ∧ Below w.heap.size w wr)
          (fun _ _ _ j _ => s'.size - (intOf j).toNat)
        case atStart => exact ⟨0, by omega, rfl, by simp [wideTo], hide (by simpa [plW] using h1.out), hide (by simpa [wdW] using h2.out), hd, hBx⟩
        case round =>
          obtain ⟨q, hq, rfl, rfl, o1, o2', hdd, hB2⟩ := hrel
          have hbs2 := hB2.size
          obtain ⟨Ax, cx, rfl, _, _⟩ := cellsIn_of_own o1.out (by omega)
          obtain ⟨Ay, cy, rfl, _, _⟩ := cellsIn_of_own o2'.out (by omega)
          have cs : wr.cell? ⟨b2, o2 + k, none⟩ = some (.string s') := (hB2.cell (p := ⟨b2, o2 + k, none⟩) hb2).trans hcs0
          by_cases hlq : q < s'.size
          · have hqi : (q : Int) < s'.size := by omega
            have hq0 : (0 : Int) ≤ q := by omega
            have hcq := HC.out q hlq
            have hbq := byteAt_get s' q hlq
            obtain ⟨q1, q2⟩ := capIdx hcq
            have q3 := cap_true.1 hcq
            obtain ⟨l1, l2⟩ := HLW.out q hlq
            obtain ⟨t1, t2⟩ := HBD.out q hq
            obtain ⟨g1, g2⟩ := HGB.out q
            have hlet : F.W.getD (byteAt s'.data.toList q - 65).toNat 0 = letW F s'.data.toList q := rfl
            rw [← hbq] at q1 q2 q3 hlet
            clear hbq hcq
            by_cases hq00 : q = 0
            · have hd0 : decide ((0 : Int) < q) = false := by simp; omega
              have hd0' : decide (0 < q) = false := by simp; omega
              have hg0 : p + wideTo F s'.data.toList q = (p + wideTo F s'.data.toList q + gapL F s'.data.toList q) := by rw [hq00]; simp [gapL]
              rw [hg0]
              have hB6 := hB2
              have cs6 := cs
              have o16 := o1
              have o26 := o2'
              have hd6 := hdd
              have HLE := hide hlet
              have HG0 := hide hg0
              clear hq00 hg0
              go_wp2
              clear cs
              have hcw0 := rangeAt_cell (HROW.out wr hB6) (fc_W hW.out _ q1)
              rw [hlet, show ((s'[q].toNat : Int) - 65).toNat = s'[q].toNat - 65 by omega] at hcw0
              have hcw := Over.get hcw0
              clear hlet hcw0
              have hcs := Over.get cs6
              have e1 := IntWalk.u8_in ((s'[q].toNat : Int) - 65) ⟨by omega, by omega⟩
              have e7 := IntWalk.i64_in (letW F s'.data.toList q) ⟨by omega, by omega⟩
              have e3 : (0 : Int) ≤ (s'[q].toNat : Int) - 65 := by omega
              have e4 : (s'[q].toNat : Int) - 65 < 26 := by omega
              refine wp_region_over (by kernel_rfl) (by kernel_rfl) ?_
              repeat (go_big_quiet_step ((fail)))
              refine wpQuiet_nil ?_
              intro w7 hb7
              have hB7 := hB6.trans (hb7.mono hB6.size)
              have o17 := own_go o16.out hb7
              have o27 := own_go o26.out hb7
              have hs7 := hB7.size
              clear hcw hcs e1 e7 hb7 cs6
              go_wp2_with (at_builtin; refine wpList_append_own_at _ rfl (.tmp 76) (.tmp 78) 33 rfl w.heap.size 2 i0 (.int .i64 0) 1 8 Tryz.underlying33 hi0 hz0 hz1 hz2 rfl (by decide) _ (P0 + q) _ rfl (o17.alloc _) ⟨w7.heap.size, 0, none⟩ 1 1 [.int .i64 (p + wideTo F s'.data.toList q + gapL F s'.data.toList q)] rfl rfl (one_cell _) (one_one rfl) ?h1 ?h2 ?h3 ?_)
              case h1 => unfold maxLen; omega
              case h2 => omega
              case h3 => simp; omega
              intro v8 w8 o18 hg8 _ hblk8
              obtain ⟨A8, c8, rfl, _, _⟩ := cellsIn_of_own o18 (by omega)
              have hg78 : w7.grownBy w8 _ := grown_trans (World.grownBy_alloc w7 _ _) hg8
              have o28 := kept_dist o27 hg78 hd6.out
              have hd8 := hide (dist_new hd6.out o27 hblk8 (by simp))
              have hB8 := hB7.trans (grown_toBelow hg78 (by omega) (fun k hk => (o17.lt k hk).1))
              have O18 := hide o18
              have hs8 := hg78.size
              clear o18 hg8 hg78 o17 o27 hblk8
              go_wp2_with (at_builtin; refine wpList_append_own_at _ rfl (.tmp 80) (.tmp 82) 33 rfl w.heap.size 2 i0 (.int .i64 0) 1 8 Tryz.underlying33 hi0 hz0 hz1 hz2 rfl (by decide) _ (P1 + q) _ rfl (o28.alloc _) ⟨w8.heap.size, 0, none⟩ 1 1 [.int .i64 (letW F s'.data.toList q)] rfl rfl (one_cell _) (one_one rfl) ?h1 ?h2 ?h3 ?_)
              case h1 => unfold maxLen; omega
              case h2 => omega
              case h3 => simp; omega
              intro v9 w9 o29 hg9 _ hblk9
              obtain ⟨A9, c9, rfl, _, _⟩ := cellsIn_of_own o29 (by omega)
              have hg89 : w8.grownBy w9 _ := grown_trans (World.grownBy_alloc w8 _ _) hg9
              have O19 := hide (kept_dist O18.out hg89 (dist_symm hd8.out))
              have hd9 := hide (dist_symm (dist_new (dist_symm hd8.out) O18.out hblk9 (by simp)))
              have hB9 := hB8.trans (grown_toBelow hg89 (by omega) (fun k hk => (o28.lt k hk).1))
              have O29 := hide o29
              have e9 := IntWalk.i64_in ((p + wideTo F s'.data.toList q + gapL F s'.data.toList q) + letW F s'.data.toList q) ⟨by omega, by omega⟩
              clear o29 hg9 hg89 o28 hblk9 O18
              go_wp2
              refine ⟨⟨q + 1, by omega, by go_num, ?_, hide ?_, hide ?_, hd9, hB9⟩, by simp [intOf]; omega⟩
              · rw [HST.out]; congr 1; omega
              · rw [HQ1.out, ← List.append_assoc, List.map_append, List.map_append, List.append_assoc]
                exact O19.out
              · rw [HQ2.out, ← List.append_assoc, List.map_append, List.map_append, List.append_assoc]
                exact O29.out
            · have hd0 : decide ((0 : Int) < q) = true := by simp; omega
              have hd0' : decide (0 < q) = true := by simp; omega
              have hlt1 : q - 1 < s'.size := by omega
              have j0 : (0 : Int) ≤ (q : Int) - 1 := by omega
              have j00 : (1 : Int) ≤ (q : Int) := by omega
              have j1 : (q : Int) - 1 < s'.size := by omega
              have j2 := IntWalk.i64_in ((q : Int) - 1) ⟨by omega, by omega⟩
              have j3 : ((q : Int) - 1).toNat = q - 1 := by omega
              have hgk := HGK.out q hq00
              rw [← byteAt_get s' q hlq, ← byteAt_get s' (q - 1) hlt1] at hgk
              obtain ⟨y1, y2, y3, y4⟩ := HBYB.out (s'[q - 1].toNat : Int) (s'[q].toNat : Int)
              have e5 := IntWalk.i64_in (F.gp + byL F.ps (s'[q - 1].toNat : Int) (s'[q].toNat : Int)) ⟨by omega, by omega⟩
              have e6 := IntWalk.i64_in (p + wideTo F s'.data.toList q + (F.gp + byL F.ps (s'[q - 1].toNat : Int) (s'[q].toNat : Int))) ⟨by omega, by omega⟩
              have e10 := IntWalk.i64_in F.gp ⟨by omega, by omega⟩
              have HGQ := hide hgk
              have HBQ := hide (fun (z : Over wr) => HBY.out (s'[q - 1].toNat : Int) (s'[q].toNat : Int) z.w (hB2.trans (z.h.mono hbs2)))
              have HLE := hide hlet
              clear hq00 hgk
              go_wp2
              have hcs2 := Over.get cs
              have x27 := Over.get (rangeAt_cell (HROW.out wr hB2) (fc_gp hW.out _))
              refine wp_region_over (by kernel_rfl) (by kernel_rfl) ?_
              repeat (go_big_quiet_step ((go_at_call 146; exact over_same (HBQ.out _))))
              refine wpQuiet_nil ?_
              intro w6 hb6
              rw [← HGQ.out]
              have hB6 := hB2.trans (hb6.mono hbs2)
              have cs6 : w6.cell? ⟨b2, o2 + k, none⟩ = some (.string s') := (hB6.cell (p := ⟨b2, o2 + k, none⟩) hb2).trans hcs0
              have o16 := hide (own_go o1.out hb6)
              have o26 := hide (own_go o2'.out hb6)
              have hd6 := hdd
              clear hcs2 x27 hb6 cs e5 e6 e10 j2 o1 o2'
              go_wp2
              have hcw0 := rangeAt_cell (HROW.out w6 hB6) (fc_W hW.out _ q1)
              rw [hlet, show ((s'[q].toNat : Int) - 65).toNat = s'[q].toNat - 65 by omega] at hcw0
              have hcw := Over.get hcw0
              clear hlet hcw0
              have hcs := Over.get cs6
              have e1 := IntWalk.u8_in ((s'[q].toNat : Int) - 65) ⟨by omega, by omega⟩
              have e7 := IntWalk.i64_in (letW F s'.data.toList q) ⟨by omega, by omega⟩
              have e3 : (0 : Int) ≤ (s'[q].toNat : Int) - 65 := by omega
              have e4 : (s'[q].toNat : Int) - 65 < 26 := by omega
              refine wp_region_over (by kernel_rfl) (by kernel_rfl) ?_
              repeat (go_big_quiet_step ((fail)))
              refine wpQuiet_nil ?_
              intro w7 hb7
              have hB7 := hB6.trans (hb7.mono hB6.size)
              have o17 := own_go o16.out hb7
              have o27 := own_go o26.out hb7
              have hs7 := hB7.size
              clear hcw hcs e1 e7 hb7 cs6
              go_wp2_with (at_builtin; refine wpList_append_own_at _ rfl (.tmp 76) (.tmp 78) 33 rfl w.heap.size 2 i0 (.int .i64 0) 1 8 Tryz.underlying33 hi0 hz0 hz1 hz2 rfl (by decide) _ (P0 + q) _ rfl (o17.alloc _) ⟨w7.heap.size, 0, none⟩ 1 1 [.int .i64 (p + wideTo F s'.data.toList q + gapL F s'.data.toList q)] rfl rfl (one_cell _) (one_one rfl) ?h1 ?h2 ?h3 ?_)
              case h1 => unfold maxLen; omega
              case h2 => omega
              case h3 => simp; omega
              intro v8 w8 o18 hg8 _ hblk8
              obtain ⟨A8, c8, rfl, _, _⟩ := cellsIn_of_own o18 (by omega)
              have hg78 : w7.grownBy w8 _ := grown_trans (World.grownBy_alloc w7 _ _) hg8
              have o28 := kept_dist o27 hg78 hd6.out
              have hd8 := hide (dist_new hd6.out o27 hblk8 (by simp))
              have hB8 := hB7.trans (grown_toBelow hg78 (by omega) (fun k hk => (o17.lt k hk).1))
              have O18 := hide o18
              have hs8 := hg78.size
              clear o18 hg8 hg78 o17 o27 hblk8
              go_wp2_with (at_builtin; refine wpList_append_own_at _ rfl (.tmp 80) (.tmp 82) 33 rfl w.heap.size 2 i0 (.int .i64 0) 1 8 Tryz.underlying33 hi0 hz0 hz1 hz2 rfl (by decide) _ (P1 + q) _ rfl (o28.alloc _) ⟨w8.heap.size, 0, none⟩ 1 1 [.int .i64 (letW F s'.data.toList q)] rfl rfl (one_cell _) (one_one rfl) ?h1 ?h2 ?h3 ?_)
              case h1 => unfold maxLen; omega
              case h2 => omega
              case h3 => simp; omega
              intro v9 w9 o29 hg9 _ hblk9
              obtain ⟨A9, c9, rfl, _, _⟩ := cellsIn_of_own o29 (by omega)
              have hg89 : w8.grownBy w9 _ := grown_trans (World.grownBy_alloc w8 _ _) hg9
              have O19 := hide (kept_dist O18.out hg89 (dist_symm hd8.out))
              have hd9 := hide (dist_symm (dist_new (dist_symm hd8.out) O18.out hblk9 (by simp)))
              have hB9 := hB8.trans (grown_toBelow hg89 (by omega) (fun k hk => (o28.lt k hk).1))
              have O29 := hide o29
              have e9 := IntWalk.i64_in ((p + wideTo F s'.data.toList q + gapL F s'.data.toList q) + letW F s'.data.toList q) ⟨by omega, by omega⟩
              clear o29 hg9 hg89 o28 hblk9 O18
              go_wp2
              refine ⟨⟨q + 1, by omega, by go_num, ?_, hide ?_, hide ?_, hd9, hB9⟩, by simp [intOf]; omega⟩
              · rw [HST.out]; congr 1; omega
              · rw [HQ1.out, ← List.append_assoc, List.map_append, List.map_append, List.append_assoc]
                exact O19.out
              · rw [HQ2.out, ← List.append_assoc, List.map_append, List.map_append, List.append_assoc]
                exact O29.out
          · obtain rfl : q = s'.size := by omega
            have HFIN := hide (HAT.out (k + 1) (by omega))
            go_wp2
            refine ⟨⟨k + 1, by omega, by go_num, ?_, hide ?_, hide ?_, hdd, hB2⟩, by simp [intOf]; omega⟩
            · rw [HFIN.out, HPSK.out]; congr 1; omega
            · rw [HP1K.out, List.length_append, plW_len, HHP.out]; exact o1.out
            · rw [HW1K.out, List.length_append, wdW_len, HHW.out]; exact o2'.out
    · obtain rfl : k = n := by omega
      obtain ⟨A1, c1, e1, hc1, hI1⟩ := intsIn_of_own h1.out
      obtain ⟨A2', c2', e2, hc2, hI2⟩ := intsIn_of_own h2.out
      subst e1 e2
      have HI1 := hide hI1
      have HI2 := hide hI2
      clear hI1 hI2 h1 h2
      go_wp2
      go_ret2
      exact ⟨A1, c1, A2', c2', rfl, hc1, HI1.out, HI2.out, hB⟩

noncomputable def poX (F : Fc) (L : List UInt8) : List Int := if askC F L true = 0 then plL F (wordsL L) else []
theorem po_ok {F : Fc} {L : List UInt8} (h : askC F L true = 0) : poX F L = plL F (wordsL L) := by unfold poX; rw [if_pos h]
theorem po_no {F : Fc} {L : List UInt8} (h : askC F L true ≠ 0) : poX F L = [] := by unfold poX; rw [if_neg h]
theorem poX_len (F : Fc) (L : List UInt8) : (poX F L).length ≤ 1048577 := by
  by_cases h : askC F L true = 0
  · rw [po_ok h]
    have ht : vtext L = true := by
      unfold askC at h; split at h
      · rename_i hh; exact hh.2
      · cases h
    have h1 := words_len ht
    have h2 := plTo_len (F := F) (ws := wordsL L) (fun y hy => (words_mem ht hy).1) (wordsL L).length (Nat.le_refl _)
    unfold plL; omega
  · rw [po_no h]; simp

set_option maxRecDepth 100000 in
set_option maxHeartbeats 4000000 in
theorem specPlacesOf_any (F : Fc) (hF : F.ok) (A : Option Addr) (c : Nat) (s : ByteArray) (hs : s.size ≤ maxLen) (w : World) (hA : PairsAt w w.heap.size A F.ps) :
    Calls Tryz.prog 14 #[.agg (fc F (.slice A F.ps.length c)).toArray, .string s] w (IntsBack (poX F s.data.toList) (askC F s.data.toList true) w) := by
  have hr := rangeAt_new w (fc F (.slice A F.ps.length c)) 28
  have hb : Below w.heap.size w (w.alloc (.cells (fc F (.slice A F.ps.length c)).toArray 28)) := (Below.refl _ _).alloc (Nat.le_refl _) _
  have hs0 : w.heap.size < (w.alloc (.cells (fc F (.slice A F.ps.length c)).toArray 28)).heap.size := by simp
  have BA := (hA.below hb).mono hb.size
  have HC := hide (l01Asked_any F hF _ A c s true _ hs hr BA)
  by_cases h0 : askC F s.data.toList true = 0
  · have hh : vface F = true ∧ vtext s.data.toList = true := by
      have h := h0
      unfold askC at h; split at h
      · rename_i hh; exact hh
      · cases h
    obtain ⟨hv, ht⟩ := hh
    rw [po_ok h0, h0]
    rw [h0] at HC
    have hwl := words_len ht
    have hs60 : s.size ≤ 1048576 := by have := (vtext_true.1 ht).1; simp at this; omega
    have HW := hide (fun w => l01WordsC_any s w hs60)
    have HBL := hide (show (bas (wordsL s.data.toList)).length = (wordsL s.data.toList).length from List.length_map _)
    have HP := hide (fun A2 c2 W (hB : Below (w.alloc (.cells (fc F (.slice A F.ps.length c)).toArray 28)).heap.size (w.alloc (.cells (fc F (.slice A F.ps.length c)).toArray 28)) W) hS => l01Places_any F hF w.heap.size A c (wordsL s.data.toList) A2 c2 W hv (fun x hx => words_mem ht hx) hwl (rangeAt_below hr hB hs0) (Nat.lt_of_lt_of_le hs0 hB.size) ((BA.below hB).mono hB.size) hS)
    unfold PlBack at HP
    clear hA BA hv ht h0 hs60 hr
    go_enter Tryz.func14, Tryz.ntmps14
    go_wp2_with fail
    refine HC.out.mono ?_
    rintro e w1 ⟨rfl, hb1⟩
    go_wp2_with fail
    refine (HW.out w1).mono ?_
    rintro e w2 ⟨A2, c2, rfl, hc2, hP2, hb2⟩
    rw [HBL.out]
    have hB2 := hb1.trans (hb2.mono hb1.size)
    have hB3 := hb.trans (hB2.mono hb.size)
    have hS2 := hide hP2.at_
    clear hb1 hb2 hP2
    go_wp2_with fail
    refine (HP.out A2 c2 _ hB2 hS2.out).mono ?_
    rintro e w3 ⟨A3, c3, A4, c4, rfl, hc3, hI3, hI4, hb3⟩
    go_wp2
    go_ret2
    exact ⟨A3, c3, rfl, hI3.wider hB3.size, hB3.trans (hb3.mono hB3.size)⟩
  · rw [po_no h0]
    generalize askC F s.data.toList true = C at *
    have hd : ((C : Int) != 0) = true := by simpa using h0
    clear hA BA hr
    go_enter Tryz.func14, Tryz.ntmps14
    go_wp2_with fail
    refine HC.out.mono ?_
    rintro e w1 ⟨rfl, hb1⟩
    go_wp2
    go_ret2
    exact ⟨_, 0, rfl, IntsIn.empty _ _ _, by first | exact hb.trans (hb1.mono hb.size) | exact (hb.trans (hb1.mono hb.size)).alloc (Nat.le_trans hb.size hb1.size) _⟩

set_option maxRecDepth 100000 in
set_option maxHeartbeats 4000000 in
theorem implPlacesOf_any (F : Fc) (hF : F.ok) (A : Option Addr) (c : Nat) (s : ByteArray) (hs : s.size ≤ maxLen) (w : World) (hA : PairsAt w w.heap.size A F.ps) :
    Calls Tryz.prog 13 #[.agg (fc F (.slice A F.ps.length c)).toArray, .string s] w (IntsBack (poX F s.data.toList) (askC F s.data.toList true) w) := by
  have hW := hide hF.len
  have hr := rangeAt_new w (fc F (.slice A F.ps.length c)) 28
  have hb : Below w.heap.size w (w.alloc (.cells (fc F (.slice A F.ps.length c)).toArray 28)) := (Below.refl _ _).alloc (Nat.le_refl _) _
  have hs0 : w.heap.size < (w.alloc (.cells (fc F (.slice A F.ps.length c)).toArray 28)).heap.size := by simp
  have BA := (hA.below hb).mono hb.size
  have HII := hide (show ∀ sl, (Tryz.prog.info? 28).map (·.size) = some (fc F sl).length from fun sl => by rw [fc_length hW.out]; kernel_rfl)
  have HV := hide (implValidFace_any F hF A c _ BA)
  have HT := hide (fun W => implValidText_any s W hs)
  cases hv : vface F
  · have hno : askC F s.data.toList true = 1 := ask_no (fun h => by rw [hv] at h; cases h.1)
    rw [po_no (by rw [hno]; decide), hno]
    rw [hv] at HV
    clear hA BA hv hno
    go_enter Tryz.func13, Tryz.ntmps13
    go_wp2_with (refine wpList_load_mid rfl 28 (.tmp 2) rfl _ 0 rfl _ _ hr Tryz.underlying28 rfl (HII.out _) ?_)
    refine HV.out.mono ?_
    rintro e w1 ⟨rfl, hb1⟩
    go_wp2
    go_ret2
    exact ⟨none, 0, rfl, IntsIn.empty _ _ _, hb.trans (hb1.mono hb.size)⟩
  · cases ht : vtext s.data.toList
    · have hno : askC F s.data.toList true = 1 := ask_no (fun h => by rw [ht] at h; cases h.2)
      rw [po_no (by rw [hno]; decide), hno]
      rw [hv] at HV
      rw [ht] at HT
      clear hA BA hv hno ht
      go_enter Tryz.func13, Tryz.ntmps13
      go_wp2_with (refine wpList_load_mid rfl 28 (.tmp 2) rfl _ 0 rfl _ _ hr Tryz.underlying28 rfl (HII.out _) ?_)
      refine HV.out.mono ?_
      rintro e w1 ⟨rfl, hb1⟩
      go_wp2_with fail
      refine (HT.out _).mono ?_
      rintro e w2 ⟨rfl, hb2⟩
      go_wp2
      go_ret2
      exact ⟨none, 0, rfl, IntsIn.empty _ _ _, hb.trans ((hb1.trans (hb2.mono hb1.size)).mono hb.size)⟩
    · have hok : askC F s.data.toList true = 0 := by rw [ask_ok hv ht]; rfl
      rw [po_ok hok, hok]
      rw [hv] at HV
      rw [ht] at HT
      have HPL := hide (fun W (h : Below (w.alloc (.cells (fc F (.slice A F.ps.length c)).toArray 28)).heap.size (w.alloc (.cells (fc F (.slice A F.ps.length c)).toArray 28)) W) => placesOf_any F hF A c s W hv ht ((BA.below h).mono h.size))
      clear hA BA hv hok ht
      generalize plL F (wordsL s.data.toList) = PL at *
      go_enter Tryz.func13, Tryz.ntmps13
      go_wp2_with (refine wpList_load_mid rfl 28 (.tmp 2) rfl _ 0 rfl _ _ hr Tryz.underlying28 rfl (HII.out _) ?_)
      generalize (w.alloc (.cells (fc F (.slice A F.ps.length c)).toArray 28)) = W0 at *
      refine HV.out.mono ?_
      rintro e w1 ⟨rfl, hb1⟩
      go_wp2_with fail
      refine (HT.out _).mono ?_
      rintro e w2 ⟨rfl, hb2⟩
      have hB2 := hb1.trans (hb2.mono hb1.size)
      have r2 := rangeAt_over hr hB2 hs0
      have hB3 := hb.trans (hB2.mono hb.size)
      clear hr hb1 hb2 HV HT
      go_wp2_with (refine wpList_load_mid rfl 28 (.tmp 2) rfl _ 0 rfl _ _ r2 Tryz.underlying28 rfl (HII.out _) ?_)
      refine (HPL.out _ hB2).mono ?_
      rintro e w4 ⟨A4, c4, rfl, hc4, hI, hb4⟩
      have HI := hide hI
      clear hI r2
      go_wp2
      go_ret2
      exact ⟨A4, c4, rfl, HI.out.wider hB3.size, hB3.trans (hb4.mono hB3.size)⟩
end Go.Proofs.YtngondeaeipcfaaGreatDoor
