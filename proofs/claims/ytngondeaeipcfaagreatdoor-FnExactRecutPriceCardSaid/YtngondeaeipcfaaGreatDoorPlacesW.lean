/- Where the letters of a text are: the program's. -/
import Derived.Test.YtngondeaeipcfaaGreatDoorLinesA

import Derived.Test.YtngondeaeipcfaaGreatDoorWr
import Derived.Test.YtngondeaeipcfaaGreatDoorG6
import Derived.LoopIn
import Derived.BigFrameIn
namespace Go.Proofs.YtngondeaeipcfaaGreatDoor
open Go Go.RowKit Go.Shelf Go.Sort
attribute [local go_sem] Oper.semAt_some

/-- Where the first k letters of a word are that begins at p. -/
def plW (F : Fc) (L : List UInt8) (p : Int) (k : Nat) : List Int := (List.range k).map fun j => p + wideTo F L j + gapL F L j
theorem plW_succ (F : Fc) (L : List UInt8) (p : Int) (k : Nat) : plW F L p (k + 1) = plW F L p k ++ [p + wideTo F L k + gapL F L k] := by simp [plW, List.range_succ]
theorem plW_len (F : Fc) (L : List UInt8) (p : Int) (k : Nat) : (plW F L p k).length = k := by simp [plW]
/-- Where the letters of the first k words are. -/
def plTo (F : Fc) (ws : List (List UInt8)) : Nat → List Int
  | 0 => []
  | k + 1 => plTo F ws k ++ plW F (ws.getD k []) (preL F ws k) (ws.getD k []).length
def plL (F : Fc) (ws : List (List UInt8)) : List Int := plTo F ws ws.length
theorem plTo_app (F : Fc) (ws r : List (List UInt8)) : ∀ k, k ≤ ws.length → plTo F (ws ++ r) k = plTo F ws k
  | 0, _ => rfl
  | k + 1, h => by
    have ih := plTo_app F ws r k (by omega)
    have e : (ws ++ r).getD k [] = ws.getD k [] := by simp only [List.getD_eq_getElem?_getD]; rw [List.getElem?_append_left (by omega)]
    simp only [plTo, ih, e, preL_app F ws r k (by omega)]
theorem plL_snoc (F : Fc) (ws : List (List UInt8)) (x : List UInt8) : plL F (ws ++ [x]) = plL F ws ++ plW F x (preL F ws ws.length) x.length := by
  unfold plL
  have e : (ws ++ [x]).getD ws.length [] = x := by simp [List.getD_eq_getElem?_getD]
  rw [List.length_append, List.length_singleton]
  simp only [plTo]
  rw [plTo_app F ws [x] _ (Nat.le_refl _), e, preL_app F ws [x] _ (Nat.le_refl _)]
theorem plTo_len {F : Fc} {ws : List (List UInt8)} (h : ∀ x ∈ ws, x.length ≤ 60) : ∀ k, k ≤ ws.length → (plTo F ws k).length ≤ 60 * k
  | 0, _ => by simp [plTo]
  | k + 1, hk => by
    have ih := plTo_len (F := F) h k (by omega)
    have := h _ (getD_mem (ws := ws) (k := k) (by omega))
    simp only [plTo, List.length_append, plW_len]; omega

set_option maxRecDepth 100000 in
set_option maxHeartbeats 16000000 in
theorem placesOf_any (F : Fc) (hF : F.ok) (A : Option Addr) (c : Nat) (s : ByteArray) (w : World) (hv : vface F = true) (ht : vtext s.data.toList = true) (hA : PairsAt w w.heap.size A F.ps) :
    Calls Tryz.prog 110 #[.agg (fc F (.slice A F.ps.length c)).toArray, .string s] w fun e w' => ∃ A' c', e = .returned (.slice A' (plL F (wordsL s.data.toList)).length c') ∧ (plL F (wordsL s.data.toList)).length ≤ c' ∧ IntsIn w' w.heap.size A' (plL F (wordsL s.data.toList)) ∧ Below w.heap.size w w' := by
  refine (callsIn_wide (n := 4)).1 ?_
  refine callsIn_of_wp_marks Tryz.func110 rfl trivial ?_ rfl
  simp only [Tryz.ntmps110, List.size_toArray, List.length_cons, List.length_nil, Nat.reduceAdd, Nat.reduceSub, Array.replicate_succ, Array.replicate_zero, List.push_toArray, List.append_toArray, List.nil_append, List.cons_append]
  have r0 := rangeAt_new w (fc F (.slice A F.ps.length c)) 28
  have hBw : Below w.heap.size w (w.alloc (.cells (fc F (.slice A F.ps.length c)).toArray 28)) := (Below.refl _ _).alloc (Nat.le_refl _) _
  have hs0 : w.heap.size < (w.alloc (.cells (fc F (.slice A F.ps.length c)).toArray 28)).heap.size := by simp
  have HSZ := hide (show (w.alloc (.cells (fc F (.slice A F.ps.length c)).toArray 28)).heap.size = w.heap.size + 1 by simp)
  gi_wp2
  generalize w.alloc (.cells (fc F (.slice A F.ps.length c)).toArray 28) = W0 at *
  gi_wp2_with (refine ⟨trivial, ?_⟩; gi_at_call 120; refine (callsIn_wide.2 (wordsIn_any s _)).mono ?_; rintro e w1 ⟨rfl, HB1, hb1⟩)
  have hs1 := hb1.size
  have hw1 : w.heap.size + 1 + 1 + 1 ≤ w1.heap.size := by have hsz := HSZ.out; simp at hs1; omega
  have cw1 : w1.cell? ⟨w.heap.size + 1, 0, none⟩ = some (.slice none 0 0) := by rw [← HSZ.out]; exact (hb1.cell (p := ⟨W0.heap.size, 0, none⟩) (by simp; omega)).trans (by simp [go_sem])
  have fw1 : w1.frozen? ⟨w.heap.size + 1, 0, none⟩ = false := by rw [← HSZ.out]; exact frozen_below hb1 (by simp; omega) (by simp [go_sem])
  have cl1 : w1.cell? ⟨w.heap.size + 1 + 1, 0, none⟩ = some (.int .i64 0) := by rw [← HSZ.out]; exact (hb1.cell (p := ⟨W0.heap.size + 1, 0, none⟩) (by simp)).trans (by simp [go_sem])
  have fl1 : w1.frozen? ⟨w.heap.size + 1 + 1, 0, none⟩ = false := by rw [← HSZ.out]; exact frozen_below hb1 (by simp) (by simp [go_sem])
  have hb01 : Below W0.heap.size W0 w1 := by
    refine Below.trans ?_ (hb1.mono (by simp; omega))
    first | exact ((Below.refl _ _).alloc (Nat.le_refl _) _).alloc (by simp) _ | exact (((Below.refl _ _).alloc (Nat.le_refl _) _).alloc (by simp) _).setCell (by simp) _
  have row1 := rangeAt_below r0 hb01 hs0
  have hB1 : Below w.heap.size w w1 := hBw.trans (hb01.mono hBw.size)
  have hxs : itW s.data.toList = wordsL s.data.toList := itW_words ht
  obtain ⟨ws, hws⟩ := words_sub ht
  have hwn : ws.length ≤ 61 := by have h1 := congrArg List.length hws; rw [List.length_map, hxs] at h1; have := words_len ht; omega
  have hws' : wds ws = wordsL s.data.toList := hws.trans hxs
  obtain ⟨i0, hi0, hz0, hz1, hz2⟩ := info_parts Tryz.infoI64
  refine words_range s ws hws (by have := (vtext_true.1 ht).1; simp at this; omega) (W0.heap.size + 1 + 1) rfl (by simpa using HB1.out.1) (by simpa using HB1.out.2) rfl
    (fun pre W => (((W.cell? ⟨w.heap.size + 1 + 1, 0, none⟩ = some (.int .i64 (endFrom F 0 (wds pre))) ∧ W.frozen? ⟨w.heap.size + 1 + 1, 0, none⟩ = false) ∧ (∃ v, (W.cell? ⟨w.heap.size + 1, 0, none⟩ = some v ∧ W.frozen? ⟨w.heap.size + 1, 0, none⟩ = false) ∧ W.ownsRow (w.heap.size + 1 + 1 + 1) 2 1 v (plL F (wds pre)).length ((plL F (wds pre)).map (.int .i64)))) ∧ W.rangeAt w.heap.size 0 (fc F (.slice A F.ps.length c))) ∧ Below w.heap.size w W)
    (fun _ _ _ => False) (OwnFrom.and (OwnFrom.and (OwnFrom.and own_cell own_owns) own_row) (ownB_below (Nat.le_refl _) hB1.size)) (fun _ _ _ _ _ hs _ _ => hs) ⟨⟨⟨⟨cl1, fl1⟩, _, ⟨cw1, fw1⟩, World.ownsRow_nil _ _ _ _⟩, row1⟩, hB1⟩
    (fun x => { tmps := #[.agg (fc F (.slice A F.ps.length c)).toArray, .string s, .pointer (some ⟨w.heap.size, 0, none⟩), undef, .slice none 0 0, .pointer (some ⟨w.heap.size + 1, 0, none⟩), .pointer (some ⟨w.heap.size + 1 + 1, 0, none⟩), encStr x.1, undef, .string s, .func (.func 214) #[] #[.pointer (some ⟨W0.heap.size + 1 + 1, 0, none⟩)], encStr x.1, undef, undef, undef, undef, undef, undef, undef, undef, undef, undef, undef, undef, undef, undef, undef, undef, undef, undef, undef, undef, undef, undef, undef, undef, undef, undef, undef, undef, undef, undef, undef, undef, undef, undef, undef, undef], defers := [] }) ?assign ?body ?done ?stop
  case assign =>
    intro l x W K hK
    dsimp only at hK
    gi_wp2
    exact hK
  case stop =>
    rintro D c pre W _ _ h _
    exact h.elim
  case body =>
    rintro l pre x W ⟨⟨⟨⟨hc, hf⟩, v, ⟨hcw, hfw⟩, hown⟩, hrow⟩, hB⟩ hlen
    obtain ⟨s', hs'⟩ : ∃ s' : ByteArray, s' = ⟨x.1.toArray⟩ := ⟨_, rfl⟩
    have hE : encStr x.1 = .string s' := by rw [hs']
    have hX : s'.data.toList = x.1 := congrArg (fun b : ByteArray => b.data.toList) hs'
    dsimp only
    simp only [hE]
    obtain ⟨q1, q2⟩ := endFrom_bd hF hv pre (by omega)
    have hsz : s'.size = x.1.length := congrArg ByteArray.size hs'
    have hs60 : s'.size ≤ 60 := by rw [hsz]; exact x.2.1
    have hcap : allCap s'.data.toList := by rw [hX]; exact x.2.2
    have HII := hide (show (Tryz.prog.info? 28).map (·.size) = some (fc F (.slice A F.ps.length c)).length by rw [fc_length hF.len]; kernel_rfl)
    have hA' : PairsAt W W.heap.size A F.ps := (hA.below hB).mono hB.size
    have hltB := World.block_lt_of_cell? W _ hc
    simp only at hltB
    obtain ⟨sp1, sp2⟩ := sp_bd hv
    have hL60 : (plL F (wds pre)).length ≤ 60 * pre.length := by
      have := plTo_len (F := F) (ws := wds pre) (fun y hy => (wds_ok pre y hy).1) (wds pre).length (Nat.le_refl _)
      rw [wds_len] at this; unfold plL; rw [wds_len]; exact this
    have hEF := endFrom_pre F (wds pre) 0
    have hSN := plL_snoc F (wds pre) x.1
    rw [← hX] at hSN
    rw [wds_len] at hSN
    have hEN := endFrom_snoc F (wds pre) 0 x.1
    have hwide : wideL F x.1 = wideTo F s'.data.toList s'.size := by unfold wideL; rw [← hX]; congr 1
    rw [wds_len, Int.zero_add] at hEF
    rw [← hEF] at hSN
    have hlen2 : s'.data.toList.length = s'.size := by rw [hX]; exact hsz.symm
    rw [hlen2] at hSN
    have HSN := hide (show plL F (wds pre ++ [x.1]) = plL F (wds pre) ++ plW F s'.data.toList (endFrom F 0 (wds pre)) s'.size by rw [← hX]; exact hSN)
    have HEN := hide (hEN.trans (by rw [hwide]))
    have HWSN := hide (wds_snoc pre x)
    have HBD := hide (fun k (hk : k ≤ s'.size) => wideTo_bd hF hv hcap k (by rw [hlen2]; exact hk))
    have HLW := hide (fun i (hi : i < s'.size) => letW_bd hF hv hcap (i := i) (by rw [hlen2]; exact hi))
    have HGB := hide (fun i => gapL_bd hv s'.data.toList i)
    have HC := hide (fun i (hi : i < s'.size) => hcap i (by rw [hlen2]; exact hi))
    have HBY := hide (fun i hi => byteAt_get s' i hi)
    have HST := hide (fun k => show wideTo F s'.data.toList (k + 1) = wideTo F s'.data.toList k + letW F s'.data.toList k + gapL F s'.data.toList k from rfl)
    have HPS := hide (plW_succ F s'.data.toList (endFrom F 0 (wds pre)))
    have HG0 := hide (show gapL F s'.data.toList 0 = 0 from rfl)
    have HGK := hide (fun k (hk : k ≠ 0) => show gapL F s'.data.toList k = F.gp + byL F.ps (byteAt s'.data.toList (k - 1)) (byteAt s'.data.toList k) by simp [gapL, hk])
    have HLET := hide (fun (k : Nat) (hk : k < s'.size) (W' : World) => by
      have h := letterWide_any F hF (.slice A F.ps.length c) (s'[k].toNat : Int) W' (by rw [byteAt_get s' k hk]; exact hcap k (by rw [hlen2]; exact hk))
      have hlet : F.W.getD ((s'[k].toNat : Int) - 65).toNat 0 = letW F s'.data.toList k := by rw [byteAt_get s' k hk]; rfl
      rw [hlet] at h; exact h)
    have HGAP := hide (fun (k : Nat) (hk0 : k ≠ 0) (hk : k < s'.size) (W' : World) (hW : Below w.heap.size w W') => by
      have h := gapOf_any F hF A c ((s'[k - 1]'(Nat.lt_of_le_of_lt (Nat.sub_le k 1) hk)).toNat : Int) (s'[k].toNat : Int) W' hv ((hA.below hW).mono hW.size)
      have e := HGK.out k hk0
      rw [← byteAt_get s' k hk, ← byteAt_get s' (k - 1) (by omega)] at e
      rw [← e] at h
      exact h)
    clear hcap hlen2 hwide hSN hEN hEF hE hX hs' hsz
    generalize hp : endFrom F 0 (wds pre) = p at *
    generalize hPL : plL F (wds pre) = PL at *
    have HP := hide hp
    have HPL := hide hPL
    clear hp hPL
    gi_wp2
    gi_loopw [14] (fun i wr => ∃ k : Nat, k ≤ s'.size ∧ i = .int .i64 k ∧ (wr.cell? ⟨w.heap.size + 1 + 1, 0, none⟩ = some (.int .i64 (p + wideTo F s'.data.toList k)) ∧ wr.frozen? ⟨w.heap.size + 1 + 1, 0, none⟩ = false) ∧ (∃ v', (wr.cell? ⟨w.heap.size + 1, 0, none⟩ = some v' ∧ wr.frozen? ⟨w.heap.size + 1, 0, none⟩ = false) ∧ wr.ownsRow (w.heap.size + 1 + 1 + 1) 2 1 v' (PL.length + k) ((PL ++ plW F s'.data.toList p k).map (.int .i64))) ∧ wr.rangeAt w.heap.size 0 (fc F (.slice A F.ps.length c)) ∧ Below w.heap.size w wr ∧ KeepsOthers W wr ∧ W.heap.size ≤ wr.heap.size)
      (fun i _ => s'.size - (intOf i).toNat)
    case atStart => exact ⟨0, by omega, rfl, ⟨by rw [hc]; simp [wideTo], hf⟩, ⟨v, ⟨hcw, hfw⟩, by simpa [plW] using hown⟩, hrow, hB, keeps_below (Below.refl _ _), Nat.le_refl _⟩
    case round =>
      obtain ⟨k, hk, rfl, ⟨clr, flr⟩, ⟨v', ⟨cwr, fwr⟩, hownr⟩, rowr, hBr, hkr, hzr⟩ := hrel
      clear hc hf hcw hfw hown hrow
      by_cases hlt : k < s'.size
      · have hi : (k : Int) < s'.size := by omega
        have h0 : (0 : Int) ≤ k := by omega
        obtain ⟨l1, l2⟩ := HLW.out k hlt
        obtain ⟨t1, t2⟩ := HBD.out k hk
        obtain ⟨g1, g2⟩ := HGB.out k
        have HLT := hide (HLET.out k hlt)
        have hltr := World.block_lt_of_cell? wr _ clr
        simp only at hltr
        by_cases hk0 : k = 0
        · have hd : decide ((0 : Int) < k) = false := by simp; omega
          have hd' : decide (0 < k) = false := by simp; omega
          have cl6 : wr.cell? ⟨w.heap.size + 1 + 1, 0, none⟩ = some (.int .i64 (p + wideTo F s'.data.toList k + gapL F s'.data.toList k)) := by
            rw [clr]; congr 2; have := HG0.out; rw [hk0, this]; omega
          obtain ⟨w6, hw6⟩ : ∃ w6, w6 = wr := ⟨_, rfl⟩
          have fl6 := flr
          have cw6 := cwr
          have fw6 := fwr
          have hown6 := hownr
          have row6 := rowr
          have hB6 := hBr
          have hk6 := hkr
          have hz6 := hzr
          clear clr flr cwr fwr hownr rowr hBr hkr hzr hk0
          subst hw6
          have hlt6 := World.block_lt_of_cell? w6 _ cl6
          simp only at hlt6
          have hne1 := own_ne hown6 (b := w.heap.size + 1) (by omega)
          have hne2 := own_ne hown6 (b := w.heap.size + 1 + 1) (by omega)
          have hne0 := own_ne hown6 (b := w.heap.size) (by omega)
          gi_wp2_with (gi_at_builtin; refine wpListIn_append_own _ rfl (.tmp 30) (.tmp 32) 33 rfl (w.heap.size + 1 + 1 + 1) 2 i0 (.int .i64 0) 1 8 Tryz.underlying33 hi0 hz0 hz1 hz2 rfl (by decide) v' (PL.length + k) _ rfl (hown6.alloc _) ⟨w6.heap.size, 0, none⟩ 1 1 [.int .i64 (p + wideTo F s'.data.toList k + gapL F s'.data.toList k)] rfl rfl (one_cell _) (one_one rfl) ?c3 ?c4 ?c5 ?_)
          case c3 => unfold maxLen; omega
          case c4 => omega
          case c5 => simp; omega
          intro v7 w7 hown7 hg7 _
          obtain ⟨A7, c7, rfl, _, _⟩ := cellsIn_of_own hown7 (by omega)
          have hg67 : w6.grownBy w7 v'.ownBlock := grown_trans (World.grownBy_alloc w6 _ _) hg7
          have cw7 := hg67.cell cw6 hne1
          have cl7 := hg67.cell cl6 hne2
          have fw7 := grown_frozen hg67 (by omega) hne1 fw6
          have fl7 := grown_frozen hg67 (by omega) hne2 fl6
          have row7 := grown_row hg67 row6 (by omega) hne0
          have hB7 := hB6.trans (grown_toBelow hg67 (by omega) (fun k hk => by have := (hown6.lt k hk).1; omega))
          have hk7 : KeepsOthers W w7 := hk6.trans (KeepsOthers.of_grownBy hg67 (own_cells hown6))
          have hz7 := hg67.size
          have H7 := hide hown7
          clear hown7 hg7 hg67 hown6 cw6 cl6 fw6 fl6 row6 hk6 hne1 hne2 hne0
          gi_wp2
          obtain ⟨w8, hw8⟩ : ∃ w8, w8 = w7.setCell ⟨w.heap.size + 1, 0, none⟩ (.slice A7 (PL.length + k + 1) c7) := ⟨_, rfl⟩
          rw [← hw8]
          have cw8 : w8.cell? ⟨w.heap.size + 1, 0, none⟩ = some (.slice A7 (PL.length + k + 1) c7) := by rw [hw8]; exact World.cell?_setCell_same' _ _ _ (by rw [cw7]; rfl)
          have fw8 : w8.frozen? ⟨w.heap.size + 1, 0, none⟩ = false := by rw [hw8, World.frozen?_setCell]; exact fw7
          have cl8 : w8.cell? ⟨w.heap.size + 1 + 1, 0, none⟩ = some (.int .i64 (p + wideTo F s'.data.toList k + gapL F s'.data.toList k)) := by rw [hw8, World.cell?_setCell_other _ _ _ _ (by intro h; injection h with h _; omega)]; exact cl7
          have fl8 : w8.frozen? ⟨w.heap.size + 1 + 1, 0, none⟩ = false := by rw [hw8, World.frozen?_setCell]; exact fl7
          have row8 : w8.rangeAt w.heap.size 0 (fc F (.slice A F.ps.length c)) := by rw [hw8]; exact rangeAt_far row7 (by show w.heap.size + 1 ≠ _; omega) _
          have hB8 : Below w.heap.size w w8 := by rw [hw8]; exact hB7.setCell (p := ⟨w.heap.size + 1, 0, none⟩) (by show _ ≤ w.heap.size + 1; omega) _
          have hk8 : KeepsOthers W w8 := by rw [hw8]; exact hk7.trans (KeepsOthers.setCell w7 ⟨w.heap.size + 1, 0, none⟩ _)
          have hz8 : w8.heap.size = w7.heap.size := by rw [hw8, size_setCell]
          have H8 := hide (show w8.ownsRow (w.heap.size + 1 + 1 + 1) 2 1 (.slice A7 (PL.length + k + 1) c7) (PL.length + k + 1) _ by rw [hw8]; exact own_set H7.out (by omega) _ _)
          clear hw8 cw7 fw7 cl7 fl7 row7 hB7 hk7 H7
          have hcO := Over.get cl8
          have HROW := hide (over_row row8 (by omega))
          have e9 := IntWalk.i64_in (p + wideTo F s'.data.toList k + gapL F s'.data.toList k + letW F s'.data.toList k) ⟨by omega, by omega⟩
          refine wpIn_region_over_tail 7 (by kernel_rfl) (by kernel_rfl) (by kernel_rfl) ?_
          repeat (first | (refine wpQuietIn_load_row rfl 28 (.tmp 2) rfl _ 0 rfl _ _ HROW.out Tryz.underlying28 rfl HII.out ?_; simp only [Act.put, List.setIfInBounds_toArray, List.set_cons_zero, List.set_cons_succ]) | (refine wpQuietIn_step (fun _ _ _ _ => trivial) (fun K hK => ?_); go_simp; (first | (refine hK _ ?_; clear hK K) | (apply Exists.intro; refine ⟨fun _ => ?_, hK _ ?_⟩; (gi_at_call 118; exact overIn_call (CallsIn.inRound l (callsIn_wide.2 (HLT.out _)))); clear hK K))))
          refine wpQuietIn_nil ?_
          intro w9 hb9
          have hlt8 := World.block_lt_of_cell? w8 _ cl8
          simp only at hlt8
          have cw9 := (hb9.cell (p := ⟨w.heap.size + 1, 0, none⟩) (by show w.heap.size + 1 < _; omega)).trans cw8
          have cl9 := (hb9.cell (p := ⟨w.heap.size + 1 + 1, 0, none⟩) hlt8).trans cl8
          have fw9 := frozen_below (B := w.heap.size + 1) hb9 (by omega) fw8
          have fl9 := frozen_below (B := w.heap.size + 1 + 1) hb9 (by omega) fl8
          have row9 := rangeAt_below row8 hb9 (by omega)
          have hB9 := hB8.trans (hb9.mono hB8.size)
          have hk9 := hk8.trans (keeps_below hb9)
          have hz9 := hb9.size
          have H9 := hide (own_go H8.out hb9)
          clear hcO HROW e9 hb9 cw8 cl8 fw8 fl8 row8 hB8 hk8 H8
          gi_wp2
          refine ⟨⟨k + 1, by omega, by go_num, ⟨?_, ?_⟩, ⟨.slice A7 (PL.length + k + 1) c7, ⟨?_, ?_⟩, ?_⟩, ?_, hB9.setCell (p := ⟨w.heap.size + 1 + 1, 0, none⟩) (by show _ ≤ w.heap.size + 1 + 1; omega) _, hk9.trans (KeepsOthers.setCell _ ⟨w.heap.size + 1 + 1, 0, none⟩ _), by rw [size_setCell]; omega⟩, by simp [intOf]; omega⟩
          · rw [World.cell?_setCell_same' _ _ _ (by rw [cl9]; rfl), HST.out]; congr 2; omega
          · rw [World.frozen?_setCell]; exact fl9
          · rw [World.cell?_setCell_other _ _ _ _ (by intro h; injection h with h _; omega)]; exact cw9
          · rw [World.frozen?_setCell]; exact fw9
          · rw [HPS.out, ← List.append_assoc, List.map_append, List.map_append, List.append_assoc]
            exact own_set (b := w.heap.size + 1 + 1) H9.out (by omega) _ _
          · exact rangeAt_far row9 (by show w.heap.size + 1 + 1 ≠ _; omega) _
        · have hd : decide ((0 : Int) < k) = true := by simp; omega
          have hd' : decide (0 < k) = true := by simp; omega
          have hlt1 : k - 1 < s'.size := by omega
          have j0 : (0 : Int) ≤ (k : Int) - 1 := by omega
          have j00 : (1 : Int) ≤ (k : Int) := by omega
          have j1 : (k : Int) - 1 < s'.size := by omega
          have j2 := IntWalk.i64_in ((k : Int) - 1) ⟨by omega, by omega⟩
          have j3 : ((k : Int) - 1).toNat = k - 1 := by omega
          have e5 := IntWalk.i64_in (p + wideTo F s'.data.toList k + gapL F s'.data.toList k) ⟨by omega, by omega⟩
          have HGO := hide (fun (x : Over wr) => HGAP.out k hk0 hlt x.w (hBr.trans (x.h.mono hBr.size)))
          have hcO := Over.get clr
          have HROW := hide (over_row rowr (by omega))
          clear hk0
          gi_wp2
          refine wpIn_region_over_tail 11 (by kernel_rfl) (by kernel_rfl) (by kernel_rfl) ?_
          repeat (first | (refine wpQuietIn_load_row rfl 28 (.tmp 2) rfl _ 0 rfl _ _ HROW.out Tryz.underlying28 rfl HII.out ?_; simp only [Act.put, List.setIfInBounds_toArray, List.set_cons_zero, List.set_cons_succ]) | (refine wpQuietIn_step (fun _ _ _ _ => trivial) (fun K hK => ?_); go_simp; (first | (refine hK _ ?_; clear hK K) | (apply Exists.intro; refine ⟨fun _ => ?_, hK _ ?_⟩; (gi_at_call 145; exact overIn_call (CallsIn.inRound l (callsIn_wide.2 (HGO.out _)))); clear hK K))))
          refine wpQuietIn_nil ?_
          intro w5 hb5
          have cw5 := (hb5.cell (p := ⟨w.heap.size + 1, 0, none⟩) (by show w.heap.size + 1 < _; omega)).trans cwr
          have cl5 := (hb5.cell (p := ⟨w.heap.size + 1 + 1, 0, none⟩) hltr).trans clr
          have fw5 := frozen_below (B := w.heap.size + 1) hb5 (by omega) fwr
          have fl5 := frozen_below (B := w.heap.size + 1 + 1) hb5 (by omega) flr
          have row5 := rangeAt_below rowr hb5 (by omega)
          have hB5 := hBr.trans (hb5.mono hBr.size)
          have hk5 := hkr.trans (keeps_below hb5)
          have hz5 := hb5.size
          have H5 := hide (own_go hownr hb5)
          clear hcO HROW HGO hb5 clr flr cwr fwr hownr rowr hBr hkr j2 e5
          have cl6 : (w5.setCell ⟨w.heap.size + 1 + 1, 0, none⟩ (.int .i64 (p + wideTo F s'.data.toList k + gapL F s'.data.toList k))).cell? ⟨w.heap.size + 1 + 1, 0, none⟩ = some (.int .i64 (p + wideTo F s'.data.toList k + gapL F s'.data.toList k)) := World.cell?_setCell_same' _ _ _ (by rw [cl5]; rfl)
          have fl6 : (w5.setCell ⟨w.heap.size + 1 + 1, 0, none⟩ (.int .i64 (p + wideTo F s'.data.toList k + gapL F s'.data.toList k))).frozen? ⟨w.heap.size + 1 + 1, 0, none⟩ = false := by rw [World.frozen?_setCell]; exact fl5
          have cw6 : (w5.setCell ⟨w.heap.size + 1 + 1, 0, none⟩ (.int .i64 (p + wideTo F s'.data.toList k + gapL F s'.data.toList k))).cell? ⟨w.heap.size + 1, 0, none⟩ = some v' := by rw [World.cell?_setCell_other _ _ _ _ (by intro h; injection h with h _; omega)]; exact cw5
          have fw6 : (w5.setCell ⟨w.heap.size + 1 + 1, 0, none⟩ (.int .i64 (p + wideTo F s'.data.toList k + gapL F s'.data.toList k))).frozen? ⟨w.heap.size + 1, 0, none⟩ = false := by rw [World.frozen?_setCell]; exact fw5
          have row6 : (w5.setCell ⟨w.heap.size + 1 + 1, 0, none⟩ (.int .i64 (p + wideTo F s'.data.toList k + gapL F s'.data.toList k))).rangeAt w.heap.size 0 (fc F (.slice A F.ps.length c)) := rangeAt_far row5 (by show w.heap.size + 1 + 1 ≠ _; omega) _
          have hB6 : Below w.heap.size w (w5.setCell ⟨w.heap.size + 1 + 1, 0, none⟩ (.int .i64 (p + wideTo F s'.data.toList k + gapL F s'.data.toList k))) := hB5.setCell (p := ⟨w.heap.size + 1 + 1, 0, none⟩) (by show _ ≤ w.heap.size + 1 + 1; omega) _
          have hk6 : KeepsOthers W (w5.setCell ⟨w.heap.size + 1 + 1, 0, none⟩ (.int .i64 (p + wideTo F s'.data.toList k + gapL F s'.data.toList k))) := hk5.trans (KeepsOthers.setCell _ ⟨w.heap.size + 1 + 1, 0, none⟩ _)
          have hown6 := own_set (b := w.heap.size + 1 + 1) H5.out (by omega) 0 (.int .i64 (p + wideTo F s'.data.toList k + gapL F s'.data.toList k))
          have hoc : ∀ (j : Nat) (u : Value), [(.int .i64 (p + wideTo F s'.data.toList k + gapL F s'.data.toList k))][j]? = some u → ((w5.setCell ⟨w.heap.size + 1 + 1, 0, none⟩ (.int .i64 (p + wideTo F s'.data.toList k + gapL F s'.data.toList k))).alloc (.cells #[(.int .i64 (p + wideTo F s'.data.toList k + gapL F s'.data.toList k))] 2)).cell? ((⟨w5.heap.size, 0, none⟩ : Addr).add j) = some u := by
            have h := one_cell (w := (w5.setCell ⟨w.heap.size + 1 + 1, 0, none⟩ (.int .i64 (p + wideTo F s'.data.toList k + gapL F s'.data.toList k)))) (t := 2) (.int .i64 (p + wideTo F s'.data.toList k + gapL F s'.data.toList k))
            rwa [size_setCell] at h
          have hz6 : W.heap.size ≤ (w5.setCell ⟨w.heap.size + 1 + 1, 0, none⟩ (.int .i64 (p + wideTo F s'.data.toList k + gapL F s'.data.toList k))).heap.size := by rw [size_setCell]; omega
          have hzs : (w5.setCell ⟨w.heap.size + 1 + 1, 0, none⟩ (.int .i64 (p + wideTo F s'.data.toList k + gapL F s'.data.toList k))).heap.size = w5.heap.size := size_setCell _ _ _
          clear cw5 fw5 row5 hB5 hk5 H5
          have hlt6 := World.block_lt_of_cell? (w5.setCell ⟨w.heap.size + 1 + 1, 0, none⟩ (.int .i64 (p + wideTo F s'.data.toList k + gapL F s'.data.toList k))) _ cl6
          simp only at hlt6
          have hne1 := own_ne hown6 (b := w.heap.size + 1) (by omega)
          have hne2 := own_ne hown6 (b := w.heap.size + 1 + 1) (by omega)
          have hne0 := own_ne hown6 (b := w.heap.size) (by omega)
          gi_wp2_with (gi_at_builtin; refine wpListIn_append_own _ rfl (.tmp 30) (.tmp 32) 33 rfl (w.heap.size + 1 + 1 + 1) 2 i0 (.int .i64 0) 1 8 Tryz.underlying33 hi0 hz0 hz1 hz2 rfl (by decide) v' (PL.length + k) _ rfl (hown6.alloc _) ⟨w5.heap.size, 0, none⟩ 1 1 [.int .i64 (p + wideTo F s'.data.toList k + gapL F s'.data.toList k)] rfl rfl hoc (one_one rfl) ?c3 ?c4 ?c5 ?_)
          case c3 => unfold maxLen; omega
          case c4 => omega
          case c5 => simp; omega
          intro v7 w7 hown7 hg7 _
          obtain ⟨A7, c7, rfl, _, _⟩ := cellsIn_of_own hown7 (by omega)
          have hg67 : (w5.setCell ⟨w.heap.size + 1 + 1, 0, none⟩ (.int .i64 (p + wideTo F s'.data.toList k + gapL F s'.data.toList k))).grownBy w7 v'.ownBlock := grown_trans (World.grownBy_alloc (w5.setCell ⟨w.heap.size + 1 + 1, 0, none⟩ (.int .i64 (p + wideTo F s'.data.toList k + gapL F s'.data.toList k))) _ _) hg7
          have cw7 := hg67.cell cw6 hne1
          have cl7 := hg67.cell cl6 hne2
          have fw7 := grown_frozen hg67 (by omega) hne1 fw6
          have fl7 := grown_frozen hg67 (by omega) hne2 fl6
          have row7 := grown_row hg67 row6 (by omega) hne0
          have hB7 := hB6.trans (grown_toBelow hg67 (by omega) (fun k hk => by have := (hown6.lt k hk).1; omega))
          have hk7 : KeepsOthers W w7 := hk6.trans (KeepsOthers.of_grownBy hg67 (own_cells hown6))
          have hz7 := hg67.size
          have H7 := hide hown7
          clear hown7 hg7 hg67 hown6 cw6 cl6 fw6 fl6 row6 hk6 hne1 hne2 hne0
          gi_wp2
          obtain ⟨w8, hw8⟩ : ∃ w8, w8 = w7.setCell ⟨w.heap.size + 1, 0, none⟩ (.slice A7 (PL.length + k + 1) c7) := ⟨_, rfl⟩
          rw [← hw8]
          have cw8 : w8.cell? ⟨w.heap.size + 1, 0, none⟩ = some (.slice A7 (PL.length + k + 1) c7) := by rw [hw8]; exact World.cell?_setCell_same' _ _ _ (by rw [cw7]; rfl)
          have fw8 : w8.frozen? ⟨w.heap.size + 1, 0, none⟩ = false := by rw [hw8, World.frozen?_setCell]; exact fw7
          have cl8 : w8.cell? ⟨w.heap.size + 1 + 1, 0, none⟩ = some (.int .i64 (p + wideTo F s'.data.toList k + gapL F s'.data.toList k)) := by rw [hw8, World.cell?_setCell_other _ _ _ _ (by intro h; injection h with h _; omega)]; exact cl7
          have fl8 : w8.frozen? ⟨w.heap.size + 1 + 1, 0, none⟩ = false := by rw [hw8, World.frozen?_setCell]; exact fl7
          have row8 : w8.rangeAt w.heap.size 0 (fc F (.slice A F.ps.length c)) := by rw [hw8]; exact rangeAt_far row7 (by show w.heap.size + 1 ≠ _; omega) _
          have hB8 : Below w.heap.size w w8 := by rw [hw8]; exact hB7.setCell (p := ⟨w.heap.size + 1, 0, none⟩) (by show _ ≤ w.heap.size + 1; omega) _
          have hk8 : KeepsOthers W w8 := by rw [hw8]; exact hk7.trans (KeepsOthers.setCell w7 ⟨w.heap.size + 1, 0, none⟩ _)
          have hz8 : w8.heap.size = w7.heap.size := by rw [hw8, size_setCell]
          have H8 := hide (show w8.ownsRow (w.heap.size + 1 + 1 + 1) 2 1 (.slice A7 (PL.length + k + 1) c7) (PL.length + k + 1) _ by rw [hw8]; exact own_set H7.out (by omega) _ _)
          clear hw8 cw7 fw7 cl7 fl7 row7 hB7 hk7 H7
          have hcO := Over.get cl8
          have HROW := hide (over_row row8 (by omega))
          have e9 := IntWalk.i64_in (p + wideTo F s'.data.toList k + gapL F s'.data.toList k + letW F s'.data.toList k) ⟨by omega, by omega⟩
          refine wpIn_region_over_tail 7 (by kernel_rfl) (by kernel_rfl) (by kernel_rfl) ?_
          repeat (first | (refine wpQuietIn_load_row rfl 28 (.tmp 2) rfl _ 0 rfl _ _ HROW.out Tryz.underlying28 rfl HII.out ?_; simp only [Act.put, List.setIfInBounds_toArray, List.set_cons_zero, List.set_cons_succ]) | (refine wpQuietIn_step (fun _ _ _ _ => trivial) (fun K hK => ?_); go_simp; (first | (refine hK _ ?_; clear hK K) | (apply Exists.intro; refine ⟨fun _ => ?_, hK _ ?_⟩; (gi_at_call 118; exact overIn_call (CallsIn.inRound l (callsIn_wide.2 (HLT.out _)))); clear hK K))))
          refine wpQuietIn_nil ?_
          intro w9 hb9
          have hlt8 := World.block_lt_of_cell? w8 _ cl8
          simp only at hlt8
          have cw9 := (hb9.cell (p := ⟨w.heap.size + 1, 0, none⟩) (by show w.heap.size + 1 < _; omega)).trans cw8
          have cl9 := (hb9.cell (p := ⟨w.heap.size + 1 + 1, 0, none⟩) hlt8).trans cl8
          have fw9 := frozen_below (B := w.heap.size + 1) hb9 (by omega) fw8
          have fl9 := frozen_below (B := w.heap.size + 1 + 1) hb9 (by omega) fl8
          have row9 := rangeAt_below row8 hb9 (by omega)
          have hB9 := hB8.trans (hb9.mono hB8.size)
          have hk9 := hk8.trans (keeps_below hb9)
          have hz9 := hb9.size
          have H9 := hide (own_go H8.out hb9)
          clear hcO HROW e9 hb9 cw8 cl8 fw8 fl8 row8 hB8 hk8 H8
          gi_wp2
          refine ⟨⟨k + 1, by omega, by go_num, ⟨?_, ?_⟩, ⟨.slice A7 (PL.length + k + 1) c7, ⟨?_, ?_⟩, ?_⟩, ?_, hB9.setCell (p := ⟨w.heap.size + 1 + 1, 0, none⟩) (by show _ ≤ w.heap.size + 1 + 1; omega) _, hk9.trans (KeepsOthers.setCell _ ⟨w.heap.size + 1 + 1, 0, none⟩ _), by rw [size_setCell]; omega⟩, by simp [intOf]; omega⟩
          · rw [World.cell?_setCell_same' _ _ _ (by rw [cl9]; rfl), HST.out]; congr 2; omega
          · rw [World.frozen?_setCell]; exact fl9
          · rw [World.cell?_setCell_other _ _ _ _ (by intro h; injection h with h _; omega)]; exact cw9
          · rw [World.frozen?_setCell]; exact fw9
          · rw [HPS.out, ← List.append_assoc, List.map_append, List.map_append, List.append_assoc]
            exact own_set (b := w.heap.size + 1 + 1) H9.out (by omega) _ _
          · exact rangeAt_far row9 (by show w.heap.size + 1 + 1 ≠ _; omega) _
      · obtain rfl : k = s'.size := by omega
        obtain ⟨t1, t2⟩ := HBD.out s'.size (Nat.le_refl _)
        have e7 := IntWalk.i64_in F.sp ⟨by omega, by omega⟩
        have e8 := IntWalk.i64_in (p + wideTo F s'.data.toList s'.size + F.sp) ⟨by omega, by omega⟩
        have x26 := rangeAt_cell rowr (fc_sp hF.len _)
        have HO := hide hownr
        have hltr := World.block_lt_of_cell? wr _ clr
        simp only at hltr
        clear hownr
        gi_wp2
        have hk9 := hkr.trans (KeepsOthers.setCell wr ⟨w.heap.size + 1 + 1, 0, none⟩ (.int .i64 (p + wideTo F s'.data.toList s'.size + F.sp)))
        refine ⟨hk9, hk9.walks, ⟨⟨⟨?_, ?_⟩, v', ⟨?_, ?_⟩, ?_⟩, ?_⟩, hBr.setCell (p := ⟨w.heap.size + 1 + 1, 0, none⟩) (by show _ ≤ w.heap.size + 1 + 1; omega) _⟩
        · rw [World.cell?_setCell_same' _ _ _ (by rw [clr]; rfl), HWSN.out, HEN.out]
        · rw [World.frozen?_setCell]; exact flr
        · rw [World.cell?_setCell_other _ _ _ _ (by intro h; injection h with h _; omega)]; exact cwr
        · rw [World.frozen?_setCell]; exact fwr
        · rw [HWSN.out, HSN.out, List.length_append, plW_len]
          exact own_set (b := w.heap.size + 1 + 1) HO.out (by omega) _ _
        · exact rangeAt_far rowr (by show w.heap.size + 1 + 1 ≠ _; omega) _
  case done =>
    rintro D W hD ⟨⟨⟨⟨hc, hf⟩, v, ⟨hcw, hfw⟩, hown⟩, hrow⟩, hB⟩ hK
    obtain ⟨A', c', rfl, hc', hI⟩ := cellsIn_putObj hown (by omega) hK rfl
    have hX : plL F (wds ws) = plL F (wordsL s.data.toList) := by rw [hws']
    rw [hX] at hI hc'
    have HI := hide hI
    have HX := hide hc'
    clear hown hrow hc hf hfw hc' hI hX
    gi_wp2
    refine ⟨by simp, .inl ⟨_, _, rfl, run_takeDeferred hK, ?_⟩⟩
    refine ⟨_, results_tmp rfl _ _ _, ⟨A', c', rfl, HX.out, ((IntsIn.of_cells (HI.out _)).wider (by omega)), hB.trans (belowK_b (w := w) (Nat.le_refl _) W D _ _ (by have := hB1.size; omega) hK rfl rfl)⟩⟩
end Go.Proofs.YtngondeaeipcfaaGreatDoor
