/- Where the words of a text are, if it is one line: the program's spans. -/
import Derived.Test.YtgklhdacnklhdaaImplLine
import Derived.Test.YtgklhdacnklhdaaG2
namespace Go.Proofs.Ytgklhdacnklhdaa
open Go Go.RowKit Go.Shelf Go.Sort
attribute [local go_sem] Oper.semAt_some

/-- The cells of the spans, from p on. -/
def spanFrom (F : Fc) (p : Int) : List (List UInt8) → List Value
  | [] => []
  | x :: r => .int .i64 p :: .int .i64 (p + wideL F x) :: spanFrom F (p + wideL F x + F.sp) r
/-- Where the next word begins. -/
def endFrom (F : Fc) (p : Int) : List (List UInt8) → Int
  | [] => p
  | x :: r => endFrom F (p + wideL F x + F.sp) r
theorem spanFrom_len (F : Fc) : ∀ (ws : List (List UInt8)) (p : Int), (spanFrom F p ws).length = ws.length * 2
  | [], _ => rfl
  | x :: r, p => by have := spanFrom_len F r (p + wideL F x + F.sp); simp only [spanFrom, List.length_cons, this]; omega
theorem spanFrom_snoc (F : Fc) : ∀ (ws : List (List UInt8)) (p : Int) (x : List UInt8), spanFrom F p (ws ++ [x]) = spanFrom F p ws ++ [.int .i64 (endFrom F p ws), .int .i64 (endFrom F p ws + wideL F x)]
  | [], _, _ => rfl
  | y :: r, p, x => by have := spanFrom_snoc F r (p + wideL F y + F.sp) x; simp only [List.cons_append, spanFrom, endFrom, this]
theorem endFrom_snoc (F : Fc) : ∀ (ws : List (List UInt8)) (p : Int) (x : List UInt8), endFrom F p (ws ++ [x]) = endFrom F p ws + wideL F x + F.sp
  | [], _, _ => rfl
  | y :: r, p, x => by have := endFrom_snoc F r (p + wideL F y + F.sp) x; simp only [List.cons_append, endFrom, this]
theorem preL_cons (F : Fc) (x : List UInt8) (r : List (List UInt8)) : ∀ k, preL F (x :: r) (k + 1) = wideL F x + F.sp + preL F r k
  | 0 => by simp [preL]
  | k + 1 => by have := preL_cons F x r k; rw [preL, this]; simp only [preL, List.getD_cons_succ]; omega
theorem spanFrom_get (F : Fc) : ∀ (ws : List (List UInt8)) (p : Int) (k : Nat), k < ws.length → (spanFrom F p ws)[2 * k]? = some (.int .i64 (p + preL F ws k)) ∧ (spanFrom F p ws)[2 * k + 1]? = some (.int .i64 (p + preL F ws k + wideL F (ws.getD k [])))
  | [], _, _, h => by simp at h
  | x :: r, p, 0, _ => by simp [spanFrom, preL]
  | x :: r, p, k + 1, h => by
    have ih := spanFrom_get F r (p + wideL F x + F.sp) k (by simpa using h)
    have e1 : 2 * (k + 1) = 2 * k + 1 + 1 := by omega
    have e2 : 2 * (k + 1) + 1 = (2 * k + 1) + 1 + 1 := by omega
    rw [e2, e1, preL_cons]
    simp only [spanFrom, List.getElem?_cons_succ, List.getD_cons_succ, ih.1, ih.2]
    constructor <;> (congr 2; omega)
theorem endFrom_pre (F : Fc) : ∀ (ws : List (List UInt8)) (p : Int), endFrom F p ws = p + preL F ws ws.length
  | [], p => by simp [endFrom, preL]
  | x :: r, p => by rw [endFrom, endFrom_pre F r, List.length_cons, preL_cons]; omega
/-- The words that have come. -/
def wds (pre : List Wd) : List (List UInt8) := pre.map (·.1)
theorem wds_len (pre : List Wd) : (wds pre).length = pre.length := by simp [wds]
theorem wds_ok (pre : List Wd) : ∀ x ∈ wds pre, x.length ≤ 60 ∧ allCap x := by
  intro x hx
  obtain ⟨y, _, rfl⟩ := List.mem_map.1 hx
  exact y.2
theorem wds_snoc (pre : List Wd) (x : Wd) : wds (pre ++ [x]) = wds pre ++ [x.1] := by simp [wds]
theorem endFrom_bd {F : Fc} (hF : F.ok) (h : vface F = true) (pre : List Wd) (hn : pre.length ≤ 61) : 0 ≤ endFrom F 0 (wds pre) ∧ endFrom F 0 (wds pre) ≤ 222040 := by
  have := preL_bd hF h (wds_ok pre) (wds pre).length (Nat.le_refl _)
  rw [endFrom_pre]
  simp only [wds, List.length_map] at *
  omega

theorem ret_slice {A : Option Addr} {n m c : Nat} (h : n = m) : Ending.returned (.slice A n c) = .returned (.slice A m c) := by rw [h]
theorem Try.infoSpan : (Try.prog.info? 252).map (fun i => (i.zero, i.size, i.bytes)) = some (some (.agg #[.int .i64 0, .int .i64 0]), 2, 16) := by kernel_rfl

set_option maxRecDepth 100000 in
set_option maxHeartbeats 8000000 in
theorem spansOf_any (F : Fc) (hF : F.ok) (A : Option Addr) (c : Nat) (s : ByteArray) (w : World) (hv : vface F = true) (ht : vtext s.data.toList = true) (hA : PairsAt w w.heap.size A F.ps) :
    Calls Try.prog 143 #[.agg (fc F (.slice A F.ps.length c)).toArray, .string s] w fun e w' => ∃ A' c', e = .returned (.slice A' (wordsL s.data.toList).length c') ∧ (wordsL s.data.toList).length ≤ c' ∧ CellsIn w' w.heap.size A' (spanFrom F 0 (wordsL s.data.toList)) ∧ Below w.heap.size w w' := by
  refine (callsIn_wide (n := 4)).1 ?_
  refine callsIn_of_wp_marks Try.func143 rfl trivial ?_ rfl
  simp only [Try.ntmps143, List.size_toArray, List.length_cons, List.length_nil, Nat.reduceAdd, Nat.reduceSub, Array.replicate_succ, Array.replicate_zero, List.push_toArray, List.append_toArray, List.nil_append, List.cons_append]
  have r0 := rangeAt_new w (fc F (.slice A F.ps.length c)) 32
  have hBw : Below w.heap.size w (w.alloc (.cells (fc F (.slice A F.ps.length c)).toArray 32)) := (Below.refl _ _).alloc (Nat.le_refl _) _
  have hs0 : w.heap.size < (w.alloc (.cells (fc F (.slice A F.ps.length c)).toArray 32)).heap.size := by simp
  have HSZ := hide (show (w.alloc (.cells (fc F (.slice A F.ps.length c)).toArray 32)).heap.size = w.heap.size + 1 by simp)
  gi_wp2
  generalize w.alloc (.cells (fc F (.slice A F.ps.length c)).toArray 32) = W0 at *
  gi_wp2_with (refine ⟨trivial, ?_⟩; gi_at_call 88; refine (callsIn_wide.2 (wordsIn_any s _)).mono ?_; rintro e w1 ⟨rfl, HB1, hb1⟩)
  have hs1 := hb1.size
  have hw1 : w.heap.size + 1 + 1 + 1 ≤ w1.heap.size := by have hsz := HSZ.out; simp at hs1; omega
  have cw1 : w1.cell? ⟨w.heap.size + 1, 0, none⟩ = some (.slice none 0 0) := by rw [← HSZ.out]; exact (hb1.cell (p := ⟨W0.heap.size, 0, none⟩) (by simp; omega)).trans (by simp [go_sem])
  have fw1 : w1.frozen? ⟨w.heap.size + 1, 0, none⟩ = false := by rw [← HSZ.out]; exact frozen_below hb1 (by simp; omega) (by simp [go_sem])
  have cl1 : w1.cell? ⟨w.heap.size + 1 + 1, 0, none⟩ = some (.int .i64 0) := by rw [← HSZ.out]; exact (hb1.cell (p := ⟨W0.heap.size + 1, 0, none⟩) (by simp)).trans (by simp [go_sem])
  have fl1 : w1.frozen? ⟨w.heap.size + 1 + 1, 0, none⟩ = false := by rw [← HSZ.out]; exact frozen_below hb1 (by simp) (by simp [go_sem])
  have hb01 : Below W0.heap.size W0 w1 := by
    refine Below.trans ?_ (hb1.mono (by simp; omega))
    first | exact ((Below.refl _ _).alloc (Nat.le_refl _) _).alloc (by simp) _ | exact (((Below.refl _ _).alloc (Nat.le_refl _) _).alloc (by simp) _).setCell (by simp) _
  have row1 := rangeAt_below r0 hb01 hs0
  have hB1 : Below w.heap.size w w1 := hBw.trans (hb01.mono hBw.size)
  have hxs : itW s.data.toList = wordsL s.data.toList := itW_words ht
  obtain ⟨ws, hws⟩ := words_sub ht
  have hwn : ws.length ≤ 61 := by have h1 := congrArg List.length hws; rw [List.length_map, hxs] at h1; have := words_len ht; omega
  have hws' : wds ws = wordsL s.data.toList := hws.trans hxs
  obtain ⟨i0, hi0, hz0, hz1, hz2⟩ := info_parts Try.infoSpan
  refine words_range s ws hws (by have := (vtext_true.1 ht).1; simp at this; omega) (W0.heap.size + 1 + 1) rfl (by simpa using HB1.out.1) (by simpa using HB1.out.2) rfl
    (fun pre W => (((W.cell? ⟨w.heap.size + 1 + 1, 0, none⟩ = some (.int .i64 (endFrom F 0 (wds pre))) ∧ W.frozen? ⟨w.heap.size + 1 + 1, 0, none⟩ = false) ∧ (∃ v, (W.cell? ⟨w.heap.size + 1, 0, none⟩ = some v ∧ W.frozen? ⟨w.heap.size + 1, 0, none⟩ = false) ∧ W.ownsRow (w.heap.size + 1 + 1 + 1) 252 2 v pre.length (spanFrom F 0 (wds pre)))) ∧ W.rangeAt w.heap.size 0 (fc F (.slice A F.ps.length c))) ∧ Below w.heap.size w W)
    (fun _ _ _ => False) (OwnFrom.and (OwnFrom.and (OwnFrom.and own_cell own_owns) own_row) (ownB_below (Nat.le_refl _) hB1.size)) (fun _ _ _ _ _ hs _ _ => hs) ⟨⟨⟨⟨cl1, fl1⟩, _, ⟨cw1, fw1⟩, World.ownsRow_nil _ _ _ _⟩, row1⟩, hB1⟩
    (fun x => { tmps := #[.agg (fc F (.slice A F.ps.length c)).toArray, .string s, .pointer (some ⟨w.heap.size, 0, none⟩), undef, .slice none 0 0, .pointer (some ⟨w.heap.size + 1, 0, none⟩), .pointer (some ⟨w.heap.size + 1 + 1, 0, none⟩), encStr x.1, undef, .string s, .func (.func 147) #[] #[.pointer (some ⟨W0.heap.size + 1 + 1, 0, none⟩)], encStr x.1, undef, undef, undef, undef, undef, undef, undef, undef, undef, undef, undef, undef, undef, undef, undef, undef, undef], defers := [] }) ?assign ?body ?done ?stop
  case assign =>
    intro l x W K hK
    gi_wp2
    exact hK
  case stop =>
    rintro D c pre W _ _ h _
    exact h.elim
  case body =>
    rintro l pre x W ⟨⟨⟨⟨hc, hf⟩, v, ⟨hcw, hfw⟩, hown⟩, hrow⟩, hB⟩ hlen
    obtain ⟨q1, q2⟩ := endFrom_bd hF hv pre (by omega)
    obtain ⟨p1, p2⟩ := wideL_bd hF hv x.2.2 x.2.1
    obtain ⟨sp1, sp2⟩ := sp_bd hv
    have e6 := IntWalk.i64_in (endFrom F 0 (wds pre) + wideL F x.1) ⟨by omega, by omega⟩
    have HWW := hide (fun W' => wordWide_any F hF A c ⟨x.1.toArray⟩ W' hv x.2.2 (by simpa [ByteArray.size] using x.2.1))
    have HII := hide (show (Try.prog.info? 32).map (·.size) = some (fc F (.slice A F.ps.length c)).length by rw [fc_length hF.len]; kernel_rfl)
    have hA' : PairsAt W W.heap.size A F.ps := (hA.below hB).mono hB.size
    have hltB := World.block_lt_of_cell? W _ hc
    simp only at hltB
    have hcO := Over.get hc
    have HROW := hide (over_row hrow (by omega))
    gi_wp2
    refine wpIn_region_over (by kernel_rfl) (by kernel_rfl) (by kernel_rfl) ?_
    repeat (first | (refine wpQuietIn_load_row rfl 32 (.tmp 2) rfl _ 0 rfl _ _ HROW.out Try.underlying32 rfl HII.out ?_; simp only [Act.put, List.setIfInBounds_toArray, List.set_cons_zero, List.set_cons_succ]) | (refine wpQuietIn_step (fun _ _ _ _ => trivial) (fun K hK => ?_); go_simp; (first | (refine hK _ ?_; clear hK K) | (apply Exists.intro; refine ⟨fun _ => ?_, hK _ ?_⟩; (gi_at_call 186; exact overIn_call (CallsIn.inRound l (callsIn_wide.2 (HWW.out _ (hA'.below (Over.h _) |>.mono (Over.size _)))))); clear hK K))))
    refine wpQuietIn_nil ?_
    intro w2 hb2
    have cw2 := (hb2.cell (p := ⟨w.heap.size + 1, 0, none⟩) (by show w.heap.size + 1 < _; omega)).trans hcw
    have cl2 := (hb2.cell (p := ⟨w.heap.size + 1 + 1, 0, none⟩) hltB).trans hc
    have fw2 := frozen_below (B := w.heap.size + 1) hb2 (by omega) hfw
    have fl2 := frozen_below (B := w.heap.size + 1 + 1) hb2 (by omega) hf
    have row2 := rangeAt_below hrow hb2 (by omega)
    have hown2 := own_go hown hb2
    have hB2 := hB.trans (hb2.mono hB.size)
    have hk2 : KeepsOthers W w2 := keeps_below hb2
    have hs2 := hb2.size
    clear hcO HROW hA' HWW hc hf hcw hfw hrow hown hb2 e6
    have e7 := IntWalk.i64_in F.sp ⟨by omega, by omega⟩
    have e8 := IntWalk.i64_in (endFrom F 0 (wds pre) + wideL F x.1 + F.sp) ⟨by omega, by omega⟩
    have x26 := rangeAt_cell row2 (fc_sp hF.len _)
    have hne1 := own_ne hown2 (b := w.heap.size + 1) (by omega)
    have hne2 := own_ne hown2 (b := w.heap.size + 1 + 1) (by omega)
    have hne0 := own_ne hown2 (b := w.heap.size) (by omega)
    generalize hEP : endFrom F 0 (wds pre) = p at *
    have HEP := hide hEP
    clear hEP
    gi_wp2_with (gi_at_builtin; refine wpListIn_append_own _ rfl (.tmp 17) (.tmp 21) 106 rfl (w.heap.size + 1 + 1 + 1) 252 i0 (.agg #[.int .i64 0, .int .i64 0]) 2 16 Try.underlying106 hi0 hz0 hz1 hz2 rfl (by decide) v pre.length (spanFrom F 0 (wds pre)) rfl (hown2.alloc _) ⟨w2.heap.size, 0, none⟩ 1 1 [.int .i64 p, .int .i64 (p + wideL F x.1)] rfl rfl ?c1 ?c2 ?c3 ?c4 ?c5 ?_)
    case c1 =>
      intro j u hj
      match j, hj with
      | 0, hj => simp at hj; subst hj; simp [Addr.add]
      | 1, hj => simp at hj; subst hj; simp [Addr.add]
    case c2 => intro u hu; simp at hu; rcases hu with rfl | rfl <;> rfl
    case c3 => unfold maxLen; omega
    case c4 => omega
    case c5 => simp; omega
    intro v' w3 hown3 hg3 _
    obtain ⟨A3, c3, rfl, _, _⟩ := cellsIn_of_own hown3 (by omega)
    have hg23 : w2.grownBy w3 v.ownBlock := grown_trans (World.grownBy_alloc w2 _ _) hg3
    have cw3 := hg23.cell cw2 hne1
    have cl3 := hg23.cell cl2 hne2
    have fw3 := grown_frozen hg23 (by omega) hne1 fw2
    have fl3 := grown_frozen hg23 (by omega) hne2 fl2
    have x263 := hg23.cell x26 hne0
    have row3 := grown_row hg23 row2 (by omega) hne0
    have hB3 := hB2.trans (grown_toBelow hg23 (by omega) (fun k hk => by have := (hown2.lt k hk).1; omega))
    have hk3 : KeepsOthers W w3 := hk2.trans (KeepsOthers.of_grownBy hg23 (own_cells hown2))
    have H3 := hide hown3
    clear hown3 hg3 hg23 hown2 cw2 cl2 fw2 fl2 x26 row2 hk2 hne1 hne2 hne0
    gi_wp2
    have hk := (hk3.trans (KeepsOthers.setCell w3 ⟨w.heap.size + 1, 0, none⟩ (.slice A3 (pre.length + 1) c3))).trans (KeepsOthers.setCell _ ⟨w.heap.size + 1 + 1, 0, none⟩ (.int .i64 (p + wideL F x.1 + F.sp)))
    refine ⟨hk, hk.walks, ⟨⟨⟨?_, ?_⟩, .slice A3 (pre.length + 1) c3, ⟨?_, ?_⟩, ?_⟩, ?_⟩, (hB3.setCell (p := ⟨w.heap.size + 1, 0, none⟩) (by show _ ≤ w.heap.size + 1; omega) _).setCell (p := ⟨w.heap.size + 1 + 1, 0, none⟩) (by show _ ≤ w.heap.size + 1 + 1; omega) _⟩
    · rw [wds_snoc, endFrom_snoc, HEP.out]
      exact World.cell?_setCell_same' _ _ _ (by rw [World.cell?_setCell_other _ _ _ _ (by intro h; injection h with h _; omega), cl3]; rfl)
    · rw [World.frozen?_setCell, World.frozen?_setCell]; exact fl3
    · rw [World.cell?_setCell_other _ _ _ _ (by intro h; injection h with h _; omega)]
      exact World.cell?_setCell_same' _ _ _ (by rw [cw3]; rfl)
    · rw [World.frozen?_setCell, World.frozen?_setCell]; exact fw3
    · rw [wds_snoc, spanFrom_snoc, HEP.out, List.length_append]
      exact own_set (own_set H3.out (by omega) _ _) (by omega) _ _
    · exact rangeAt_far (rangeAt_far row3 (by show w.heap.size + 1 ≠ _; omega) _) (by show w.heap.size + 1 + 1 ≠ _; omega) _
  case done =>
    rintro D W hD ⟨⟨⟨⟨hc, hf⟩, v, ⟨hcw, hfw⟩, hown⟩, hrow⟩, hB⟩ hK
    obtain ⟨A', c', rfl, hc', hI⟩ := cellsIn_putObj hown (by omega) hK rfl
    have hlen : ws.length = (wordsL s.data.toList).length := by rw [← wds_len, hws']
    have HX := hide (show (wordsL s.data.toList).length ≤ c' by omega)
    rw [hws'] at hI
    have HI := hide hI
    have HL := hide hlen
    clear hown hrow hc hf hfw hc' hI hlen
    gi_wp2
    refine ⟨by simp, .inl ⟨_, _, rfl, run_takeDeferred hK, ?_⟩⟩
    refine ⟨_, results_tmp rfl _ _ _, ⟨A', c', ?_, HX.out, (HI.out _).wider (by omega), hB.trans (belowK_b (w := w) (Nat.le_refl _) W D _ _ (by have := hB1.size; omega) hK rfl rfl)⟩⟩
    exact ret_slice HL.out
end Go.Proofs.Ytgklhdacnklhdaa
