/- BestFill of the program. -/
import Derived.Test.YtajlbfbpkafjfaaBfI
namespace Go.Proofs.Ytajlbfbpkafjfaa
open Go.RowKit

theorem Try.infoCh : (Try.prog.info? 106).map (fun i => (i.zero, i.size, i.bytes)) = some (some (.agg #[.int .i64 0, .int .i64 0]), 2, 16) := by kernel_rfl
theorem offS_no {F : Fc} {L : List UInt8} {x : Int} (h : vtext L = false) : ¬ 0 ≤ offS F L x := by unfold offS; rw [h]; show ¬ (0 : Int) ≤ -1; decide
theorem offS_yes {F : Fc} (hF : F.ok) (hv : vface F = true) {L : List UInt8} {x : Int} (hx : inB x 0 4000 = true) (h : vtext L = true) : 0 ≤ offS F L x ∧ offV F L x = offS F L x := by
  have := (offI_bd hF hv h hx).2.2.2.2
  unfold offS offV; rw [h]; exact ⟨this, rfl⟩

set_option maxRecDepth 100000 in
set_option maxHeartbeats 8000000 in
theorem implBestFill_any (F : Fc) (hF : F.ok) (A : Option Addr) (c : Nat) (l : ByteArray) (hl : l.size ≤ 1048576) (r : ByteArray) (hr : r.size ≤ 1048576) (T : Option Addr) (ts : List ByteArray) (ct : Nat) (htn : ts.length ≤ maxLen) (htx : ∀ x ∈ ts, x.size ≤ maxLen) (x : Int) (w : World) (hG : Glob w) (hA : PairsAt w w.heap.size A F.ps) (hT : StrsAt w w.heap.size T ts) :
    Calls Try.prog 34 #[.agg (fc F (.slice A F.ps.length c)).toArray, .string l, .string r, .slice T ts.length ct, .int .i64 x] w fun e w' => e = .returned (.tuple #[.int .i64 (bfR F l r ts x).1, .int .i64 (bfR F l r ts x).2.1, .int .i64 (bfR F l r ts x).2.2]) ∧ Below w.heap.size w w' := by
  obtain ⟨i0, hi0, hz0, hz1, hz2⟩ := info_parts Try.infoCh
  have hW := hide hF.len
  have HI29 := hide (show (Try.prog.info? 38).map (·.size) = some (fc F (.slice A F.ps.length c)).length from by rw [fc_length hW.out]; kernel_rfl)
  have HI33 := hide (show (Try.prog.info? 93).map (·.size) = some (blc F (.slice A F.ps.length c) l r x 0).length from by rw [blc_len hW.out]; kernel_rfl)
  have hbt := built_bl hW.out (.slice A F.ps.length c) l r x 0
  have hone := blc_one F A F.ps.length c l r x 0
  have r0 := rangeAt_new w (fc F (.slice A F.ps.length c)) 38
  have t3 : ((w.alloc (.cells (fc F (.slice A F.ps.length c)).toArray 38)).alloc (.cells #[.int .i8 0, .int .i8 0, .int .i8 0, .int .i8 0, .int .i8 0, .int .i8 0, .int .i8 0, .int .i8 0, .int .i8 0, .int .i8 0, .int .i8 0, .int .i8 0, .int .i8 0, .int .i8 0, .int .i8 0, .int .i8 0, .int .i8 0, .int .i8 0, .int .i8 0, .int .i8 0, .int .i8 0, .int .i8 0, .int .i8 0, .int .i8 0, .int .i8 0, .int .i8 0, .int .i8 0, .int .i8 0, .slice none 0 0, .string ⟨#[]⟩, .string ⟨#[]⟩, .int .i64 0, .int .i64 0] 93)).there (w.heap.size + 1) 0 33 := there_newg (by simp) rfl
  have t3' : ((w.alloc (.cells (fc F (.slice A F.ps.length c)).toArray 38)).alloc (.cells #[.int .i8 0, .int .i8 0, .int .i8 0, .int .i8 0, .int .i8 0, .int .i8 0, .int .i8 0, .int .i8 0, .int .i8 0, .int .i8 0, .int .i8 0, .int .i8 0, .int .i8 0, .int .i8 0, .int .i8 0, .int .i8 0, .int .i8 0, .int .i8 0, .int .i8 0, .int .i8 0, .int .i8 0, .int .i8 0, .int .i8 0, .int .i8 0, .int .i8 0, .int .i8 0, .int .i8 0, .int .i8 0, .slice none 0 0, .string ⟨#[]⟩, .string ⟨#[]⟩, .int .i64 0, .int .i64 0] 93)).there (w.heap.size + 1) 0 (blc F (.slice A F.ps.length c) l r x 0).toArray.size := by
    have e : (blc F (.slice A F.ps.length c) l r x 0).toArray.size = 33 := by rw [List.size_toArray, blc_len hW.out]
    rw [e]; exact t3
  obtain ⟨W3, hW3⟩ : ∃ W3, W3 = ((w.alloc (.cells (fc F (.slice A F.ps.length c)).toArray 38)).alloc (.cells #[.int .i8 0, .int .i8 0, .int .i8 0, .int .i8 0, .int .i8 0, .int .i8 0, .int .i8 0, .int .i8 0, .int .i8 0, .int .i8 0, .int .i8 0, .int .i8 0, .int .i8 0, .int .i8 0, .int .i8 0, .int .i8 0, .int .i8 0, .int .i8 0, .int .i8 0, .int .i8 0, .int .i8 0, .int .i8 0, .int .i8 0, .int .i8 0, .int .i8 0, .int .i8 0, .int .i8 0, .int .i8 0, .slice none 0 0, .string ⟨#[]⟩, .string ⟨#[]⟩, .int .i64 0, .int .i64 0] 93)).setCells (w.heap.size + 1) 0 (blc F (.slice A F.ps.length c) l r x 0).toArray.toList := ⟨_, rfl⟩
  have hb3 : Below w.heap.size w W3 := by rw [hW3]; exact below_setCells _ _ _ _ (((Below.refl _ _).alloc (Nat.le_refl _) _).alloc (by simp) _) (by omega)
  have hs3 : w.heap.size + 1 < W3.heap.size := by rw [hW3, size_setCells]; simp
  have q3 : W3.rangeAt (w.heap.size + 1) 0 (blc F (.slice A F.ps.length c) l r x 0) := by rw [hW3]; exact World.rangeAt_setCells_same _ _ _ _ t3'
  have HW3 := hide hW3
  have HA3 := hide ((hA.below hb3).mono hb3.size)
  have HG3 := hide (hG.below hb3)
  have HT3 := hide ((hT.below hb3).mono hb3.size)
  have HCK := hide (fun W h1 h2 h3 => checkB_any F hF A c l r x 0 T ts ct W hl hr htn htx h1 h2 h3)
  clear hW3
  by_cases hcode : flC F l.data.toList r.data.toList ts x 0 = 0
  · have HP : Hid (bfR F l r ts x = chR (chs (bfO F l r ts x) ts.length)) := hide (bf_ok hcode)
    obtain ⟨z1, z2, z3, _, _, _⟩ := fl_zero hcode
    obtain ⟨hl12, hall⟩ := vlist_true.1 z2
    have HALL := hide hall
    have HOB := hide (fun m (hm : m.size ≤ 20) W (hW : Below W3.heap.size W3 W) => offBy_any F hF A c l r m x 0 W hl hr (by omega) z1 z3 (HA3.out.go hW (Nat.le_refl _)))
    have HBO := hide (fun k m => @bfO_at F l r m ts x k)
    have HNO := hide (fun L => @offS_no F L x)
    have HYE := hide (fun L => @offS_yes F hF z1 L x z3)
    have HCY := hide (fun k => @chs_yes (bfO F l r ts x) k)
    have HCN := hide (fun k => @chs_no (bfO F l r ts x) k)
    have HLN := hide (fun k => chs_len (bfO F l r ts x) k)
    have HC0 : Hid (chs (bfO F l r ts x) 0 = []) := hide rfl
    rw [hcode] at HCK
    obtain ⟨n, hL⟩ : ∃ n, ts.length = n := ⟨_, rfl⟩
    have HL := hide hL
    rw [hL] at hl12 HP HCK ⊢
    clear hA hT hG htn htx hL hall hcode
    generalize bfR F l r ts x = V at *
    generalize bfO F l r ts x = O at *
    generalize hcs : blc F (.slice A F.ps.length c) l r x 0 = cs at *
    go_enter Try.func34, Try.ntmps34
    repeat (first | (refine wpList_load_mid rfl 38 (.tmp 5) rfl _ 0 rfl (fc F (.slice A F.ps.length c)) _ r0 Try.underlying38 rfl HI29.out ?_) | (refine wpList_build_eq rfl 93 _ rfl hbt (by first | (simp only [List.map_toArray, List.map_cons, List.map_nil]; rfl) | kernel_rfl) ?_) | (refine wpList_store_mid rfl 93 (.tmp 13) (.tmp 24) rfl (w.heap.size + 1) 0 cs.toArray rfl rfl t3' HI33.out hone ?_; rw [← HW3.out]) | (refine wpList_load_mid rfl 93 (.tmp 13) rfl _ 0 rfl cs _ q3 Try.underlying93 rfl HI33.out ?_) | go_step)
    refine (HCK.out _ HG3.out HA3.out HT3.out).mono ?_
    rintro e w4 ⟨rfl, hb4⟩
    clear r0 t3 t3'
    go_wp2
    go_loopw [15, 33] (fun br i wr => ∃ k : Nat, k ≤ n ∧ i = .int .i64 k ∧ wr.ownsRow w4.heap.size 106 2 br (chs O k).length ((fl (chs O k)).map (.int .i64)) ∧ Below w4.heap.size w4 wr)
      (fun _ i _ => n - (intOf i).toNat)
    case atStart => exact ⟨0, by omega, rfl, by rw [HC0.out]; exact World.ownsRow_nil _ _ _ _, Below.refl _ _⟩
    case round =>
      obtain ⟨k, hk, rfl, hown, hB⟩ := hrel
      have hln := HLN.out k
      obtain ⟨Ab, cbb, rfl, hcap, _⟩ := cellsIn_of_own hown (by omega)
      have hbs := hB.size
      have HOWN := hide hown
      clear hown
      have hB3 := hb4.trans (hB.mono hb4.size)
      by_cases hlt : k < n
      · obtain ⟨b, o, rfl, hb, hxs⟩ := HT3.out (by intro e; rw [e] at HL; have := HL.out; simp at this; omega)
        obtain ⟨m, hmk⟩ : ∃ m, ts[k]? = some m := ⟨ts[k]'(by rw [HL.out]; exact hlt), List.getElem?_eq_getElem _⟩
        have c0 : wr.cell? ⟨b, o + k, none⟩ = some (.string m) := (hB3.cell (p := ⟨b, o + k, none⟩) hb).trans (hxs k m hmk)
        have hi : (k : Int) < n := by omega
        have h0 : (0 : Int) ≤ k := by omega
        have hms := (lw_true (lw_mem HALL.out (List.mem_of_getElem? hmk))).2.1
        have HOF := hide (HOB.out m hms wr hB3)
        have HOV := hide (HBO.out k m hmk)
        have HY := hide (HCY.out k)
        have HN := hide (HCN.out k)
        have HN2 := hide (HNO.out (l ++ m ++ r).data.toList)
        have HY2 := hide (HYE.out (l ++ m ++ r).data.toList)
        have q4 := rangeAt_below q3 hB3 hs3
        rw [HOV.out] at HY HN
        clear hxs hmk
        cases hvt : vtext (l ++ m ++ r).data.toList
        · have HE := hide (HN.out (HN2.out hvt))
          rw [hvt] at HOF
          generalize offV F (l ++ m ++ r).data.toList x = U at *
          go_wp2_with (refine wpList_load_mid rfl 93 (.tmp 13) rfl _ 0 rfl cs _ q4 Try.underlying93 rfl HI33.out ?_)
          refine HOF.out.mono ?_
          rintro e w5 ⟨rfl, hb5⟩
          clear c0 q4
          go_wp2
          refine ⟨⟨k + 1, by omega, by go_num, ?_, hB.trans (hb5.mono hbs)⟩, by simp [intOf]; omega⟩
          rw [HE.out]
          exact own_go HOWN.out hb5
        · obtain ⟨hp0, hp1⟩ := HY2.out hvt
          have HE := hide (HY.out hp0)
          rw [hvt, hp1] at HOF
          clear hp1 hp0
          generalize offS F (l ++ m ++ r).data.toList x = U at *
          go_wp2_with (refine wpList_load_mid rfl 93 (.tmp 13) rfl _ 0 rfl cs _ q4 Try.underlying93 rfl HI33.out ?_)
          refine HOF.out.mono ?_
          rintro e w5 ⟨rfl, hb5⟩
          have hown5 := own_go HOWN.out hb5
          have hB5 := hB.trans (hb5.mono hbs)
          have hs5 := hB5.size
          clear c0 q4 hb5
          go_wp2_with (at_builtin; refine wpList_append_own _ rfl (.tmp 45) (.tmp 49) 102 rfl w4.heap.size 106 i0 (.agg #[.int .i64 0, .int .i64 0]) 2 16 Try.underlying102 hi0 hz0 hz1 hz2 rfl (by decide) _ (chs O k).length _ rfl (hown5.alloc _) ⟨w5.heap.size, 0, none⟩ 1 1 [.int .i64 (k : Int), .int .i64 U] rfl rfl (two_cell _ _) (two_one rfl rfl) ?h1 ?h2 ?h3 ?_)
          case h1 => unfold maxLen; omega
          case h2 => omega
          case h3 => simp; omega
          intro v' w6 hown6 hg6 _
          obtain ⟨A6, c6, rfl, _, _⟩ := cellsIn_of_own hown6 (by omega)
          have H6 := hide hown6
          have hg56 : w5.grownBy w6 _ := grown_trans (World.grownBy_alloc w5 _ _) hg6
          have hB6 := hB5.trans (grown_toBelow hg56 (by omega) (fun k hk => (hown5.lt k hk).1))
          clear hown6 hg6 hg56 hown5
          go_wp2
          refine ⟨⟨k + 1, by omega, by go_num, ?_, hB6⟩, by simp [intOf]; omega⟩
          rw [HE.out, fl_app, List.map_append, List.length_append]
          exact H6.out
      · obtain rfl : k = n := by omega
        obtain ⟨Ag, cg, e, _, hI⟩ := p2In_of_own HOWN.out
        injection e with e1' e2' e3'
        subst e1' e3'
        have HLC := hide (leastChoice_any Ab (chs O k) cbb wr (by omega) hI.at_)
        rw [← HP.out] at HLC
        have hfin := hb3.trans (hB3.mono hb3.size)
        clear hI
        generalize (chs O k).length = nn at *
        go_wp2_with fail
        refine HLC.out.mono ?_
        rintro e w7 ⟨rfl, hb7⟩
        go_wp2
        go_ret3
        exact ⟨rfl, hfin.trans (hb7.mono hfin.size)⟩
  · have HP := hide (bf_no hcode)
    have hd : (flC F l.data.toList r.data.toList ts x 0 != 0) = true := by simpa using hcode
    have HNE := hide hcode
    clear hA hT hG htn htx hcode
    generalize bfR F l r ts x = V at *
    generalize flC F l.data.toList r.data.toList ts x 0 = C at *
    generalize ts.length = n at *
    generalize hcs : blc F (.slice A F.ps.length c) l r x 0 = cs at *
    go_enter Try.func34, Try.ntmps34
    repeat (first | (refine wpList_load_mid rfl 38 (.tmp 5) rfl _ 0 rfl (fc F (.slice A F.ps.length c)) _ r0 Try.underlying38 rfl HI29.out ?_) | (refine wpList_build_eq rfl 93 _ rfl hbt (by first | (simp only [List.map_toArray, List.map_cons, List.map_nil]; rfl) | kernel_rfl) ?_) | (refine wpList_store_mid rfl 93 (.tmp 13) (.tmp 24) rfl (w.heap.size + 1) 0 cs.toArray rfl rfl t3' HI33.out hone ?_; rw [← HW3.out]) | (refine wpList_load_mid rfl 93 (.tmp 13) rfl _ 0 rfl cs _ q3 Try.underlying93 rfl HI33.out ?_) | go_step)
    refine (HCK.out _ HG3.out HA3.out HT3.out).mono ?_
    rintro e w4 ⟨rfl, hb4⟩
    clear r0 t3 t3'
    go_wp2
    go_ret3
    exact ⟨rt3_of HP.out, hb3.trans (hb4.mono hb3.size)⟩
end Go.Proofs.Ytajlbfbpkafjfaa
