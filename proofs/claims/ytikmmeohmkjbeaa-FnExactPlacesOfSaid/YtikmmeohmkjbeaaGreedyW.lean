/- Greedy breaks: the program's. -/
import Derived.Test.YtikmmeohmkjbeaaMeasW
namespace Go.Proofs.Ytikmmeohmkjbeaa
open Go Go.RowKit

theorem gTo_next {F : Fc} {ws : List (List UInt8)} {x : Int} {k : Nat} (h1 : (gTo F ws x k).1 < k) (h2 : x < lineL F (seg ws (gTo F ws x k).1 (k + 1))) : gTo F ws x (k + 1) = (k, (gTo F ws x k).2 ++ [(k : Int)]) := by
  rw [gTo, if_pos ⟨h1, h2⟩]
theorem gTo_same {F : Fc} {ws : List (List UInt8)} {x : Int} {k : Nat} (h : ¬ ((gTo F ws x k).1 < k ∧ x < lineL F (seg ws (gTo F ws x k).1 (k + 1)))) : gTo F ws x (k + 1) = gTo F ws x k := by
  rw [gTo, if_neg h]

/-- Numbers come back, in memory of the call's own. -/
def IntsRet (xs : List Int) (w : World) : Ending → World → Prop := fun e w' =>
  ∃ A c, e = .returned (.slice A xs.length c) ∧ IntsIn w' w.heap.size A xs ∧ Below w.heap.size w w'

set_option maxRecDepth 100000 in
set_option maxHeartbeats 4000000 in
theorem greedyBreaks_any (F : Fc) (ws : List (List UInt8)) (A' : Option Addr) (c' : Nat) (x : Int) (w : World) (x0 : 0 ≤ x) (x1 : x ≤ 4000) (hn : ws.length ≤ 61) (hc' : ws.length ≤ c')
    (hpb : ∀ k, k ≤ ws.length → 0 ≤ preL F ws k ∧ preL F ws k ≤ 3640 * (k : Int)) (hmem : ∀ k, k < ws.length → 0 ≤ wideL F (ws.getD k []) ∧ wideL F (ws.getD k []) ≤ 3600) (hS : CellsAt w w.heap.size A' (spanFrom F 0 ws)) :
    Calls Try.prog 102 #[.slice A' ws.length c', .int .i64 x] w (IntsRet (greedyL F ws x) w) := by
  obtain ⟨i0, hi0, hz0, hz1, hz2⟩ := info_parts Try.infoI64
  have HPB := hide hpb
  have HMEM := hide hmem
  have HG := hide (show greedyL F ws x = (gTo F ws x ws.length).2 from rfl)
  obtain ⟨n, hlen⟩ : ∃ n, n = ws.length := ⟨_, rfl⟩
  rw [← hlen] at hn hc' HPB HMEM HG ⊢
  have HL := hide hlen
  have HBD := hide (gTo_bd F ws x)
  clear hpb hmem hlen
  go_enter Try.func102, Try.ntmps102
  go_wp2
  go_loopw [5, 6, 10] (fun br f i wr => ∃ k : Nat, k ≤ n ∧ i = .int .i64 k ∧ f = .int .i64 ((gTo F ws x k).1 : Nat) ∧ wr.ownsRow w.heap.size 2 1 br (gTo F ws x k).2.length ((gTo F ws x k).2.map (.int .i64)) ∧ Below w.heap.size w wr)
    (fun _ _ i _ => n - (intOf i).toNat)
  case atStart => exact ⟨0, by omega, rfl, rfl, World.ownsRow_nil _ _ _ _, Below.refl _ _⟩
  case round =>
    obtain ⟨k, hk, rfl, rfl, hown, hB⟩ := hrel
    obtain ⟨Ab, cb, rfl, _, _⟩ := cellsIn_of_own hown (by omega)
    have hgb := HBD.out k
    by_cases hlt : k < n
    · have hi : (k : Int) < n := by omega
      have h0 : (0 : Int) ≤ k := by omega
      by_cases hfk : (gTo F ws x k).1 < k
      · have HNX := hide (fun h2 => gTo_next (F := F) (ws := ws) (x := x) hfk h2)
        have HSM := hide (fun (h2 : ¬ x < lineL F (seg ws (gTo F ws x k).1 (k + 1))) => gTo_same (F := F) (ws := ws) (x := x) (k := k) (fun h => h2 h.2))
        obtain ⟨f, hf⟩ : ∃ f, (gTo F ws x k).1 = f := ⟨_, rfl⟩
        obtain ⟨bs, hbs⟩ : ∃ f, (gTo F ws x k).2 = f := ⟨_, rfl⟩
        rw [hf] at hfk hgb HNX HSM ⊢
        rw [hbs] at hgb hown HNX ⊢
        have HF0 := hide hf
        have HBS := hide hbs
        have hfi : (f : Int) < k := by omega
        have hfi2 : (f : Int) ≤ (k : Int) + 1 := by omega
        have hfc : (f : Int) < c' := by omega
        have hkc : (k : Int) + 1 ≤ c' := by omega
        have hf0 : (0 : Int) ≤ f := by omega
        have j1 := IntWalk.i64_in ((k : Int) + 1) ⟨by omega, by omega⟩
        have hne : spanFrom F 0 ws ≠ [] := by intro e; have := congrArg List.length e; rw [spanFrom_len, ← HL.out] at this; simp at this; omega
        obtain ⟨b, o, rfl, _⟩ := hS hne
        have hends := ends_seg ((hS.below hB).mono hB.size) (a := f) (k := k + 1) (by omega) (by rw [← HL.out]; omega)
        have hrs := room_seg F ws x (a := f) (k := k + 1) (by omega) (by rw [← HL.out]; omega)
        clear hf hbs hne
        have hp1 := HPB.out f (by omega)
        have hp2 := HPB.out k (by omega)
        have hm := HMEM.out k hlt
        rw [Nat.add_sub_cancel] at hends hrs
        have hfb : fitsB x (preL F ws f) (preL F ws k + wideL F (ws.getD k [])) (k + 1 - f) = decide (lineL F (seg ws f (k + 1)) ≤ x) := by
          unfold fitsB; rw [hrs]; unfold roomL; congr 1; exact propext ⟨fun h => by omega, fun h => by omega⟩
        have HF := hide (fits_any (some ⟨b, o + f * 2, none⟩) (k + 1 - f) (c' - f) x _ _ wr (by omega) ⟨x0, x1⟩ ⟨hp1.1, by omega⟩ ⟨by omega, by omega⟩ hends)
        rw [hfb] at HF
        clear hends hrs hp1 hp2 hm hfb
        by_cases hw : lineL F (seg ws f (k + 1)) ≤ x
        · have HSTEP := hide (HSM.out (by omega))
          rw [decide_eq_true hw] at HF
          clear hw
          go_wp2_with (go_at_call 145; refine HF.out.mono ?_; rintro e w3 ⟨rfl, hb3⟩)
          exact ⟨⟨k + 1, by omega, by go_num, by rw [HSTEP.out, HF0.out], by rw [HSTEP.out, HBS.out]; exact own_go hown hb3, hB.trans (hb3.mono hB.size)⟩, by simp [intOf]; omega⟩
        · have HSTEP := hide (HNX.out (by omega))
          rw [decide_eq_false hw] at HF
          have HOWN := hide hown
          clear hw hown
          go_wp2_with fail
          refine HF.out.mono ?_
          rintro e w3 ⟨rfl, hb3⟩
          have hs3 := hb3.size
          have hown3 := own_go HOWN.out hb3
          have hB3 := hB.trans (hb3.mono hB.size)
          have hBs := hB.size
          go_wp2_with (at_builtin; refine wpList_append_own _ rfl (.tmp 26) (.tmp 28) 27 rfl w.heap.size 2 i0 (.int .i64 0) 1 8 Try.underlying27 hi0 hz0 hz1 hz2 rfl (by decide) _ bs.length _ rfl (hown3.alloc _) ⟨w3.heap.size, 0, none⟩ 1 1 [.int .i64 k] rfl rfl ?c1 ?c2 ?c3 ?c4 ?c5 ?_)
          case c1 =>
            intro j u hj
            match j, hj with
            | 0, hj => simp at hj; subst hj; simp [Addr.add]
          case c2 => intro u hu; simp at hu; subst hu; rfl
          case c3 => unfold maxLen; omega
          case c4 => omega
          case c5 => simp; omega
          intro v' w4 hown4 hg4 _
          obtain ⟨A4, c4, rfl, _, _⟩ := cellsIn_of_own hown4 (by omega)
          have H4 := hide hown4
          have hg34 : w3.grownBy w4 _ := grown_trans (World.grownBy_alloc w3 _ _) hg4
          have hB4 := hB3.trans (grown_toBelow hg34 (by omega) (fun k hk => (hown3.lt k hk).1))
          clear hown4 hg4 hg34 hown3 hb3
          go_wp2
          refine ⟨⟨k + 1, by omega, by go_num, by rw [HSTEP.out], ?_, hB4⟩, by simp [intOf]; omega⟩
          rw [HSTEP.out, List.length_append, List.map_append]
          exact H4.out
      · have hk0 : k = 0 := by omega
        subst hk0
        have HSTEP := hide (gTo_one F ws x)
        have HZ := hide (show gTo F ws x 0 = (0, []) from rfl)
        rw [HZ.out] at hown ⊢
        clear hfk hgb
        go_wp2
        refine ⟨⟨1, by omega, by go_num, ?_, ?_, hB⟩, by simp [intOf]; omega⟩
        · rw [HSTEP.out]
        · rw [HSTEP.out]; exact hown
    · obtain rfl : k = n := by omega
      obtain ⟨Ag, cg, e, _, hI⟩ := intsIn_of_own hown
      injection e with e1 e2 e3
      subst e1 e3
      have HI := hide hI
      clear hown hI
      go_wp2
      go_ret
      exact ⟨Ab, cb, ret_slice (by rw [HG.out]), by rw [HG.out]; exact HI.out, hB⟩
end Go.Proofs.Ytikmmeohmkjbeaa
