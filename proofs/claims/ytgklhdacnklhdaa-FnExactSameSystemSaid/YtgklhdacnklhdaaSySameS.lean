/- The model's SameSystem. -/
import Derived.Test.YtgklhdacnklhdaaSySame
namespace Go.Proofs.Ytgklhdacnklhdaa
open Go.RowKit

set_option maxRecDepth 100000 in
set_option maxHeartbeats 4000000 in
theorem specSameSystem_any (S T : Sy) (hS : S.ok) (hT : T.ok) (A D A' D' : Option Addr) (c d c' d' : Nat) (w : World) (hA : SyAt w w.heap.size A D S) (hA' : SyAt w w.heap.size A' D' T) :
    Calls Try.prog 43 #[sv S A D c d, sv T A' D' c' d'] w fun e w' => e = .returned (.bool (sameS S T)) ∧ Below w.heap.size w w' := by
  obtain ⟨ps, qs⟩ := S
  obtain ⟨ps', qs'⟩ := T
  have hn := hS.n
  have hm := hS.m
  have hn' := hT.n
  have hm' := hT.m
  simp only at hn hm hn' hm'
  unfold maxLen at hn hm hn' hm'
  have hs : sameS ⟨ps, qs⟩ ⟨ps', qs'⟩ = (decide (ps = ps') && decide (qs = qs')) := rfl
  have HS := hide hs
  clear hs
  generalize sameS ⟨ps, qs⟩ ⟨ps', qs'⟩ = C at *
  have b0 : Below w.heap.size w ((w.alloc (Obj.cells #[.slice A ps.length c, .slice D qs.length d] 69)).alloc (Obj.cells #[.slice A' ps'.length c', .slice D' qs'.length d'] 69)) :=
    ((Below.refl _ _).alloc (Nat.le_refl _) _).alloc (by simp) _
  have r0 : ((w.alloc (Obj.cells #[.slice A ps.length c, .slice D qs.length d] 69)).alloc (Obj.cells #[.slice A' ps'.length c', .slice D' qs'.length d'] 69)).rangeAt w.heap.size 0 [.slice A ps.length c, .slice D qs.length d] :=
    World.rangeAt_alloc (rangeAt_new w [.slice A ps.length c, .slice D qs.length d] _) _
  have r1 : ((w.alloc (Obj.cells #[.slice A ps.length c, .slice D qs.length d] 69)).alloc (Obj.cells #[.slice A' ps'.length c', .slice D' qs'.length d'] 69)).rangeAt (w.heap.size + 1) 0 [.slice A' ps'.length c', .slice D' qs'.length d'] :=
    rangeAt_newg (by simp) rfl
  have x0 := rangeAt_cell r0 (k := 0) rfl
  have x1 := rangeAt_cell r0 (k := 1) rfl
  have y0 := rangeAt_cell r1 (k := 0) rfl
  have y1 := rangeAt_cell r1 (k := 1) rfl
  have BA : SgAt _ _ A ps ∧ A2At _ _ D qs := hA.below b0
  have BA' : SgAt _ _ A' ps' ∧ A2At _ _ D' qs' := hA'.below b0
  have HR := hide run_neq_sign
  have HR2 := hide run_neq_a2
  clear hA hA' r0 r1
  by_cases hl : ps.length = ps'.length
  · by_cases hl2 : qs.length = qs'.length
    · have hln : ((ps.length : Int) != ps'.length) = false := by simp [hl]
      have hln2 : (ps.length != ps'.length) = false := by simp [hl]
      have hlm : ((qs.length : Int) != qs'.length) = false := by simp [hl2]
      have hlm2 : (qs.length != qs'.length) = false := by simp [hl2]
      have HL := hide hl
      have HL2 := hide hl2
      clear hl hl2
      go_enter Try.func43, Try.ntmps43
      go_wp2
      clear hln hln2 hlm hlm2
      generalize ((w.alloc (Obj.cells #[.slice A ps.length c, .slice D qs.length d] 69)).alloc (Obj.cells #[.slice A' ps'.length c', .slice D' qs'.length d'] 69)) = W0 at *
      go_loopw [5] (fun i wr => ∃ k m : Nat, k ≤ ps.length ∧ i = .int .i64 k ∧ wr = W0.drewN m ∧ Hid (eqUp ps ps' k))
        (fun i _ => ps.length - (intOf i).toNat)
      case atStart => exact ⟨0, 0, by omega, rfl, rfl, hide (fun j hj => absurd hj (by omega))⟩
      case round =>
        obtain ⟨k, m, hk, rfl, rfl, hg⟩ := hrel
        by_cases hlt : k < ps.length
        · have hlt' : k < ps'.length := by rw [← HL.out]; exact hlt
          obtain ⟨b, o, rfl, hb, hps⟩ := BA.1 (by intro e; rw [e] at hlt; simp at hlt)
          obtain ⟨b', o', rfl, hb', hps'⟩ := BA'.1 (by intro e; rw [e] at hlt'; simp at hlt')
          obtain ⟨p, hp⟩ : ∃ p, ps[k]? = some p := ⟨ps[k]'hlt, List.getElem?_eq_getElem _⟩
          obtain ⟨q, hqq⟩ : ∃ q, ps'[k]? = some q := ⟨ps'[k]'hlt', List.getElem?_eq_getElem _⟩
          have hcell := hps k p hp
          have hcell' := hps' k q hqq
          obtain ⟨x, y⟩ := p
          obtain ⟨x', y'⟩ := q
          have c0 : W0.cell? ⟨b, o + k * 2, none⟩ = some (.int .u8 x) := hcell 0 _ rfl
          have c1 : W0.cell? ⟨b, o + k * 2 + 1, none⟩ = some (.int .i16 y) := hcell 1 _ rfl
          have d0 : W0.cell? ⟨b', o' + k * 2, none⟩ = some (.int .u8 x') := hcell' 0 _ rfl
          have d1 : W0.cell? ⟨b', o' + k * 2 + 1, none⟩ = some (.int .i16 y') := hcell' 1 _ rfl
          have hi : (k : Int) < ps.length := by omega
          have hi' : (k : Int) < ps'.length := by omega
          have h0 : (0 : Int) ≤ k := by omega
          have hr := fun w => HR.out x y x' y' w
          cases hd : decide ((x, y) = (x', y'))
          · simp only [hd] at hr
            go_wp2
            go_quiet (fail)
            clear c0 c1 d0 d1 hr x0 x1 y0 y1
            go_wp2
            go_ret
            refine ⟨ret_bool ?_, below_drewN (below_drewN b0 _) _⟩
            have hne : ps ≠ ps' := fun e => by rw [e, hqq] at hp; injection hp with hp; rw [hp] at hd; simp at hd
            rw [HS.out, decide_eq_false hne]; rfl
          · simp only [hd] at hr
            go_wp2
            go_quiet (fail)
            clear c0 c1 d0 d1 hr
            go_wp2
            exact ⟨⟨k + 1, _, by omega, by go_num, rfl, hide (eqUp_succ hg.out (by rw [hp, hqq, of_decide_eq_true hd]))⟩, by simp [intOf]; omega⟩
        · obtain rfl : k = ps.length := by omega
          have HE := hide (eqUp_all HL.out hg.out)
          clear hg hlt
          go_wp2
          go_loopw [6] (fun i wr => ∃ k m : Nat, k ≤ qs.length ∧ i = .int .i64 k ∧ wr = W0.drewN m ∧ Hid (eqUp qs qs' k))
            (fun i _ => qs.length - (intOf i).toNat)
          case atStart => exact ⟨0, _, by omega, rfl, rfl, hide (fun j hj => absurd hj (by omega))⟩
          case round =>
            obtain ⟨k, m', hk, rfl, rfl, hg⟩ := hrel
            by_cases hlt : k < qs.length
            · have hlt' : k < qs'.length := by rw [← HL2.out]; exact hlt
              obtain ⟨b, o, rfl, hb, hps⟩ := BA.2 (by intro e; rw [e] at hlt; simp at hlt)
              obtain ⟨b', o', rfl, hb', hps'⟩ := BA'.2 (by intro e; rw [e] at hlt'; simp at hlt')
              obtain ⟨p, hp⟩ : ∃ p, qs[k]? = some p := ⟨qs[k]'hlt, List.getElem?_eq_getElem _⟩
              obtain ⟨q, hqq⟩ : ∃ q, qs'[k]? = some q := ⟨qs'[k]'hlt', List.getElem?_eq_getElem _⟩
              have hcell := hps k p hp
              have hcell' := hps' k q hqq
              obtain ⟨x, y⟩ := p
              obtain ⟨x', y'⟩ := q
              have c0 : W0.cell? ⟨b, o + k * 2, none⟩ = some (.int .u8 x) := hcell 0 _ rfl
              have c1 : W0.cell? ⟨b, o + k * 2 + 1, none⟩ = some (.int .u8 y) := hcell 1 _ rfl
              have d0 : W0.cell? ⟨b', o' + k * 2, none⟩ = some (.int .u8 x') := hcell' 0 _ rfl
              have d1 : W0.cell? ⟨b', o' + k * 2 + 1, none⟩ = some (.int .u8 y') := hcell' 1 _ rfl
              have hi : (k : Int) < qs.length := by omega
              have hi' : (k : Int) < qs'.length := by omega
              have h0 : (0 : Int) ≤ k := by omega
              have hr := fun w => HR2.out x y x' y' w
              cases hd : decide ((x, y) = (x', y'))
              · simp only [hd] at hr
                go_wp2
                go_quiet (fail)
                clear c0 c1 d0 d1 hr x0 x1 y0 y1
                go_wp2
                go_ret
                refine ⟨ret_bool ?_, below_drewN (below_drewN b0 _) _⟩
                have hne : qs ≠ qs' := fun e => by rw [e, hqq] at hp; injection hp with hp; rw [hp] at hd; simp at hd
                rw [HS.out, decide_eq_false hne]; simp
              · simp only [hd] at hr
                go_wp2
                go_quiet (fail)
                clear c0 c1 d0 d1 hr
                go_wp2
                exact ⟨⟨k + 1, _, by omega, by go_num, rfl, hide (eqUp_succ hg.out (by rw [hp, hqq, of_decide_eq_true hd]))⟩, by simp [intOf]; omega⟩
            · obtain rfl : k = qs.length := by omega
              go_wp2
              go_ret
              refine ⟨ret_bool ?_, below_drewN b0 _⟩
              rw [HS.out, decide_eq_true HE.out, decide_eq_true (eqUp_all HL2.out hg.out)]; rfl
    · have hln : ((ps.length : Int) != ps'.length) = false := by simp [hl]
      have hln2 : (ps.length != ps'.length) = false := by simp [hl]
      have hlm : ((qs.length : Int) != qs'.length) = true := by simp; omega
      have hlm2 : (qs.length != qs'.length) = true := by simp; omega
      have HN := hide hl2
      clear hl hl2
      go_enter Try.func43, Try.ntmps43
      go_wp2
      go_ret
      exact ⟨ret_bool (by rw [HS.out, decide_eq_false (fun e => HN.out (by rw [e])) (p := qs = qs')]; simp), b0⟩
  · have hln : ((ps.length : Int) != ps'.length) = true := by simp; omega
    have hln2 : (ps.length != ps'.length) = true := by simp; omega
    have HN := hide hl
    clear hl
    go_enter Try.func43, Try.ntmps43
    go_wp2
    go_ret
    exact ⟨ret_bool (by rw [HS.out, decide_eq_false (fun e => HN.out (by rw [e])) (p := ps = ps')]; simp), b0⟩
end Go.Proofs.Ytgklhdacnklhdaa
