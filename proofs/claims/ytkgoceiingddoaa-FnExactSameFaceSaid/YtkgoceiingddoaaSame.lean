/- Two faces are equal: the model's SameFace and the program's. -/
import Derived.Test.YtkgoceiingddoaaArrEq
import Derived.Test.YtkgoceiingddoaaLawCommon
namespace Go.Proofs.Ytkgoceiingddoaa
open Go.RowKit

theorem run_neq_pair (x y z a b c : Int) (w : World) :
    (binOp .neq 55 (.agg #[.int .u8 x, .int .u8 y, .int .i8 z]) (.agg #[.int .u8 a, .int .u8 b, .int .i8 c])).run Try.prog w = .ok (.bool (!decide ((x, y, z) = (a, b, c)))) w := by
  have hS : Try.prog.underlying 55 = some (.struct (Try.prog.fieldsOf 55)) := by kernel_rfl
  have hp : Try.prog.stoodInHeld 55 = false := by kernel_rfl
  have hf : (Try.prog.fieldsOf 55).toList = [⟨"A", 5, 0, false, "", "", 0⟩, ⟨"B", 5, 1, false, "", "", 1⟩, ⟨"By", 24, 2, false, "", "", 2⟩] := by kernel_rfl
  rw [run_neq_struct, show (10000 : Nat) = 9999 + 1 from rfl, run_equalIn_agg w 9999 _ _ _ hS hp, hf]
  by_cases h1 : x = a
  · by_cases h2 : y = b
    · by_cases h3 : z = c
      · subst h1; subst h2; subst h3
        simp [Op.eqFields, Go.part, isAgg, go_sem]
      · simp [Op.eqFields, Go.part, isAgg, go_sem, h1, h2, h3]
    · simp [Op.eqFields, Go.part, isAgg, go_sem, h1, h2]
  · simp [Op.eqFields, Go.part, isAgg, go_sem, h1]

/-- The pairs of two lists are equal up to place k. -/
def eqTo (ps qs : List (Int × Int × Int)) (k : Nat) : Prop := ∀ j, j < k → ps[j]? = qs[j]?
theorem eqTo_succ {ps qs : List (Int × Int × Int)} {k : Nat} (h : eqTo ps qs k) (hk : ps[k]? = qs[k]?) : eqTo ps qs (k + 1) := fun j hj => by
  by_cases e : j = k
  · rw [e]; exact hk
  · exact h j (by omega)
theorem eqTo_all {ps qs : List (Int × Int × Int)} (hl : ps.length = qs.length) (h : eqTo ps qs ps.length) : ps = qs := by
  apply List.ext_getElem? 
  intro j
  by_cases hj : j < ps.length
  · exact h j hj
  · rw [List.getElem?_eq_none (by omega), List.getElem?_eq_none (by omega)]

set_option maxRecDepth 100000 in
set_option maxHeartbeats 2000000 in
theorem slicesEqual_any (A A' : Option Addr) (ps qs : List (Int × Int × Int)) (c c' : Nat) (w : World) (hn : ps.length ≤ maxLen) (hn' : qs.length ≤ maxLen) (hA : PairsAt w w.heap.size A ps) (hA' : PairsAt w w.heap.size A' qs) :
    Calls Try.prog 74 #[.slice A ps.length c, .slice A' qs.length c'] w fun e w' => e = .returned (.bool (decide (ps = qs))) ∧ Below w.heap.size w w' := by
  unfold maxLen at hn hn'
  have HR := hide run_neq_pair
  generalize hS : decide (ps = qs) = S
  have HS := hide hS
  clear hS
  by_cases hl : ps.length = qs.length
  · have hln : ((ps.length : Int) != qs.length) = false := by simp [hl]
    have HL := hide hl
    rw [← hl]
    have hln' : ((ps.length : Int) != ps.length) = false := by simp
    clear hl hln
    go_enter Try.func74, Try.ntmps74
    go_wp2
    go_loopw [13] (fun i wr => ∃ k m : Nat, k ≤ ps.length ∧ i = .int .i64 k ∧ wr = w.drewN m ∧ Hid (eqTo ps qs k))
      (fun i _ => ps.length - (intOf i).toNat)
    case atStart => exact ⟨0, 0, by omega, rfl, rfl, hide (fun j hj => absurd hj (by omega))⟩
    case round =>
      obtain ⟨k, m, hk, rfl, rfl, hg⟩ := hrel
      by_cases hlt : k < ps.length
      · obtain ⟨b, o, rfl, hb, hps⟩ := hA (by intro e; rw [e] at hlt; simp at hlt)
        obtain ⟨b', o', rfl, hb', hps'⟩ := hA' (by intro e; have := HL.out; rw [e] at this; simp at this; rw [this] at hlt; simp at hlt)
        obtain ⟨p, hp⟩ : ∃ p, ps[k]? = some p := ⟨ps[k]'hlt, List.getElem?_eq_getElem _⟩
        obtain ⟨q, hq⟩ : ∃ q, qs[k]? = some q := ⟨qs[k]'(by rw [← HL.out]; exact hlt), List.getElem?_eq_getElem _⟩
        have hcell := hps k p hp
        have hcell' := hps' k q hq
        obtain ⟨x, y, z⟩ := p
        obtain ⟨x', y', z'⟩ := q
        have c0 : w.cell? ⟨b, o + k * 3, none⟩ = some (.int .u8 x) := hcell 0 _ rfl
        have c1 : w.cell? ⟨b, o + k * 3 + 1, none⟩ = some (.int .u8 y) := hcell 1 _ rfl
        have c2 : w.cell? ⟨b, o + k * 3 + 2, none⟩ = some (.int .i8 z) := hcell 2 _ rfl
        have d0 : w.cell? ⟨b', o' + k * 3, none⟩ = some (.int .u8 x') := hcell' 0 _ rfl
        have d1 : w.cell? ⟨b', o' + k * 3 + 1, none⟩ = some (.int .u8 y') := hcell' 1 _ rfl
        have d2 : w.cell? ⟨b', o' + k * 3 + 2, none⟩ = some (.int .i8 z') := hcell' 2 _ rfl
        have hi : (k : Int) < ps.length := by omega
        have h0 : (0 : Int) ≤ k := by omega
        have hr := fun w => HR.out x y z x' y' z' w
        cases hd : decide ((x, y, z) = (x', y', z'))
        · simp only [hd] at hr
          go_wp2
          go_quiet (fail)
          clear c0 c1 c2 d0 d1 d2 hr
          go_wp2
          go_ret
          refine ⟨ret_bool ?_, below_drewN (below_drewN (Below.refl _ _) _) _⟩
          rw [← HS.out]
          have hne : ps ≠ qs := fun e => by rw [e, hq] at hp; injection hp with hp; rw [hp] at hd; simp at hd
          simp [hne]
        · simp only [hd] at hr
          go_wp2
          go_quiet (fail)
          clear c0 c1 c2 d0 d1 d2 hr
          go_wp2
          exact ⟨⟨k + 1, _, by omega, by go_num, rfl, hide (eqTo_succ hg.out (by rw [hp, hq, of_decide_eq_true hd]))⟩, by simp [intOf]; omega⟩
      · obtain rfl : k = ps.length := by omega
        go_wp2
        go_ret
        refine ⟨ret_bool ?_, below_drewN (Below.refl _ _) _⟩
        rw [← HS.out, eqTo_all HL.out hg.out]; simp
  · have hln : ((ps.length : Int) != qs.length) = true := by simp; omega
    have hln2 : (ps.length != qs.length) = true := by simp; omega
    have HN := hide hl
    clear hl
    go_enter Try.func74, Try.ntmps74
    go_wp2
    go_ret
    refine ⟨ret_bool ?_, Below.refl _ _⟩
    rw [← HS.out]
    have hne : ps ≠ qs := fun e => HN.out (by rw [e])
    simp [hne]

def sameF (F G : Fc) : Bool := decide (F.W = G.W) && (decide (F.sp = G.sp) && (decide (F.gp = G.gp) && decide (F.ps = G.ps)))

set_option maxRecDepth 100000 in
set_option maxHeartbeats 4000000 in
theorem implSameFace_any (F G : Fc) (hF : F.ok) (hG : G.ok) (A A' : Option Addr) (c c' : Nat) (w : World) (hA : PairsAt w w.heap.size A F.ps) (hA' : PairsAt w w.heap.size A' G.ps) :
    Calls Try.prog 27 #[.agg (fc F (.slice A F.ps.length c)).toArray, .agg (fc G (.slice A' G.ps.length c')).toArray] w fun e w' => e = .returned (.bool (sameF F G)) ∧ Below w.heap.size w w' := by
  have hW := hide hF.len
  have hV := hide hG.len
  have r1 := World.rangeAt_alloc (rangeAt_new w (fc F (.slice A F.ps.length c)) 33) (.cells (fc G (.slice A' G.ps.length c')).toArray 33)
  have r2 := rangeAt_newg (w := w.alloc (.cells (fc F (.slice A F.ps.length c)).toArray 33)) (cs := (fc G (.slice A' G.ps.length c')).toArray) (t := 33) (g := w.heap.size + 1) (l := fc G (.slice A' G.ps.length c')) (by simp) rfl
  have b0 : Below w.heap.size w ((w.alloc (.cells (fc F (.slice A F.ps.length c)).toArray 33)).alloc (.cells (fc G (.slice A' G.ps.length c')).toArray 33)) := ((Below.refl _ _).alloc (Nat.le_refl _) _).alloc (by simp) _
  have hi26 : (Try.prog.info? 25).map (·.size) = some (wc F.W).length := by rw [wc_length, hW.out]; kernel_rfl
  have hi26' : (Try.prog.info? 25).map (·.size) = some (wc G.W).length := by rw [wc_length, hV.out]; kernel_rfl
  have HI26 := hide hi26
  have HI26' := hide hi26'
  clear hi26 hi26'
  have hq := run_eql_ints (P := Try.prog) (k := .i8) Try.underlying25 Try.underlying24 (fun _ => by kernel_rfl) F.W G.W hW.out hV.out
  change ∀ w, (binOp .eql 25 (.agg (wc F.W).toArray) (.agg (wc G.W).toArray)).run Try.prog w = _ at hq
  have x26 := rangeAt_cell r1 (fc_sp hW.out _)
  have x27 := rangeAt_cell r1 (fc_gp hW.out _)
  have x28 := rangeAt_cell r1 (fc_sl hW.out _)
  have y26 := rangeAt_cell r2 (fc_sp hV.out _)
  have y27 := rangeAt_cell r2 (fc_gp hV.out _)
  have y28 := rangeAt_cell r2 (fc_sl hV.out _)
  have hs : sameF F G = (decide (F.W = G.W) && (decide (F.sp = G.sp) && (decide (F.gp = G.gp) && decide (F.ps = G.ps)))) := rfl
  have HS := hide hs
  have SE := hide (slicesEqual_any A A' F.ps G.ps c c' _ hF.n hG.n ((hA.below b0).mono b0.size) ((hA'.below b0).mono b0.size))
  clear hs hA hA'
  cases h1 : decide (F.W = G.W)
  · simp only [h1] at hq
    have H1 := hide h1
    clear h1
    go_enter Try.func27, Try.ntmps27
    go_wp2_with (first
      | (refine wpList_load_mid rfl 25 (.tmp 5) rfl _ 0 rfl (wc F.W) _ (rangeAt_left r1) Try.underlying25 rfl HI26.out ?_)
      | (refine wpList_load_mid rfl 25 (.tmp 7) rfl _ 0 rfl (wc G.W) _ (rangeAt_left r2) Try.underlying25 rfl HI26'.out ?_))
    go_ret
    exact ⟨ret_bool (by rw [HS.out, H1.out]; rfl), b0⟩
  · simp only [h1] at hq
    have H1 := hide h1
    clear h1
    cases h2 : (F.sp == G.sp)
    · go_enter Try.func27, Try.ntmps27
      go_wp2_with (first
        | (refine wpList_load_mid rfl 25 (.tmp 5) rfl _ 0 rfl (wc F.W) _ (rangeAt_left r1) Try.underlying25 rfl HI26.out ?_)
        | (refine wpList_load_mid rfl 25 (.tmp 7) rfl _ 0 rfl (wc G.W) _ (rangeAt_left r2) Try.underlying25 rfl HI26'.out ?_))
      go_ret
      exact ⟨ret_bool (by rw [HS.out, H1.out, decide_eq_false (by simpa using h2)]; rfl), b0⟩
    · cases h3 : (F.gp == G.gp)
      · go_enter Try.func27, Try.ntmps27
        go_wp2_with (first
          | (refine wpList_load_mid rfl 25 (.tmp 5) rfl _ 0 rfl (wc F.W) _ (rangeAt_left r1) Try.underlying25 rfl HI26.out ?_)
          | (refine wpList_load_mid rfl 25 (.tmp 7) rfl _ 0 rfl (wc G.W) _ (rangeAt_left r2) Try.underlying25 rfl HI26'.out ?_))
        go_ret
        exact ⟨ret_bool (by rw [HS.out, H1.out, decide_eq_true (by simpa using h2 : F.sp = G.sp), decide_eq_false (by simpa using h3)]; rfl), b0⟩
      · go_enter Try.func27, Try.ntmps27
        go_wp2_with (first
          | (refine wpList_load_mid rfl 25 (.tmp 5) rfl _ 0 rfl (wc F.W) _ (rangeAt_left r1) Try.underlying25 rfl HI26.out ?_)
          | (refine wpList_load_mid rfl 25 (.tmp 7) rfl _ 0 rfl (wc G.W) _ (rangeAt_left r2) Try.underlying25 rfl HI26'.out ?_)
          | (go_at_call 74; refine SE.out.mono ?_; rintro e w1 ⟨rfl, hb1⟩))
        go_ret
        exact ⟨ret_bool (by rw [HS.out, H1.out, decide_eq_true (by simpa using h2 : F.sp = G.sp), decide_eq_true (by simpa using h3 : F.gp = G.gp)]; rfl), b0.trans (hb1.mono b0.size)⟩
end Go.Proofs.Ytkgoceiingddoaa
