/- How many right breaks there are: the program's way, with counts in a map. -/
import Derived.Test.YtgklhdacnklhdaaTailP
import Derived.Test.YtgklhdacnklhdaaMeasW
import Derived.Maps.OwnSet
import Derived.Maps.OwnOps
namespace Go.Proofs.Ytgklhdacnklhdaa
open Go Go.RowKit
open Go.Maps (Keyed IsMap Tidy)

/-- In how many ways the words from one on are broken, as the program counts them. -/
def cnt (n : Nat) (T : Nat → Td) (i : Nat) : Int := if i = n then 1 else (T i).wy
def sumC (C : Nat → Int) (f : Nat) : Nat → Int
  | 0 => 0
  | m + 1 => sumC C f m + C (f + 1 + m)
theorem stepT_ways (o b : Td) : (stepT o b).wy = o.wy + b.wy := by unfold stepT; split <;> rfl
theorem bestT_wy {x : Int} {lw : Nat → Nat → Int} {n f : Nat} {T : Nat → Td} (hf : f < n) (h0 : ∀ t, t ≤ n → (T t).u < 0 → (T t).wy = 0) : ∀ m, m ≤ n - f → (bestT x lw n f T m).wy = sumC (cnt n T) f m
  | 0, _ => rfl
  | m + 1, hm => by
    have ih := bestT_wy (x := x) (lw := lw) hf h0 m (by omega)
    rw [bestT, sumC, ← ih, roundT, cnt]
    split
    · rename_i hc
      rw [if_neg (by omega), h0 _ (by omega) hc.2, Int.add_zero]
    · rw [stepT_ways, ownT]
      split
      · rename_i hlt
        rw [if_neg (by omega)]; simp only; omega
      · rw [if_pos (by omega)]; simp only; omega
theorem bestT_none {x : Int} {lw : Nat → Nat → Int} {n f : Nat} {T : Nat → Td} : ∀ m, (bestT x lw n f T m).u < 0 → (bestT x lw n f T m).wy = 0
  | 0, _ => rfl
  | m + 1, h => by
    have ih := bestT_none (x := x) (lw := lw) (n := n) (f := f) (T := T) m
    rw [bestT, roundT] at h ⊢
    split at h
    · rename_i hc
      rw [if_pos hc]; exact ih h
    · rename_i hc
      exfalso
      have ho : 0 ≤ (ownT x lw n f (f + 1 + m) T).u := by
        unfold ownT
        split
        · rename_i hlt
          have h1 : 0 ≤ (x - lw f (f + 1 + m)) * (x - lw f (f + 1 + m)) := by
            rcases Int.le_total 0 (x - lw f (f + 1 + m)) with h' | h'
            · exact Int.mul_nonneg h' h'
            · exact Int.mul_nonneg_of_nonpos_of_nonpos h' h'
          have h2 : ¬ (T (f + 1 + m)).u < 0 := fun h' => hc ⟨hlt, h'⟩
          simp only; omega
        · simp
      unfold stepT at h
      split at h
      · simp only at h; omega
      · rename_i hb
        have : ¬ (bestT x lw n f T m).u < 0 := fun h' => hb (by unfold better; rw [decide_eq_true h']; rfl)
        simp only at h; omega
theorem tabT_none {x : Int} {lw : Nat → Nat → Int} {n : Nat} : ∀ d i, (tabT x lw n d i).u < 0 → (tabT x lw n d i).wy = 0
  | 0, _, _ => rfl
  | d + 1, i, h => by
    rw [tabT] at h ⊢
    split at h
    · rename_i e; rw [if_pos e]; exact bestT_none _ h
    · rename_i e; rw [if_neg e]; exact tabT_none d i h
theorem tabT_zero {x : Int} {lw : Nat → Nat → Int} {n : Nat} : ∀ d i, i < n - d → tabT x lw n d i = ⟨0, [], 0⟩
  | 0, _, _ => rfl
  | d + 1, i, h => by rw [tabT, if_neg (by omega)]; exact tabT_zero d i (by omega)
/-- A row more. -/
theorem cnt_row {x : Int} {lw : Nat → Nat → Int} {n d f : Nat} (hfd : f + d + 1 = n) (i : Nat) : cnt n (tabT x lw n (d + 1)) i = if i = f then sumC (cnt n (tabT x lw n d)) f (cntT x lw n f) else cnt n (tabT x lw n d) i := by
  have e : n - (d + 1) = f := by omega
  unfold cnt
  rw [tabT, e]
  by_cases h : i = f
  · subst h
    rw [if_neg (by omega), if_pos rfl, if_pos rfl, bestT_wy (by omega) (fun t _ => tabT_none d t) _ (cntT_le _ _ _ _).1]
    rfl
  · rw [if_neg h, if_neg h]

theorem intLaw : Keyed Try.prog 3 := Maps.int_keyed Try.underlying3
set_option maxRecDepth 100000 in
theorem intKey {x : Int} (h : 0 ≤ x ∧ x ≤ 1000) : keyOf Try.prog 3 (.int .i64 x) = some (.int .i64 x) :=
  Maps.keyOf_int_mk Try.underlying3 (by simp [Lit.wf, IntKind.min, IntKind.max, IntKind.signed, IntKind.bits]; omega)
theorem zeroI64c (w : World) : (zeroValue 2).run Try.prog w = .ok (.int .i64 0) w := by kernel_rfl
theorem wfC {x : Int} (h : 0 ≤ x ∧ x ≤ 2305843009213693952) : (Lit.int .i64 x).wf = true := by simp [Lit.wf, IntKind.min, IntKind.max, IntKind.signed, IntKind.bits]; omega
/-- Block B is a map of counts. -/
def CMap (w : World) (B N : Nat) (C : Nat → Int) : Prop := ∃ (D : DataW Unit), w.ownsMap Try.prog 3 (plainElem Try.prog 2) B N D ∧ Tidy D ∧ ∀ i : Nat, i ≤ 61 → D.atKey (.int .i64 i) (.lit (.int .i64 0)) = .lit (.int .i64 (C i))
theorem CMap.go {w w' : World} {B N : Nat} {C : Nat → Int} (h : CMap w B N C) (hb : Below w.heap.size w w') : CMap w' B N C := by
  obtain ⟨D, h1, h2, h3⟩ := h
  exact ⟨D, World.ownsMap.kept h1 (grown_below (r := none) hb) (by simp), h2, h3⟩
set_option maxRecDepth 100000 in
theorem CMap.look {w : World} {B N : Nat} {C : Nat → Int} (h : CMap w B N C) {i : Nat} (hi : i ≤ 61) :
    (Instr.lookup 190 (.map (some B)) (.int .i64 i) false).run Try.prog w = .ok (.int .i64 (C i)) w := by
  obtain ⟨D, h1, h2, h3⟩ := h
  obtain ⟨c, hrun, hat, _⟩ := World.ownsMap.lookup_int h1 intLaw Try.underlying190 Try.underlying2 (zeroI64c w) (intKey (x := i) ⟨by omega, by omega⟩)
  rw [h3 i hi] at hat
  injection hat with hat
  injection hat with _ hat
  rw [hat]; exact hrun
theorem atKey_set {D : DataW Unit} (h : Tidy D) {C : Nat → Int} {f : Nat} {v : Int} (hC : ∀ i : Nat, i ≤ 61 → D.atKey (.int .i64 i) (.lit (.int .i64 0)) = .lit (.int .i64 (C i))) :
    ∀ i : Nat, i ≤ 61 → (D.put (.int .i64 f) (.lit (.int .i64 v))).atKey (.int .i64 i) (.lit (.int .i64 0)) = .lit (.int .i64 (if i = f then v else C i)) := fun i hi => by
  by_cases e : i = f
  · subst e
    rw [if_pos rfl, Maps.atKey_put_same h.isMap (by trivial)]
  · rw [if_neg e, Maps.atKey_put_other (by intro h; injection h with _ h; omega)]; exact hC i hi
theorem wpList_insert_own {H : Type} {P : Program} (w : World) {ops : Array Oper} {rest : List Oper} {o : Oper} {a : Act} {Q : Exit → Act → World → Prop}
    (hg : o.guard = none) (m x v : Operand) (t : TypeId) (hop : o.op = Op.insert t m x v)
    (k e : TypeId) (K : Keyed P k) (ht : P.underlying t = some (.map k e)) (R : Value → Option (DataW H × List MemPlace)) (b n : Nat) (D : DataW H)
    (hm : a.eval m = .map (some b)) (hown : w.ownsMap P k R b n D) (hn : n < maxLen) (key val : Value) (kl : Lit) (hx : a.eval x = key) (hv : a.eval v = val) (hkey : keyOf P k key = some kl)
    (d : DataW H) (ps : List MemPlace) (hval : R val = some (d, ps))
    (hK : ∀ w', w'.ownsMap P k R b (n + 1) (D.put kl d) → w.grownBy w' (some b) → wpList P ops Q rest (a.put o.dst undef) w') :
    wpList P ops Q (o :: rest) a w := by
  refine wpList_plain hg fun K' hK' => ?_
  obtain ⟨w', hrun, r1, r2⟩ := hown.update K ht hn hkey hval
  unfold Oper.wp
  simp [execOp, hop, hm, hx, hv, hrun, Result.andThen]
  exact hK' _ _ (hK w' r1 r2)

set_option maxRecDepth 100000 in
set_option maxHeartbeats 8000000 in
theorem countTails_any (F : Fc) (hF : F.ok) (hv : vface F = true) (ws : List (List UInt8)) (hw : ∀ x ∈ ws, x.length ≤ 60 ∧ allCap x) (hn : ws.length ≤ 61) (x : Int) (hx : 0 ≤ x ∧ x ≤ 4000) (A' : Option Addr) (c' : Nat) (W0 w : World) (HS : SpansBack F ws W0 A' c' w) :
    Calls Try.prog 79 #[.slice A' ws.length c', .int .i64 x] w fun e w' => e = .returned (.int .i64 (cnt ws.length (tabT x (fun f t => lineL F (seg ws f t)) ws.length ws.length) 0)) ∧ Below w.heap.size w w' := by
  have hmm := @run_makeMap Try.prog
  obtain ⟨n, hlen⟩ : ∃ n, n = ws.length := ⟨_, rfl⟩
  rw [← hlen] at hn ⊢
  have HSP := hide HS
  have hkey := intKey (x := (n : Int)) ⟨by omega, by omega⟩
  have HPB := hide (preL_bd hF hv hw)
  have HWB := hide (fun k (hk : k < ws.length) => wideL_bd hF hv (hw _ (getD_mem hk)).2 (hw _ (getD_mem hk)).1)
  have HLB := hide (fun (f t : Nat) (h : t ≤ ws.length) => lineL_bd hF hv (ws := seg ws f t) (fun y hy => hw y (seg_mem hy)) (by have := seg_len ws (a := f) h; omega))
  have HSEG := hide (fun (f t : Nat) (h1 : f < t) (h2 : t ≤ ws.length) => lineL_seg F ws h1 h2)
  have HSL := hide (fun (f t : Nat) (h : t ≤ ws.length) => seg_len ws (a := f) h)
  obtain ⟨hx0, hx1⟩ := hx
  obtain ⟨lw, hlw⟩ : ∃ lw : Nat → Nat → Int, lw = fun f t => lineL F (seg ws f t) := ⟨_, rfl⟩
  rw [← hlw]
  have HLW := hide hlw
  have HL := hide hlen
  have hc' : n ≤ c' := by have := HS.1; omega
  clear HS hlw hlen hw
  have e1 := IntWalk.i64_in ((n : Int) - 1) ⟨by omega, by omega⟩
  go_enter Try.func79, Try.ntmps79
  go_wp2_with (refine wpList_insert_own _ rfl _ _ _ 190 rfl 3 2 intLaw Try.underlying190 _ w.heap.size 0 (.map []) rfl (by simpa using World.ownsMap_made w Try.prog 3 (plainElem (H := Unit) Try.prog 2)) (by unfold maxLen; omega) _ _ _ rfl rfl hkey _ [] (plainElem_int Try.underlying2 (by decide)) ?_)
  intro w1 hown1 hgrow1
  have hM1 : CMap w1 w.heap.size 1 (cnt n (tabT x lw n 0)) := ⟨_, hown1, Maps.tidy_empty.put (by trivial) _, fun i hi => by
    have := atKey_set (D := .map []) Maps.tidy_empty (C := fun _ => 0) (f := n) (v := 1) (fun _ _ => rfl) i hi
    rw [this]; rfl⟩
  have hB1 : Below w.heap.size w w1 := ((Below.refl _ _).alloc (Nat.le_refl _) _).trans (grown_toBelow hgrow1 (by simp) (fun j hj => by cases hj; omega))
  have hs1 : w.heap.size < w1.heap.size := by have := hgrow1.size; simp at this; omega
  clear hown1 hgrow1 hkey
  obtain ⟨B, hBq⟩ : ∃ B, B = w.heap.size := ⟨_, rfl⟩
  rw [← hBq] at hM1 hs1 ⊢
  have hwB : w.heap.size ≤ B := by omega
  clear hBq
  go_wp2
  go_loopw [6] (fun fr wr => (∃ d f N : Nat, f + d + 1 = n ∧ fr = .int .i64 (f : Int) ∧ N ≤ 1 + 62 * d ∧ CMap wr B N (cnt n (tabT x lw n d)) ∧ Below w.heap.size w wr ∧ B < wr.heap.size) ∨
      (fr = .int .i64 (-1) ∧ (∃ N, CMap wr B N (cnt n (tabT x lw n n))) ∧ Below w.heap.size w wr ∧ B < wr.heap.size))
    (fun fr _ => (intOf fr + 1).toNat)
  case atStart =>
    by_cases hn0 : n = 0
    · subst hn0; exact .inr ⟨rfl, ⟨1, hM1⟩, hB1, hs1⟩
    · exact .inl ⟨0, n - 1, 1, by omega, by congr 1; omega, by omega, hM1, hB1, hs1⟩
  case round =>
    clear hM1 hB1 hs1
    rcases hrel with ⟨d, f, N, hfd, rfl, hN, hM, hB, hsB⟩ | ⟨rfl, ⟨N, hM⟩, hB, hsB⟩
    · have hi0 : (0 : Int) ≤ f := by omega
      have e1 := IntWalk.i64_in ((f : Int) + 1) ⟨by omega, by omega⟩
      have HROW := hide (fun i => cnt_row (x := x) (lw := lw) hfd i)
      have hC0 : cnt n (tabT x lw n d) f = 0 := by unfold cnt; rw [if_neg (by omega), tabT_zero d f (by omega)]
      have hSB : ∀ m, m ≤ n - f → (∀ j, j < m → lw f (f + 1 + j) ≤ x) → 0 ≤ sumC (cnt n (tabT x lw n d)) f m ∧ sumC (cnt n (tabT x lw n d)) f m ≤ 2305843009213693952 := fun m hm hj => by
        have hl : ∀ f t, f < t → t ≤ n → 0 ≤ lw f t := fun f t _ h => by rw [HLW.out]; exact (HLB.out f t (by rw [← HL.out]; exact h)).1
        have h := bestT_bd (x := x) (lw := lw) (n := n) (f := f) (T := tabT x lw n d) (by omega) hx1 (fun t h1 h2 => hl f t h1 h2) (fun t _ h2 => tabT_bd hx1 hl d (by omega) t h2) m hm hj
        rw [bestT_wy (T := tabT x lw n d) (by omega) (fun t _ => tabT_none d t) m hm] at h
        have hp := pw_le (k := n - f) (by omega)
        exact ⟨h.2.2.1, by omega⟩
      have HSB := hide hSB
      clear hSB
      generalize hCC : cnt n (tabT x lw n d) = C at *
      have HC0 := hide hC0
      clear hCC hC0
      go_wp2
      go_loopw [7] (fun tq w2 => ∃ m t N' : Nat, t = f + 1 + m ∧ m ≤ n - f ∧ tq = .int .i64 (t : Int) ∧ Hid (∀ j, j < m → lw f (f + 1 + j) ≤ x) ∧ N' ≤ N + m ∧ CMap w2 B N' (fun i => if i = f then sumC C f m else C i) ∧ Below w.heap.size w w2 ∧ B < w2.heap.size)
        (fun tq _ => n + 2 - (intOf tq).toNat)
      case atStart =>
        refine ⟨0, f + 1, N, rfl, by omega, by go_num, hide (fun j h => by omega), by omega, ?_, hB, hsB⟩
        rw [show (fun i => if i = f then sumC C f 0 else C i) = C from funext fun i => by by_cases h : i = f; rw [if_pos h, h, HC0.out]; rfl; rw [if_neg h]]
        exact hM
      case round =>
        clear hM hB hsB
        obtain ⟨m, t, N', ht, hm, rfl, hfit, hN', hM, hB, hsB⟩ := hrel
        have HEND := hide (fun (hc : cntT x lw n f = m) => show CMap wr B N' (cnt n (tabT x lw n (d + 1))) by
          rw [show cnt n (tabT x lw n (d + 1)) = (fun i => if i = f then sumC C f m else C i) from funext fun i => by rw [HROW.out, hc]]
          exact hM)
        by_cases hle : t ≤ n
        · have hle' : (t : Int) ≤ n := by omega
          have hft : (f : Int) ≤ t := by omega
          have hfc : (f : Int) < c' := by omega
          have hft1 : (f : Int) ≤ (f : Int) + 1 + m := by omega
          have htc : (f : Int) + 1 + m ≤ c' := by omega
          have htt : (t : Int) = (f : Int) + 1 + m := by omega
          obtain ⟨b, o, rfl, hcs⟩ := HSP.out.at_ (by rw [← HL.out]; omega)
          have hends := SpansBack.ends hcs hB (a := f) (k := t) (by omega) (by rw [← HL.out]; exact hle)
          have hp := HPB.out f (by rw [← HL.out]; omega)
          have hp2 := HPB.out (t - 1) (by rw [← HL.out]; omega)
          have hm2 := HWB.out (t - 1) (by rw [← HL.out]; omega)
          have hsg := HSEG.out f t (by omega) (by rw [← HL.out]; exact hle)
          have hpt : preL F ws t = preL F ws (t - 1) + wideL F (ws.getD (t - 1) []) + F.sp := by
            obtain ⟨u, rfl⟩ : ∃ u, t = u + 1 := ⟨t - 1, by omega⟩
            rfl
          have hlw : lw f t = lineL F (seg ws f t) := by rw [HLW.out]
          have hfb : fitsB x (preL F ws f) (preL F ws (t - 1) + wideL F (ws.getD (t - 1) [])) (t - f) = decide (lw f t ≤ x) := by
            unfold fitsB room; rw [if_neg (by omega), hlw, hsg]; congr 1; exact propext ⟨fun h => by omega, fun h => by omega⟩
          have HF := hide (fits_any (some ⟨b, o + f * 2, none⟩) (t - f) (c' - f) x _ _ wr (by omega) ⟨hx0, hx1⟩ ⟨hp.1, by omega⟩ ⟨by omega, by omega⟩ hends)
          rw [hfb] at HF
          clear hends hcs hp hp2 hm2 hsg hpt hlw hfb
          subst ht
          by_cases hw : lw f (f + 1 + m) ≤ x
          · have HFIT := hide (show ∀ j, j < m + 1 → lw f (f + 1 + j) ≤ x from fun j hj => by
              rcases Nat.lt_or_ge j m with h | h
              · exact hfit.out j h
              · obtain rfl : j = m := by omega
                exact hw)
            have hsb := HSB.out (m + 1) (by omega) HFIT.out
            have e8 := IntWalk.i64_in (sumC C f m + C (f + 1 + m)) ⟨by have := hsb.1; simp only [sumC] at this; omega, by have := hsb.2; simp only [sumC] at this; omega⟩
            have hwf := wfC (x := sumC C f m + C (f + 1 + m)) ⟨by have := hsb.1; simp only [sumC] at this; omega, by have := hsb.2; simp only [sumC] at this; omega⟩
            have hkf := intKey (x := (f : Int)) ⟨by omega, by omega⟩
            rw [decide_eq_true hw] at HF
            clear hw hsb
            go_wp2_with fail
            refine HF.out.mono ?_
            rintro e w3 ⟨rfl, hb3⟩
            have hM3 := hM.go hb3
            have hB3 := hB.trans (hb3.mono hB.size)
            have hs3 : B < w3.heap.size := Nat.lt_of_lt_of_le hsB hb3.size
            have k1 : (Instr.lookup 190 (.map (some B)) (.int .i64 (f : Int)) false).run Try.prog w3 = .ok (.int .i64 (sumC C f m)) w3 := by
              have := hM3.look (i := f) (by omega)
              rwa [if_pos rfl] at this
            have k2 : (Instr.lookup 190 (.map (some B)) (.int .i64 ((f : Int) + 1 + m)) false).run Try.prog w3 = .ok (.int .i64 (C (f + 1 + m))) w3 := by
              have := hM3.look (i := f + 1 + m) (by omega)
              rwa [if_neg (by omega), htt] at this
            obtain ⟨D, hD1, hD2, hD3⟩ := hM3
            clear hM hB hsB HEND
            go_wp2_with (at_mapUpdate; refine wpList_mapUpdate_own _ rfl _ _ _ 190 rfl 3 2 intLaw Try.underlying190 _ B N' D rfl hD1 (by unfold maxLen; omega) _ _ _ rfl rfl hkf _ [] (plainElem_int Try.underlying2 hwf) ?_)
            intro w4 hown4 hgrow4
            have hM4 : CMap w4 B (N' + 1) (fun i => if i = f then sumC C f (m + 1) else C i) := ⟨_, hown4, hD2.put (by trivial) _, fun i hi => by
              rw [atKey_set hD2 hD3 i hi]
              by_cases e : i = f
              · simp only [if_pos e, sumC]
              · simp only [if_neg e]⟩
            have hB4 : Below w.heap.size w w4 := hB3.trans (grown_toBelow hgrow4 hB3.size (fun j hj => by cases hj; omega))
            have hs4 : B < w4.heap.size := Nat.lt_of_lt_of_le hs3 hgrow4.size
            clear hown4 hgrow4 hD1 hD2 hD3 k1 k2
            go_wp2
            exact ⟨⟨m + 1, f + 1 + (m + 1), N' + 1, rfl, by omega, by go_num, hide HFIT.out, by omega, hM4, hB4, hs4⟩, by simp [intOf]; omega⟩
          · rw [decide_eq_false hw] at HF
            have HE := hide (HEND.out (cntT_eq hm hfit.out (.inr (by omega))))
            clear hw
            go_wp2_with (go_at_call 136; refine HF.out.mono ?_; rintro e w3 ⟨rfl, hb3⟩)
            refine ⟨?_, by simp [intOf]⟩
            by_cases hf0 : f = 0
            · exact .inr ⟨by congr 1; omega, ⟨N', by have h := HE.out.go hb3; rw [show d + 1 = n by omega] at h; exact h⟩, hB.trans (hb3.mono hB.size), Nat.lt_of_lt_of_le hsB hb3.size⟩
            · exact .inl ⟨d + 1, f - 1, N', by omega, by congr 1; omega, by omega, HE.out.go hb3, hB.trans (hb3.mono hB.size), Nat.lt_of_lt_of_le hsB hb3.size⟩
        · have hle' : ¬ (t : Int) ≤ n := by omega
          have HE := hide (HEND.out (cntT_eq hm hfit.out (.inl (by omega))))
          go_wp2
          refine ⟨?_, by simp [intOf]⟩
          by_cases hf0 : f = 0
          · exact .inr ⟨by congr 1; omega, ⟨N', by have h := HE.out; rw [show d + 1 = n by omega] at h; exact h⟩, hB, hsB⟩
          · exact .inl ⟨d + 1, f - 1, N', by omega, by congr 1; omega, by omega, HE.out, hB, hsB⟩
    · have hlk : (Instr.lookup 190 (.map (some B)) (.int .i64 0) false).run Try.prog wr = .ok (.int .i64 (cnt n (tabT x lw n n) 0)) wr := hM.look (i := 0) (by omega)
      go_wp2
      go_ret
      exact ⟨rfl, hB⟩
end Go.Proofs.Ytgklhdacnklhdaa
