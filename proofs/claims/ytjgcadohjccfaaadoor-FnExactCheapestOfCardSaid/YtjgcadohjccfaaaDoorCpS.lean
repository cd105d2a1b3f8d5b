/- The cheapest text: its data, and CheapestOf of the model. -/
import Derived.Test.YtjgcadohjccfaaaDoorPrC
import Derived.Test.YtjgcadohjccfaaaDoorBfI
import Derived.Shelf.Abstract
namespace Go.Proofs.YtjgcadohjccfaaaDoor
open Go Go.RowKit

theorem all_true_ofT {α : Type} {p : α → Bool} {xs : List α} (h : ∀ j x, j < xs.length → xs[j]? = some x → p x = true) : xs.all p = true := by
  rw [List.all_eq_true]
  intro x hx
  obtain ⟨j, hj, rfl⟩ := List.getElem_of_mem hx
  exact h j _ hj (List.getElem?_eq_getElem hj)
theorem all_false_ofT {α : Type} {p : α → Bool} {xs : List α} {k : Nat} {x : α} (hk : xs[k]? = some x) (h : p x = false) : xs.all p = false := by
  rw [List.all_eq_false]
  exact ⟨x, List.mem_of_getElem? hk, by rw [h]; exact Bool.false_ne_true⟩

/-! Data -/
noncomputable def txB (x : ByteArray) : Bool := vtext x.data.toList
noncomputable def cpO (F : Fc) (P : List Int) (ts : List ByteArray) (k : Nat) : Int := ppV F P (ts.getD k ⟨#[]⟩).data.toList
theorem cpO_at {F : Fc} {P : List Int} {ts : List ByteArray} {k : Nat} {x : ByteArray} (h : ts[k]? = some x) : cpO F P ts k = ppV F P x.data.toList := by unfold cpO; rw [List.getD_eq_getElem?_getD, h]; rfl
noncomputable def cpB (F : Fc) (P : List Int) (ts : List ByteArray) : Bool := vface F && (vprc P && ts.all txB)
noncomputable def cpR (F : Fc) (P : List Int) (ts : List ByteArray) : Int × Int × Int :=
  if cpB F P ts = true then (if 20 < ts.length then (0, 0, 3) else chR (allC (cpO F P ts) ts.length)) else (0, 0, 1)
theorem cp_no {F : Fc} {P : List Int} {ts : List ByteArray} (h : cpB F P ts = false) : cpR F P ts = (0, 0, 1) := by unfold cpR; rw [h]; rfl
theorem cp_big {F : Fc} {P : List Int} {ts : List ByteArray} (h : cpB F P ts = true) (hn : 20 < ts.length) : cpR F P ts = (0, 0, 3) := by unfold cpR; rw [if_pos h, if_pos hn]
theorem cp_ok {F : Fc} {P : List Int} {ts : List ByteArray} (h : cpB F P ts = true) (hn : ¬ 20 < ts.length) : cpR F P ts = chR (allC (cpO F P ts) ts.length) := by unfold cpR; rw [if_pos h, if_neg hn]
theorem cp_parts {F : Fc} {P : List Int} {ts : List ByteArray} (h : cpB F P ts = true) : vface F = true ∧ vprc P = true ∧ ∀ x ∈ ts, vtext x.data.toList = true := by
  unfold cpB at h; simp only [Bool.and_eq_true, List.all_eq_true] at h; exact ⟨h.1, h.2.1, h.2.2⟩
theorem pp_all {F : Fc} {P : List Int} {L : List UInt8} (h1 : vface F = true) (h2 : vprc P = true) (h3 : vtext L = true) : ppB F P L = true := by unfold ppB; rw [h1, h2, h3]; rfl
theorem lst_form (o : Nat → Int) : ∀ k, 0 < k → ∃ j, j < k ∧ lstO (allC o k) = some ((j : Int), o j)
  | 0, h => absurd h (Nat.lt_irrefl _)
  | 1, _ => ⟨0, by omega, rfl⟩
  | k + 2, _ => by
    obtain ⟨j, hj, e⟩ := lst_form o (k + 1) (by omega)
    have := lst_next o (k + 1) _ e
    rw [this]
    split
    · exact ⟨k + 1, by omega, rfl⟩
    · exact ⟨j, by omega, rfl⟩

set_option maxRecDepth 100000 in
set_option maxHeartbeats 2000000 in
theorem areAllT_any (f : FuncId) (he : Enters Tryd.prog f) (p : ByteArray → Bool) (A : Option Addr) (xs : List ByteArray) (c : Nat) (w : World) (hn : xs.length ≤ maxLen) (hA : StrsAt w w.heap.size A xs)
    (hf : ∀ x ∈ xs, ∀ W, Below w.heap.size w W → Calls Tryd.prog f #[.string x] W fun e w' => e = .returned (.bool (p x)) ∧ Below W.heap.size W w') :
    Calls Tryd.prog 55 #[.slice A xs.length c, .func (.func f) #[] #[]] w fun e w' => e = .returned (.bool (xs.all p)) ∧ Below w.heap.size w w' := by
  unfold maxLen at hn
  generalize hS : xs.all p = S
  have HS := hide hS
  have HF := hide hf
  clear hS hf
  unfold Enters at he
  go_enter Tryd.func55, Tryd.ntmps55
  go_wp2
  go_loopw [9] (fun i wr => ∃ k : Nat, k ≤ xs.length ∧ i = .int .i64 k ∧ Hid (∀ j x, j < k → xs[j]? = some x → p x = true) ∧ Below w.heap.size w wr) (fun i _ => xs.length - (intOf i).toNat)
  case atStart => exact ⟨0, Nat.zero_le _, rfl, hide (fun j x hj => by omega), Below.refl _ _⟩
  case round =>
    obtain ⟨k, hk, rfl, hg, hB⟩ := hrel
    by_cases hlt : k < xs.length
    · obtain ⟨b, o, rfl, hb, hxs⟩ := hA (by intro e; rw [e] at hlt; simp at hlt)
      obtain ⟨x, hxk⟩ : ∃ x, xs[k]? = some x := ⟨xs[k]'hlt, List.getElem?_eq_getElem _⟩
      have hc : wr.cell? ⟨b, o + k, none⟩ = some (.string x) := (hB.cell (p := ⟨b, o + k, none⟩) hb).trans (hxs k x hxk)
      have HX := hide hxk
      have hi : (k : Int) < xs.length := by omega
      have h0 : (0 : Int) ≤ k := by omega
      have HC := hide (HF.out x (List.mem_of_getElem? hxk) wr hB)
      clear hxs hxk
      cases hb : p x
      · rw [hb] at HC
        go_wp2_with (go_at_fn f; refine HC.out.mono ?_; rintro e w1 ⟨rfl, hb1⟩)
        go_ret
        exact ⟨ret_bool (by rw [← HS.out, all_false_ofT HX.out hb]), hB.trans (hb1.mono hB.size)⟩
      · rw [hb] at HC
        go_wp2_with (go_at_fn f; refine HC.out.mono ?_; rintro e w1 ⟨rfl, hb1⟩)
        exact ⟨⟨k + 1, by omega, by go_num, hide (fun j y hj hy => by
          by_cases e : j = k
          · subst e; rw [HX.out] at hy; injection hy with hy; subst hy; exact hb
          · exact hg.out j y (by omega) hy), hB.trans (hb1.mono hB.size)⟩, by simp [intOf]; omega⟩
    · have HA := hide (all_true_ofT (p := p) (xs := xs) (fun j x hj => hg.out j x (by omega)))
      have hk' : k = xs.length := by omega
      clear hg
      go_wp2
      go_ret
      exact ⟨ret_bool (by rw [← HS.out, HA.out]), hB⟩


/-! The model -/
set_option maxRecDepth 100000 in
set_option maxHeartbeats 8000000 in
theorem specCheapestOf_any (F : Fc) (hF : F.ok) (A : Option Addr) (c : Nat) (P : List Int) (hP : P.length = 29) (hPx : ∀ x ∈ P, i16ok x) (T : Option Addr) (ts : List ByteArray) (ct : Nat) (htn : ts.length ≤ maxLen) (htx : ∀ x ∈ ts, x.size ≤ maxLen) (w : World) (hA : PairsAt w w.heap.size A F.ps) (hT : StrsAt w w.heap.size T ts) :
    Calls Tryd.prog 19 #[.agg (fc F (.slice A F.ps.length c)).toArray, .agg (pw P).toArray, .slice T ts.length ct] w fun e w' => e = .returned (.tuple #[.int .i64 (cpR F P ts).1, .int .i64 (cpR F P ts).2.1, .int .i64 (cpR F P ts).2.2]) ∧ Below w.heap.size w w' := by
  obtain ⟨W2, hW2⟩ : ∃ W2, W2 = ((w.alloc (.cells (fc F (.slice A F.ps.length c)).toArray 36)).alloc (.cells (pw P).toArray 38)) := ⟨_, rfl⟩
  have b0 : Below w.heap.size w W2 := by rw [hW2]; exact ((Below.refl _ _).alloc (Nat.le_refl _) _).alloc (by simp) _
  have r0 : W2.rangeAt w.heap.size 0 (fc F (.slice A F.ps.length c)) := by rw [hW2]; exact World.rangeAt_alloc (rangeAt_new w (fc F (.slice A F.ps.length c)) 36) (.cells (pw P).toArray 38)
  have r1 : W2.rangeAt (w.heap.size + 1) 0 (pw P) := by rw [hW2]; exact rangeAt_newg (w := w.alloc (.cells (fc F (.slice A F.ps.length c)).toArray 36)) (cs := (pw P).toArray) (t := 38) (g := w.heap.size + 1) (l := pw P) (by simp) rfl
  have s0 : w.heap.size + 2 = W2.heap.size := by rw [hW2]; simp
  have HFC := hide (l01Face_any F hF w.heap.size A c W2 r0 ((hA.below b0).mono b0.size))
  have HPV := hide (fun W (hW : Below W2.heap.size W2 W) => l06Prices_any P hP hPx (w.heap.size + 1) W (rangeAt_below r1 hW (by omega)))
  have HT := hide ((hT.below b0).mono b0.size)
  have HTX := hide (fun x (hx : x ∈ ts) W => l01Text_any x W (htx x hx))
  have HW2 := hide hW2
  have HP := hide (show cpB F P ts = (vface F && (vprc P && ts.all txB)) from rfl)
  have HNO := hide (@cp_no F P ts)
  have HBIG := hide (@cp_big F P ts)
  have HOK := hide (@cp_ok F P ts)
  have HAT := hide (fun (ha : ts.all txB = true) x (hx : x ∈ ts) => show vtext x.data.toList = true from List.all_eq_true.1 ha x hx)
  have HPR := hide (fun (h1 : vface F = true) (h2 : vprc P = true) (x : ByteArray) (h3 : vtext x.data.toList = true) (W : World) (hW : Below W2.heap.size W2 W) => show Calls Tryd.prog 38 #[.pointer (some ⟨w.heap.size, 0, none⟩), .pointer (some ⟨w.heap.size + 1, 0, none⟩), .string x] W (fun e w' => e = .returned (.int .i64 (ppV F P x.data.toList)) ∧ Below W.heap.size W w') from by
    have := l06Price_any F hF w.heap.size (.slice A F.ps.length c) P hP (w.heap.size + 1) x W h1 h3 h2 (rangeAt_below r0 hW (by omega)) (by have := hW.size; omega) (rangeAt_below r1 hW (by omega)) (by have := hW.size; omega)
    rw [(pp_ok (pp_all h1 h2 h3)).2.2, lprL_len]; exact this)
  have HCO := hide (fun (k : Nat) (x : ByteArray) (h : ts[k]? = some x) => @cpO_at F P ts k x h)
  have HSZ := hide htx
  have htn' := htn
  unfold maxLen at htn'
  clear hW2 hA hT hPx r0 r1 htx htn hP
  generalize fc F (.slice A F.ps.length c) = fcs at *
  cases hv : vface F
  · rw [hv] at HFC
    have HV : Hid (cpR F P ts = (0, 0, 1)) := hide (HNO.out (by rw [HP.out, hv]; rfl))
    generalize cpR F P ts = V at *
    clear hv
    go_enter Tryd.func19, Tryd.ntmps19
    repeat (first | (rw [← HW2.out]) | go_step)
    refine HFC.out.mono ?_
    rintro e w1 ⟨rfl, hb1⟩
    go_wp2
    go_ret3
    exact ⟨rt3_of HV.out, b0.trans (hb1.mono b0.size)⟩
  rw [hv] at HFC
  cases hp : vprc P
  · rw [hp] at HPV
    have HV : Hid (cpR F P ts = (0, 0, 1)) := hide (HNO.out (by rw [HP.out, hv, hp]; rfl))
    generalize cpR F P ts = V at *
    clear hv hp
    go_enter Tryd.func19, Tryd.ntmps19
    repeat (first | (rw [← HW2.out]) | go_step)
    refine HFC.out.mono ?_
    rintro e w1 ⟨rfl, hb1⟩
    go_wp2_with (go_at_call 51; refine (HPV.out _ hb1).mono ?_; rintro e w2 ⟨rfl, rfl⟩)
    go_ret3
    exact ⟨rt3_of HV.out, b0.trans (hb1.mono b0.size)⟩
  rw [hp] at HPV
  have HPX := hide (HPR.out hv hp)
  have HPB : Hid (cpB F P ts = ts.all txB) := hide (by rw [HP.out, hv, hp]; rfl)
  have HD : Hid (∀ k, txB k = vtext k.data.toList) := hide (fun _ => rfl)
  clear HP HPR hv hp
  obtain ⟨n, hL⟩ : ∃ n, ts.length = n := ⟨_, rfl⟩
  have HL := hide hL
  rw [hL] at htn' HBIG HOK ⊢
  generalize cpR F P ts = V at *
  generalize cpO F P ts = O at *
  clear hL
  go_enter Tryd.func19, Tryd.ntmps19
  repeat (first | (rw [← HW2.out]) | go_step)
  refine HFC.out.mono ?_
  rintro e w1 ⟨rfl, hb1⟩
  go_wp2_with (go_at_call 51; refine (HPV.out _ hb1).mono ?_; rintro e w2 ⟨rfl, rfl⟩)
  have hws := hb1.size
  have hfin := b0.trans (hb1.mono b0.size)
  go_loopw [9] (fun i wr => ∃ k : Nat, k ≤ n ∧ i = .int .i64 k ∧ Hid (∀ j x, j < k → ts[j]? = some x → txB x = true) ∧ w1 = wr) (fun i _ => n - (intOf i).toNat)
  case atStart => exact ⟨0, Nat.zero_le _, rfl, hide (fun j x hj => by omega), by first | rfl | trivial⟩
  case round =>
    obtain ⟨k, hk, rfl, hg, rfl⟩ := hrel
    by_cases hlt : k < n
    · obtain ⟨b, o, rfl, hb, hxs⟩ := HT.out (by intro e; rw [e] at HL; have := HL.out; simp at this; omega)
      obtain ⟨m, hmk⟩ : ∃ m, ts[k]? = some m := ⟨ts[k]'(by rw [HL.out]; exact hlt), List.getElem?_eq_getElem _⟩
      have c0 : w1.cell? ⟨b, o + k, none⟩ = some (.string m) := (hb1.cell (p := ⟨b, o + k, none⟩) hb).trans (hxs k m hmk)
      have hi : (k : Int) < n := by omega
      have h0 : (0 : Int) ≤ k := by omega
      have HMK := hide hmk
      have HC := hide (HTX.out m (List.mem_of_getElem? hmk) w1)
      clear hxs hmk
      cases hbx : vtext m.data.toList
      · rw [hbx] at HC
        have HV : Hid (V = (0, 0, 1)) := hide (HNO.out (by rw [HPB.out]; exact all_false_ofT HMK.out (by rw [HD.out]; exact hbx)))
        go_wp2_with (go_at_call 52; refine HC.out.mono ?_; rintro e w3 ⟨rfl, rfl⟩)
        go_ret3
        exact ⟨rt3_of HV.out, hfin⟩
      · rw [hbx] at HC
        go_wp2_with (go_at_call 52; refine HC.out.mono ?_; rintro e w3 ⟨rfl, rfl⟩)
        exact ⟨⟨k + 1, by omega, by go_num, hide (fun j y hj hy => by
          by_cases e : j = k
          · subst e; rw [HMK.out] at hy; injection hy with hy; subst hy; rw [HD.out]; exact hbx
          · exact hg.out j y (by omega) hy), by first | rfl | trivial⟩, by simp [intOf]; omega⟩
    · have hall : ts.all txB = true := all_true_ofT (fun j x hj => hg.out j x (by rw [HL.out] at hj; omega))
      have hB := HPB.out.trans hall
      have HTA := hide (HAT.out hall)
      clear hg hall
      have hi : ¬ (k : Int) < n := by omega
      by_cases h20 : 20 < n
      · have HV := hide (HBIG.out hB h20)
        have hd : decide ((20 : Int) < n) = true := by simp; omega
        have hd' : decide (20 < n) = true := by simp; omega
        go_wp2
        go_ret3
        exact ⟨rt3_of HV.out, hfin⟩
      have HV := hide (HOK.out hB h20)
      have hd : decide ((20 : Int) < n) = false := by simp; omega
      have hd' : decide (20 < n) = false := by simp; omega
      by_cases h00 : n = 0
      · have HV0 : Hid (V = (0, 0, 6)) := hide (by rw [HV.out, h00]; rfl)
        have hz : ((n : Int) == 0) = true := by simp; omega
        go_wp2
        go_ret3
        exact ⟨rt3_of HV0.out, hfin⟩
      have hz : ((n : Int) == 0) = false := by simp; omega
      have HF1 := hide (lst_form O)
      have HNX := hide (lst_next O)
      have HONE : Hid (lstO (allC O 1) = some (((0 : Nat) : Int), O 0)) := hide rfl
      clear hB hk hlt HNO HBIG HOK HPB HAT
      go_wp2
      go_loopw [10, 11] (fun q i wr2 => ∃ k j : Nat, 1 ≤ k ∧ k ≤ n ∧ j < k ∧ i = .int .i64 k ∧ q = .int .i64 j ∧ Hid (lstO (allC O k) = some ((j : Int), O j)) ∧ Below w1.heap.size w1 wr2) (fun _ i _ => n - (intOf i).toNat)
      case atStart => exact ⟨1, 0, by omega, by omega, by omega, rfl, rfl, HONE, Below.refl _ _⟩
      case round =>
        obtain ⟨k, j, hk1, hk, hjk, rfl, rfl, hq, hB⟩ := hrel
        have hB2 := hb1.trans (hB.mono hws)
        obtain ⟨b, o, rfl, hb, hxs⟩ := HT.out (by intro e; rw [e] at HL; have := HL.out; simp at this; omega)
        obtain ⟨y, hyj⟩ : ∃ y, ts[j]? = some y := ⟨ts[j]'(by rw [HL.out]; omega), List.getElem?_eq_getElem _⟩
        have c1 : wr.cell? ⟨b, o + j, none⟩ = some (.string y) := (hB2.cell (p := ⟨b, o + j, none⟩) hb).trans (hxs j y hyj)
        have HKy := hide (fun W (h : Below wr.heap.size wr W) => HPX.out y (HTA.out y (List.mem_of_getElem? hyj)) W (hB2.trans (h.mono hB2.size)))
        rw [← HCO.out j y hyj] at HKy
        have hji : (j : Int) < n := by omega
        have hj0 : (0 : Int) ≤ j := by omega
        by_cases hlt : k < n
        · obtain ⟨m, hmk⟩ : ∃ m, ts[k]? = some m := ⟨ts[k]'(by rw [HL.out]; exact hlt), List.getElem?_eq_getElem _⟩
          have c0 : wr.cell? ⟨b, o + k, none⟩ = some (.string m) := (hB2.cell (p := ⟨b, o + k, none⟩) hb).trans (hxs k m hmk)
          have HKm := hide (fun W (h : Below wr.heap.size wr W) => HPX.out m (HTA.out m (List.mem_of_getElem? hmk)) W (hB2.trans (h.mono hB2.size)))
          rw [← HCO.out k m hmk] at HKm
          have HN2 := hide (HNX.out k _ hq.out)
          have hi : (k : Int) < n := by omega
          have h0 : (0 : Int) ≤ k := by omega
          clear hxs hyj hmk
          generalize hOk : O k = ok at *
          generalize hOj : O j = oj at *
          have d0 := Over.get c0
          have d1 := Over.get c1
          clear c0 c1
          by_cases hlt2 : ok < oj
          · have hd2 : decide (ok < oj) = true := by simpa using hlt2
            have HE : Hid (lstO (allC O (k + 1)) = some ((k : Int), O k)) := hide (by rw [HN2.out, if_pos hlt2, hOk])
            go_wp2
            refine wp_region_over (by kernel_rfl) (by kernel_rfl) ?_
            iterate 4 (go_big_quiet_step (fail))
            go_big_quiet_step ((go_at_call 38; exact over_call (HKm.out _ (Over.h _))))
            repeat (go_big_quiet_step ((go_at_call 38; exact over_call (HKy.out _ (Over.h _)))))
            refine wpQuiet_nil ?_
            intro w3 hb3
            go_wp2
            exact ⟨⟨k + 1, k, by omega, by omega, by omega, by go_num, rfl, HE, hB.trans (hb3.mono hB.size)⟩, by simp [intOf]; omega⟩
          · have hd2 : decide (ok < oj) = false := by simpa using hlt2
            have HE : Hid (lstO (allC O (k + 1)) = some ((j : Int), O j)) := hide (by rw [HN2.out, if_neg hlt2, hOj])
            go_wp2
            refine wp_region_over (by kernel_rfl) (by kernel_rfl) ?_
            iterate 4 (go_big_quiet_step (fail))
            go_big_quiet_step ((go_at_call 38; exact over_call (HKm.out _ (Over.h _))))
            repeat (go_big_quiet_step ((go_at_call 38; exact over_call (HKy.out _ (Over.h _)))))
            refine wpQuiet_nil ?_
            intro w3 hb3
            go_wp2
            exact ⟨⟨k + 1, j, by omega, by omega, by omega, by go_num, rfl, HE, hB.trans (hb3.mono hB.size)⟩, by simp [intOf]; omega⟩
        · obtain rfl : k = n := by omega
          have HVF : Hid (V = ((j : Int), O j, 0)) := hide (by rw [HV.out]; unfold chR; rw [hq.out])
          have hin : ¬ (k : Int) < k := by omega
          clear hxs hyj
          generalize O j = oj at *
          go_wp2_with (go_at_call 38; refine (HKy.out _ (Below.refl _ _)).mono ?_; rintro e w3 ⟨rfl, hb3⟩)
          go_ret3
          have hF2 := hfin.trans (hB.mono hfin.size)
          exact ⟨rt3_of HVF.out, hF2.trans (hb3.mono hF2.size)⟩
end Go.Proofs.YtjgcadohjccfaaaDoor
