/- The words of a text that is asked with a width: the program's. -/
import Derived.Test.YtgklhdacnklhdaaRoomW
import Derived.Test.YtgklhdacnklhdaaCentreW
namespace Go.Proofs.Ytgklhdacnklhdaa
open Go Go.RowKit

theorem ask_cases (F : Fc) (L : List UInt8) (x : Int) : (vface F = true ∧ vtext L = true ∧ inB x 0 4000 = true ∧ askC F L (inB x 0 4000) = 0) ∨ (askC F L (inB x 0 4000) = 2 ∧ vface F = true ∧ vtext L = true ∧ inB x 0 4000 = false) ∨ (askC F L (inB x 0 4000) = 1 ∧ ¬ (vface F = true ∧ vtext L = true)) := by
  by_cases h : vface F = true ∧ vtext L = true
  · rw [ask_ok h.1 h.2]
    cases hi : inB x 0 4000
    · exact .inr (.inl ⟨rfl, h.1, h.2, rfl⟩)
    · exact .inl ⟨h.1, h.2, rfl, rfl⟩
  · exact .inr (.inr ⟨ask_no h, h⟩)
theorem ret_slc {A : Option Addr} {n c : Nat} {i j : Int} (h : i = j) : Ending.returned (.tuple #[.slice A n c, .int .i64 i]) = .returned (.tuple #[.slice A n c, .int .i64 j]) := by rw [h]

set_option maxRecDepth 100000 in
set_option maxHeartbeats 4000000 in
theorem measure_no (F : Fc) (hF : F.ok) (A : Option Addr) (c : Nat) (s : ByteArray) (hs : s.size ≤ maxLen) (x : Int) (w : World) (hA : PairsAt w w.heap.size A F.ps) (hno : askC F s.data.toList (inB x 0 4000) ≠ 0) :
    Calls Try.prog 78 #[.agg (fc F (.slice A F.ps.length c)).toArray, .string s, .int .i64 x] w fun e w' => e = .returned (.tuple #[.slice none 0 0, .int .i64 (askC F s.data.toList (inB x 0 4000))]) ∧ Below w.heap.size w w' := by
  have hW := hide hF.len
  have hr := rangeAt_new w (fc F (.slice A F.ps.length c)) 32
  have hb : Below w.heap.size w (w.alloc (.cells (fc F (.slice A F.ps.length c)).toArray 32)) := (Below.refl _ _).alloc (Nat.le_refl _) _
  have BA := hA.below hb
  have HC := hide (implValidFace_any F hF A c _ (BA.mono hb.size))
  have HII := hide (show ∀ sl, (Try.prog.info? 32).map (·.size) = some (fc F sl).length from fun sl => by rw [fc_length hW.out]; kernel_rfl)
  have HWo := hide (fun w => implValidText_any s w hs)
  rcases ask_cases F s.data.toList x with ⟨_, _, _, h4⟩ | ⟨h1, hv, ht, hi⟩ | ⟨h1, h2⟩
  · exact (hno h4).elim
  · rw [h1]
    have HIN := hide hi
    clear hno h1 hA hi
    go_enter Try.func78, Try.ntmps78
    go_wp2_with (first | (refine wpList_load_mid rfl 32 (.tmp 3) rfl _ 0 rfl _ _ hr Try.underlying32 rfl (HII.out _) ?_) | (go_at_call 64; refine HC.out.mono ?_; rintro e w1 ⟨rfl, hb1⟩; simp only [hv]) | (go_at_call 86; refine (HWo.out _).mono ?_; rintro e w2 ⟨rfl, hb2⟩; simp only [ht]) | (go_at_call 142; refine (validWide_any _ _).mono ?_; rintro e w' ⟨rfl, rfl⟩; rw [HIN.out]))
    go_ret2
    exact ⟨rfl, hb.trans ((hb1.trans (hb2.mono hb1.size)).mono hb.size)⟩
  · rw [h1]
    clear hno h1 hA
    cases hv : vface F
    · clear h2
      go_enter Try.func78, Try.ntmps78
      go_wp2_with (first | (refine wpList_load_mid rfl 32 (.tmp 3) rfl _ 0 rfl _ _ hr Try.underlying32 rfl (HII.out _) ?_) | (go_at_call 64; refine HC.out.mono ?_; rintro e w1 ⟨rfl, hb1⟩; simp only [hv]))
      go_ret2
      exact ⟨rfl, hb.trans (hb1.mono hb.size)⟩
    · have ht : vtext s.data.toList = false := by cases h : vtext s.data.toList with | false => rfl | true => exact (h2 ⟨hv, h⟩).elim
      clear h2
      go_enter Try.func78, Try.ntmps78
      go_wp2_with (first | (refine wpList_load_mid rfl 32 (.tmp 3) rfl _ 0 rfl _ _ hr Try.underlying32 rfl (HII.out _) ?_) | (go_at_call 64; refine HC.out.mono ?_; rintro e w1 ⟨rfl, hb1⟩; simp only [hv]) | (go_at_call 86; refine (HWo.out _).mono ?_; rintro e w2 ⟨rfl, hb2⟩; simp only [ht]))
      go_ret2
      exact ⟨rfl, hb.trans ((hb1.trans (hb2.mono hb1.size)).mono hb.size)⟩

/-- The spans of the text's words. -/
def SpansBack (F : Fc) (ws : List (List UInt8)) (w : World) (A' : Option Addr) (c' : Nat) (w' : World) : Prop :=
  ws.length ≤ c' ∧ CellsIn w' w.heap.size A' (spanFrom F 0 ws)

set_option maxRecDepth 100000 in
set_option maxHeartbeats 4000000 in
theorem measure_ok (F : Fc) (hF : F.ok) (A : Option Addr) (c : Nat) (s : ByteArray) (hs : s.size ≤ maxLen) (x : Int) (w : World) (hA : PairsAt w w.heap.size A F.ps) (hv : vface F = true) (ht : vtext s.data.toList = true) (hi : inB x 0 4000 = true) :
    Calls Try.prog 78 #[.agg (fc F (.slice A F.ps.length c)).toArray, .string s, .int .i64 x] w fun e w' => ∃ A' c', e = .returned (.tuple #[.slice A' (wordsL s.data.toList).length c', .int .i64 0]) ∧ SpansBack F (wordsL s.data.toList) w A' c' w' ∧ Below w.heap.size w w' := by
  have hW := hide hF.len
  have hr := rangeAt_new w (fc F (.slice A F.ps.length c)) 32
  have hb : Below w.heap.size w (w.alloc (.cells (fc F (.slice A F.ps.length c)).toArray 32)) := (Below.refl _ _).alloc (Nat.le_refl _) _
  have hs0 : w.heap.size < (w.alloc (.cells (fc F (.slice A F.ps.length c)).toArray 32)).heap.size := by simp
  have BA := hA.below hb
  have HC := hide (implValidFace_any F hF A c _ (BA.mono hb.size))
  have HII := hide (show ∀ sl, (Try.prog.info? 32).map (·.size) = some (fc F sl).length from fun sl => by rw [fc_length hW.out]; kernel_rfl)
  have HWo := hide (fun w => implValidText_any s w hs)
  have HSP := hide (fun w hA => spansOf_any F hF A c s w hv ht hA)
  have HIN := hide hi
  clear hA hi
  generalize (wordsL s.data.toList) = ws at *
  go_enter Try.func78, Try.ntmps78
  go_wp2_with (refine wpList_load_mid rfl 32 (.tmp 3) rfl _ 0 rfl _ _ hr Try.underlying32 rfl (HII.out _) ?_)
  generalize (w.alloc (.cells (fc F (.slice A F.ps.length c)).toArray 32)) = W0 at *
  refine HC.out.mono ?_
  rintro e w1 ⟨rfl, hb1⟩
  simp only [hv]
  go_wp2_with fail
  refine (HWo.out _).mono ?_
  rintro e w2 ⟨rfl, hb2⟩
  simp only [ht]
  have hB := hb1.trans (hb2.mono hb1.size)
  have r2 := rangeAt_below hr hB hs0
  have HB := hide (HSP.out w2 ((BA.below (hB.mono hb.size)).mono (Nat.le_trans hb.size hB.size)))
  clear hr
  go_wp2_with (first | (refine wpList_load_mid rfl 32 (.tmp 3) rfl _ 0 rfl _ _ r2 Try.underlying32 rfl (HII.out _) ?_) | (go_at_call 142; refine (validWide_any _ _).mono ?_; rintro e w' ⟨rfl, rfl⟩; rw [HIN.out]) | (go_at_call 143; refine HB.out.mono ?_; rintro e w3 ⟨A', c', rfl, hc', hI, hb3⟩))
  go_ret2
  exact ⟨A', c', rfl, ⟨hc', hI.wider (Nat.le_trans hb.size hB.size)⟩, hb.trans ((hB.trans (hb3.mono hB.size)).mono hb.size)⟩

theorem SpansBack.go {F : Fc} {ws : List (List UInt8)} {w W0 w1 wr : World} {A' : Option Addr} {c' : Nat} (h : SpansBack F ws W0 A' c' w1) (hle : w.heap.size ≤ W0.heap.size) (hB : Below w1.heap.size w1 wr) : SpansBack F ws w A' c' wr :=
  ⟨h.1, (h.2.wider hle).go hB⟩
theorem SpansBack.at_ {F : Fc} {ws : List (List UInt8)} {W0 w1 : World} {A' : Option Addr} {c' : Nat} (h : SpansBack F ws W0 A' c' w1) (hn : 0 < ws.length) : ∃ b o, A' = some ⟨b, o, none⟩ ∧ CellsAt w1 w1.heap.size (some ⟨b, o, none⟩) (spanFrom F 0 ws) := by
  obtain ⟨b, o, e, h1, h2, h3, h4⟩ := h.2 (by intro e; have := congrArg List.length e; rw [spanFrom_len] at this; simp at this; omega)
  subst e
  exact ⟨b, o, rfl, h.2.at_⟩
theorem SpansBack.ends {F : Fc} {ws : List (List UInt8)} {w1 wr : World} {b o : Nat} (h : CellsAt w1 w1.heap.size (some ⟨b, o, none⟩) (spanFrom F 0 ws)) (hB : Below w1.heap.size w1 wr) {a k : Nat} (ha : a < k) (hk : k ≤ ws.length) :
    EndsAt wr (some ⟨b, o + a * 2, none⟩) (k - a) (preL F ws a) (preL F ws (k - 1) + wideL F (ws.getD (k - 1) [])) := ends_seg (h.go hB) ha hk
/-- The code of a face, a text and a width in which each word has to fit. -/
noncomputable def fdC (F : Fc) (L : List UInt8) (x : Int) : Int := if askC F L (inB x 0 4000) = 0 then (if fitB F (wordsL L) x = true then 0 else 6) else askC F L (inB x 0 4000)

set_option maxRecDepth 100000 in
set_option maxHeartbeats 4000000 in
theorem measureB_no (F : Fc) (hF : F.ok) (A : Option Addr) (c : Nat) (s : ByteArray) (hs : s.size ≤ maxLen) (x : Int) (w : World) (hA : PairsAt w w.heap.size A F.ps) (hno : askC F s.data.toList (inB x 0 4000) ≠ 0) :
    Calls Try.prog 75 #[.agg (fc F (.slice A F.ps.length c)).toArray, .string s, .int .i64 x] w fun e w' => e = .returned (.tuple #[.slice none 0 0, .int .i64 (askC F s.data.toList (inB x 0 4000))]) ∧ Below w.heap.size w w' := by
  have hW := hide hF.len
  have hr := rangeAt_new w (fc F (.slice A F.ps.length c)) 32
  have hb : Below w.heap.size w (w.alloc (.cells (fc F (.slice A F.ps.length c)).toArray 32)) := (Below.refl _ _).alloc (Nat.le_refl _) _
  have HII := hide (show ∀ sl, (Try.prog.info? 32).map (·.size) = some (fc F sl).length from fun sl => by rw [fc_length hW.out]; kernel_rfl)
  have HM := hide (measure_no F hF A c s hs x _ ((hA.below hb).mono hb.size) hno)
  generalize askC F s.data.toList (inB x 0 4000) = C at *
  clear hA
  go_enter Try.func75, Try.ntmps75
  go_wp2_with (first | (refine wpList_load_mid rfl 32 (.tmp 3) rfl _ 0 rfl _ _ hr Try.underlying32 rfl (HII.out _) ?_) | (go_at_call 78; refine HM.out.mono ?_; rintro e w1 ⟨rfl, hb1⟩))
  all_goals (first | (go_ret2; exact ⟨rfl, hb.trans (hb1.mono hb.size)⟩) | skip)

set_option maxRecDepth 100000 in
set_option maxHeartbeats 4000000 in
theorem measureB_ok (F : Fc) (hF : F.ok) (A : Option Addr) (c : Nat) (s : ByteArray) (hs : s.size ≤ maxLen) (x : Int) (w : World) (hA : PairsAt w w.heap.size A F.ps) (hv : vface F = true) (ht : vtext s.data.toList = true) (hi : inB x 0 4000 = true) :
    Calls Try.prog 75 #[.agg (fc F (.slice A F.ps.length c)).toArray, .string s, .int .i64 x] w fun e w' => ∃ A' c', (fitB F (wordsL s.data.toList) x = true ∧ e = .returned (.tuple #[.slice A' (wordsL s.data.toList).length c', .int .i64 0]) ∧ SpansBack F (wordsL s.data.toList) w A' c' w' ∨ fitB F (wordsL s.data.toList) x = false ∧ e = .returned (.tuple #[.slice none 0 0, .int .i64 6])) ∧ Below w.heap.size w w' := by
  have hW := hide hF.len
  have hr := rangeAt_new w (fc F (.slice A F.ps.length c)) 32
  have hb : Below w.heap.size w (w.alloc (.cells (fc F (.slice A F.ps.length c)).toArray 32)) := (Below.refl _ _).alloc (Nat.le_refl _) _
  have HII := hide (show ∀ sl, (Try.prog.info? 32).map (·.size) = some (fc F sl).length from fun sl => by rw [fc_length hW.out]; kernel_rfl)
  have HM := hide (measure_ok F hF A c s hs x _ ((hA.below hb).mono hb.size) hv ht hi)
  have hn := words_len ht
  have HMEM := hide (fun k hk => wideL_bd hF hv (words_mem ht (getD_mem (ws := wordsL s.data.toList) (k := k) hk)).2 (words_mem ht (getD_mem hk)).1)
  have HPB := hide (preL_bd hF hv (fun y hy => words_mem ht hy))
  obtain ⟨x0, x1⟩ := inB_true.1 hi
  generalize wordsL s.data.toList = ws at *
  obtain ⟨n, hlen⟩ : ∃ n, n = ws.length := ⟨_, rfl⟩
  rw [← hlen] at hn HM HMEM HPB ⊢
  have HL := hide hlen
  clear hA hi hv ht hlen
  go_enter Try.func75, Try.ntmps75
  go_wp2_with (refine wpList_load_mid rfl 32 (.tmp 3) rfl _ 0 rfl _ _ hr Try.underlying32 rfl (HII.out _) ?_)
  refine HM.out.mono ?_
  rintro e w1 ⟨A', c', rfl, HS, hb1⟩
  have HSP := hide HS
  have hc' : n ≤ c' := by have := HS.1; rw [HL.out]; exact this
  clear HS
  have hB1 := hb.trans (hb1.mono hb.size)
  have hbs := hb.size
  clear hr hb hb1
  go_wp2
  go_loopw [23] (fun i wr => ∃ k : Nat, k ≤ n ∧ i = .int .i64 k ∧ (∀ j, j < k → wideL F (ws.getD j []) ≤ x) ∧ Below w1.heap.size w1 wr)
    (fun i _ => n - (intOf i).toNat)
  case atStart => exact ⟨0, by omega, rfl, fun j h => by omega, Below.refl _ _⟩
  case round =>
    obtain ⟨k, hk, rfl, hfit, hB⟩ := hrel
    have HFIT := hide hfit
    clear hfit
    by_cases hlt : k < n
    · have hi : (k : Int) < n := by omega
      have h0 : (0 : Int) ≤ k := by omega
      have hkc : (k : Int) < c' := by omega
      have hkc1 : (k : Int) + 1 ≤ c' := by omega
      have hkk : (k : Int) ≤ (k : Int) + 1 := by omega
      have j1 := IntWalk.i64_in ((k : Int) + 1) ⟨by omega, by omega⟩
      obtain ⟨b, o, rfl, hcs⟩ := HSP.out.at_ (by rw [← HL.out]; omega)
      have hends := SpansBack.ends hcs hB (a := k) (k := k + 1) (by omega) (by rw [← HL.out]; omega)
      have hp := HPB.out k (by omega)
      have hm := HMEM.out k hlt
      have e1 : k + 1 - k = 1 := by omega
      rw [e1, Nat.add_sub_cancel] at hends
      have hfb : fitsB x (preL F ws k) (preL F ws k + wideL F (ws.getD k [])) 1 = decide (wideL F (ws.getD k []) ≤ x) := by
        unfold fitsB room; rw [if_neg (by omega)]; congr 1; exact propext ⟨fun h => by omega, fun h => by omega⟩
      have HF := hide (fits_any (some ⟨b, o + k * 2, none⟩) 1 (c' - k) x _ _ wr (by omega) ⟨x0, x1⟩ ⟨hp.1, by omega⟩ ⟨by omega, by omega⟩ hends)
      rw [hfb] at HF
      clear hends hcs hp hm e1 hfb
      by_cases hw : wideL F (ws.getD k []) ≤ x
      · have HSTEP := hide (show ∀ j, j < k + 1 → wideL F (ws.getD j []) ≤ x from fun j hj => by
          rcases Nat.lt_or_ge j k with h | h
          · exact HFIT.out j h
          · obtain rfl : j = k := by omega
            exact hw)
        rw [decide_eq_true hw] at HF
        clear hw
        go_wp2_with (go_at_call 136; refine HF.out.mono ?_; rintro e w3 ⟨rfl, hb3⟩)
        exact ⟨⟨k + 1, by omega, by go_num, HSTEP.out, hB.trans (hb3.mono hB.size)⟩, by simp [intOf]; omega⟩
      · have HNO := hide (show fitB F ws x = false from fitB_false.2 (fun h => hw (h k (by rw [← HL.out]; omega))))
        rw [decide_eq_false hw] at HF
        clear hw
        go_wp2_with (go_at_call 136; refine HF.out.mono ?_; rintro e w3 ⟨rfl, hb3⟩)
        go_ret2
        exact ⟨none, 0, .inr ⟨HNO.out, rfl⟩, hB1.trans ((hB.trans (hb3.mono hB.size)).mono hB1.size)⟩
    · obtain rfl : k = n := by omega
      go_wp2
      go_ret2
      exact ⟨A', c', .inl ⟨fitB_true.2 (fun j hj => HFIT.out j (by rw [HL.out]; exact hj)), rfl, HSP.out.go hbs hB⟩, hB1.trans (hB.mono hB1.size)⟩
end Go.Proofs.Ytgklhdacnklhdaa
