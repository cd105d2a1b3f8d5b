/- Sheets and prices as plain data; whether they are as they have to be; their copies in the program's own types. -/
import Derived.Test.YtngondeaeipcfaaGreatDoorChA
namespace Go.Proofs.YtngondeaeipcfaaGreatDoor
open Go.RowKit

/-- A sheet is as it has to be. -/
def vsht (h p : Int) : Bool := inB h 1 400 && inB p 0 5
theorem vsht_true {h p : Int} : vsht h p = true ↔ (1 ≤ h ∧ h ≤ 400) ∧ 0 ≤ p ∧ p ≤ 5 := by
  unfold vsht; rw [Bool.and_eq_true, inB_true, inB_true]

set_option maxHeartbeats 2000000 in
theorem implValidSheet_any (h : Int) (hh : -32768 ≤ h ∧ h ≤ 32767) (p : Int) (hp : i8ok p) (w : World) :
    Calls Tryz.prog 344 #[.agg #[.int .i16 h, .int .i8 p]] w fun e w' => e = .returned (.bool (vsht h p)) ∧ Below w.heap.size w w' := by
  obtain ⟨h1, h2⟩ := hh
  obtain ⟨p1, p2⟩ := hp
  have hb : Below w.heap.size w (w.alloc (.cells #[.int .i16 h, .int .i8 p] 330)) := (Below.refl _ _).alloc (Nat.le_refl _) _
  have HB := hide hb
  have HV := hide (show vsht h p = (inB h 1 400 && inB p 0 5) from rfl)
  clear hb
  cases hv : inB h 1 400
  · go_enter Tryz.func344, Tryz.ntmps344
    go_wp2_with (go_at_call 116; refine (between_any _ _ _ _).mono ?_; rintro e w' ⟨rfl, rfl⟩; simp only [hv])
    go_ret
    exact ⟨ret_bool (by rw [HV.out, hv]; rfl), HB.out⟩
  · cases hv2 : inB p 0 5
    · go_enter Tryz.func344, Tryz.ntmps344
      go_wp2_with (go_at_call 116; refine (between_any _ _ _ _).mono ?_; rintro e w' ⟨rfl, rfl⟩; simp only [hv, hv2])
      go_ret
      exact ⟨ret_bool (by rw [HV.out, hv, hv2]; rfl), HB.out⟩
    · go_enter Tryz.func344, Tryz.ntmps344
      go_wp2_with (go_at_call 116; refine (between_any _ _ _ _).mono ?_; rintro e w' ⟨rfl, rfl⟩; simp only [hv, hv2])
      go_ret
      exact ⟨ret_bool (by rw [HV.out, hv, hv2]; rfl), HB.out⟩

/-! Prices: 26 of letters, then Gold, Base and Fill. -/
def pw (P : List Int) : List Value := P.map (.int .i16)
def i16ok (n : Int) : Prop := -32768 ≤ n ∧ n ≤ 32767
theorem pw_length (P : List Int) : (pw P).length = P.length := by simp [pw]
theorem pw_get {P : List Int} {k : Nat} (hk : k < P.length) : (pw P)[k]? = some (.int .i16 (P.getD k 0)) := by simp [pw, hk, List.getD]
theorem pw_set (P : List Int) (k : Nat) (v : Int) : (pw P).set k (.int .i16 v) = pw (P.set k v) := by simp [pw]
theorem pw_one (P : List Int) : (pw P).toArray.all (·.oneCell') = true := all_oneCell_toArray (by simp [pw, Value.oneCell'])
theorem pw_at {P : List Int} (hx : ∀ x ∈ P, i16ok x) (k : Nat) : -32768 ≤ P.getD k 0 ∧ P.getD k 0 ≤ 32767 := by
  by_cases h : k < P.length
  · rw [List.getD_eq_getElem?_getD, List.getElem?_eq_getElem h, Option.getD_some]; exact hx _ (List.getElem_mem h)
  · rw [List.getD_eq_getElem?_getD, List.getElem?_eq_none (by omega)]; exact ⟨by decide, by decide⟩
/-- Prices are as they have to be. -/
def vprc (P : List Int) : Bool := P.all (fun x => inB x 0 1000)
theorem vprc_at {P : List Int} (h : vprc P = true) {k : Nat} (hk : k < P.length) : 0 ≤ P.getD k 0 ∧ P.getD k 0 ≤ 1000 := by
  have hm : P.getD k 0 ∈ P := by
    rw [List.getD_eq_getElem?_getD, List.getElem?_eq_getElem (by omega), Option.getD_some]; exact List.getElem_mem _
  exact inB_true.1 (List.all_eq_true.1 h _ hm)
theorem vprc_true {P : List Int} {n : Nat} (hP : P.length = n) (h : ∀ k, k < n → inB (P.getD k 0) 0 1000 = true) : vprc P = true := by
  refine List.all_eq_true.2 fun x hx => ?_
  obtain ⟨k, hk, rfl⟩ := List.getElem_of_mem hx
  have := h k (by omega)
  rwa [List.getD_eq_getElem?_getD, List.getElem?_eq_getElem hk, Option.getD_some] at this
theorem vprc_false {P : List Int} {k : Nat} (hk : k < P.length) (h : inB (P.getD k 0) 0 1000 = false) : vprc P = false := by
  cases e : vprc P
  · rfl
  · have := vprc_at e hk
    rw [inB_true.2 this] at h; cases h

set_option maxHeartbeats 1000000 in
theorem toInt16A26_any (W : List Int) (hW : W.length = 26) (w : World) :
    Calls Tryz.prog 201 #[.agg (pw W).toArray] w fun e w' => e = .returned (.agg (pw W).toArray) ∧ Below w.heap.size w w' := by
  have HW := hide hW
  clear hW
  go_enter Tryz.func201, Tryz.ntmps201
  go_wp2
  go_loopw [4] (fun i wr => ∃ k : Nat, k ≤ 26 ∧ i = .int .i64 k ∧ Below w.heap.size w wr ∧ wr.rangeAt w.heap.size 0 (pw W) ∧ wr.there (w.heap.size + 1) 0 26 ∧ wr.rangeAt (w.heap.size + 1 + 1) 0 (pw (part W k)) ∧ wr.there (w.heap.size + 1 + 1) 0 26)
    (fun i _ => 26 - (intOf i).toNat)
  case atStart =>
    refine ⟨0, by omega, rfl, ?_, ?_, ?_, ?_, ?_⟩
    · exact (((Below.refl _ _).alloc (Nat.le_refl _) _).alloc (by simp) _).alloc (by simp only [World.size_alloc]; omega) _
    · exact World.rangeAt_alloc (World.rangeAt_alloc (rangeAt_new _ _ _) _) _
    · exact World.there_alloc (there_newg (by simp) rfl) _
    · exact rangeAt_newg (by simp) (by simp [part, pw])
    · exact there_newg (by simp) rfl
  case round =>
    obtain ⟨k, hk, rfl, hB, hr, ht1, hr2, ht2⟩ := hrel
    by_cases hlt : k < 26
    · have hc := rangeAt_cell hr (pw_get (by rw [HW.out]; exact hlt))
      have hc2 := rangeAt_cell hr2 (pw_get (k := k) (by rw [part_len HW.out hk]; exact hlt))
      have hf2 := (ht2 k hlt).2
      simp only [Nat.zero_add] at hf2
      go_wp2
      refine ⟨⟨k + 1, by omega, by go_num, hB.setCell (p := ⟨w.heap.size + 1 + 1, k, none⟩) (by show w.heap.size ≤ w.heap.size + 1 + 1; omega) _, rangeAt_far hr (by show w.heap.size + 1 + 1 ≠ w.heap.size; omega) _, there_set ht1 _ _, ?_, there_set ht2 _ _⟩, by simp [intOf]; omega⟩
      rw [← part_succ HW.out hlt, ← pw_set]
      exact rangeAt_set hr2 k _ (by rw [pw_length, part_len HW.out hk]; exact hlt)
    · obtain rfl : k = 26 := by omega
      rw [part_all HW.out] at hr2
      have hi : (pw W).length = 26 := by rw [pw_length]; exact HW.out
      have HI := hide hi
      clear hi
      go_wp2_with (first
        | (refine wpList_load_mid rfl 88 (.tmp 3) rfl _ 0 rfl (pw W) _ hr2 Tryz.underlying88 rfl (by rw [HI.out]; kernel_rfl) ?_)
        | (refine wpList_store_mid rfl 88 (.tmp 2) (.tmp 14) rfl _ 0 _ rfl rfl (by simpa [HI.out] using ht1) (by simp only [List.size_toArray]; rw [HI.out]; kernel_rfl) (pw_one W) ?_))
      refine bodyPost_ret (results_mid rfl _ _ (w.heap.size + 1) 0 (pw W) _ rfl (World.rangeAt_setCells_same _ _ _ _ (by rw [HI.out]; exact ht1)) Tryz.underlying88 rfl (by rw [HI.out]; kernel_rfl)) rfl ⟨rfl, ?_⟩
      exact below_setCells _ _ _ _ hB (by omega)


abbrev zp : Array Value := (pw (List.replicate 29 0)).toArray
theorem pw_append (P Q : List Int) : pw (P ++ Q) = pw P ++ pw Q := by simp [pw]
theorem p29 {P : List Int} (h : P.length = 29) : P = P.take 26 ++ [P.getD 26 0, P.getD 27 0, P.getD 28 0] := by
  apply List.ext_getElem?
  intro i
  by_cases hi : i < 26
  · rw [List.getElem?_append_left (by simp [h]; omega), List.getElem?_take, if_pos hi]
  · rw [List.getElem?_append_right (by simp [h]; omega)]
    have hl : (P.take 26).length = 26 := by simp [h]
    rw [hl]
    by_cases h29 : i < 29
    · have : i = 26 ∨ i = 27 ∨ i = 28 := by omega
      rcases this with rfl | rfl | rfl <;> simp [List.getD, h]
    · rw [List.getElem?_eq_none (by omega), List.getElem?_eq_none (by simp; omega)]

set_option maxRecDepth 100000 in
set_option maxHeartbeats 2000000 in
theorem toPrices_any (P : List Int) (hP : P.length = 29) (w : World) :
    Calls Tryz.prog 99 #[.agg (pw P).toArray] w fun e w' => e = .returned (.agg (pw P).toArray) ∧ Below w.heap.size w w' := by
  have hr0 := rangeAt_new w (pw P) 98
  have hl26 : (P.take 26).length = 26 := by simp [hP]
  have hsplit : pw P = pw (P.take 26) ++ [.int .i16 (P.getD 26 0), .int .i16 (P.getD 27 0), .int .i16 (P.getD 28 0)] := by
    conv => lhs; rw [p29 hP]
    rw [pw_append]; rfl
  have HSP := hide hsplit
  have HI26 := hide (show (Tryz.prog.info? 88).map (·.size) = some (pw (P.take 26)).length by rw [pw_length, hl26]; kernel_rfl)
  have HI29 := hide (show (Tryz.prog.info? 90).map (·.size) = some (pw P).length by rw [pw_length, hP]; kernel_rfl)
  have HL26 := hide hl26
  have HLP := hide (show (pw P).length = 29 by rw [pw_length, hP])
  have h26 : w.alloc (.cells (pw P).toArray 98) |>.rangeAt w.heap.size 0 (pw (P.take 26)) := by
    have := hr0; rw [hsplit] at this ⊢; exact rangeAt_left this
  have g26 := pw_get (P := P) (k := 26) (by omega)
  have g27 := pw_get (P := P) (k := 27) (by omega)
  have g28 := pw_get (P := P) (k := 28) (by omega)
  have HGG := hide (⟨g26, g27, g28⟩ : _ ∧ _ ∧ _)
  clear hl26 hsplit hP g26 g27 g28
  generalize P.getD 26 0 = x at *
  generalize P.getD 27 0 = y at *
  generalize P.getD 28 0 = z at *
  generalize P.take 26 = T at *
  go_enter Tryz.func99, Tryz.ntmps99
  go_wp2_with (refine wpList_load_mid rfl 88 (.tmp 4) rfl _ 0 rfl (pw T) _ (World.rangeAt_alloc (World.rangeAt_alloc h26 _) _) Tryz.underlying88 rfl HI26.out ?_)
  have t1 : ((w.alloc (Obj.cells (pw P).toArray 98)).alloc (Obj.cells zp 90)).there (w.heap.size + 1) 0 29 :=
    there_newg (by simp) rfl
  have t1' := World.there_alloc t1 (Obj.cells zp 90)
  have t2 : (((w.alloc (Obj.cells (pw P).toArray 98)).alloc (Obj.cells zp 90)).alloc (Obj.cells zp 90)).there (w.heap.size + 1 + 1) 0 29 :=
    there_newg (by simp) rfl
  have r0 := World.rangeAt_alloc (World.rangeAt_alloc hr0 (Obj.cells zp 90)) (Obj.cells zp 90)
  have b0 : Below w.heap.size w (((w.alloc (Obj.cells (pw P).toArray 98)).alloc (Obj.cells zp 90)).alloc (Obj.cells zp 90)) :=
    (((Below.refl _ _).alloc (Nat.le_refl _) _).alloc (by simp) _).alloc (by simp only [World.size_alloc]; omega) _
  have s0 : (((w.alloc (Obj.cells (pw P).toArray 98)).alloc (Obj.cells zp 90)).alloc (Obj.cells zp 90)).heap.size = w.heap.size + 1 + 1 + 1 := by simp
  show Calls _ _ _ (((w.alloc (Obj.cells (pw P).toArray 98)).alloc (Obj.cells zp 90)).alloc (Obj.cells zp 90)) _
  generalize (((w.alloc (Obj.cells (pw P).toArray 98)).alloc (Obj.cells zp 90)).alloc (Obj.cells zp 90)) = W0 at *
  clear t1 hr0 h26
  refine (toInt16A26_any _ HL26.out _).mono ?_
  rintro e w1 ⟨rfl, hb1⟩
  have b1 := b0.trans (hb1.mono b0.size)
  have r1 := rangeAt_below r0 hb1 (by rw [s0]; omega)
  have t11 := there_below t1' hb1 (by rw [s0]; omega)
  have t12 := there_below t2 hb1 (by rw [s0]; omega)
  have s1 : w.heap.size + 1 + 1 + 1 ≤ w1.heap.size := by rw [← s0]; exact hb1.size
  clear b0 r0 t1' t2 hb1
  obtain ⟨W2, hW2⟩ : ∃ W2, W2 = w1.setCells (w.heap.size + 1 + 1) 0 (pw T).toArray.toList := ⟨_, rfl⟩
  have r2 : W2.rangeAt w.heap.size 0 (pw P) := by rw [hW2]; exact World.rangeAt_setCells_apart r1 _ _ _ (.inl (by omega))
  have q2 : W2.rangeAt (w.heap.size + 1 + 1) 0 (pw T) := by rw [hW2]; exact World.rangeAt_setCells_same _ _ _ _ (there_part t12 (by rw [pw_length, HL26.out]; omega))
  have t21 : W2.there (w.heap.size + 1) 0 29 := by rw [hW2]; exact World.there_setCells t11 _ _ _
  have t22 : W2.there (w.heap.size + 1 + 1) 0 29 := by rw [hW2]; exact World.there_setCells t12 _ _ _
  have b2 : Below w.heap.size w W2 := by rw [hW2]; exact below_setCells _ _ _ _ b1 (by omega)
  have HW2 := hide hW2
  clear hW2 b1 r1 t11 s1
  have c26 := rangeAt_cell r2 HGG.out.1
  have c27 := rangeAt_cell r2 HGG.out.2.1
  have c28 := rangeAt_cell r2 HGG.out.2.2
  obtain ⟨u26, d26, f26⟩ := there_some t22 (j := 26) (by omega)
  obtain ⟨u27, d27, f27⟩ := there_some t22 (j := 27) (by omega)
  obtain ⟨u28, d28, f28⟩ := there_some t22 (j := 28) (by omega)
  simp only [Nat.zero_add] at d26 d27 d28 f26 f27 f28
  obtain ⟨W3, hW3⟩ : ∃ W3, W3 = ((W2.setCell ⟨w.heap.size + 1 + 1, 26, none⟩ (.int .i16 x)).setCell ⟨w.heap.size + 1 + 1, 27, none⟩ (.int .i16 y)).setCell ⟨w.heap.size + 1 + 1, 28, none⟩ (.int .i16 z) := ⟨_, rfl⟩
  have b3 : Below w.heap.size w W3 := by
    rw [hW3]
    exact ((b2.setCell (p := ⟨w.heap.size + 1 + 1, 26, none⟩) (by show w.heap.size ≤ w.heap.size + 1 + 1; omega) _).setCell (p := ⟨w.heap.size + 1 + 1, 27, none⟩) (by show w.heap.size ≤ w.heap.size + 1 + 1; omega) _).setCell (p := ⟨w.heap.size + 1 + 1, 28, none⟩) (by show w.heap.size ≤ w.heap.size + 1 + 1; omega) _
  have t31 : W3.there (w.heap.size + 1) 0 29 := by rw [hW3]; exact there_set (there_set (there_set t21 _ _) _ _) _ _
  have q3 : W3.rangeAt (w.heap.size + 1 + 1) 0 (pw P) := by
    rw [HSP.out]
    intro j v hv
    rw [Nat.zero_add]
    by_cases hj : j < 26
    · rw [List.getElem?_append_left (by rw [pw_length, HL26.out]; exact hj)] at hv
      have := q2 j v hv
      rw [Nat.zero_add] at this
      rw [hW3, World.cell?_setCell_other _ _ _ _ (by intro h; injection h with _ h; omega), World.cell?_setCell_other _ _ _ _ (by intro h; injection h with _ h; omega), World.cell?_setCell_other _ _ _ _ (by intro h; injection h with _ h; omega)]
      exact this
    · rw [List.getElem?_append_right (by rw [pw_length, HL26.out]; omega), pw_length, HL26.out] at hv
      have h3 : j - 26 < 3 := by have := (List.getElem?_eq_some_iff.1 hv).1; simpa using this
      have : j = 26 ∨ j = 27 ∨ j = 28 := by omega
      rcases this with rfl | rfl | rfl
      · simp at hv
        rw [hW3, World.cell?_setCell_other _ _ _ _ (by intro h; injection h with _ h; omega), World.cell?_setCell_other _ _ _ _ (by intro h; injection h with _ h; omega), World.cell?_setCell_same' _ _ _ (by rw [d26]; rfl), hv]
      · simp at hv
        rw [hW3, World.cell?_setCell_other _ _ _ _ (by intro h; injection h with _ h; omega), World.cell?_setCell_same' _ _ _ (by rw [World.cell?_setCell_other _ _ _ _ (by intro h; injection h with _ h; omega), d27]; rfl), hv]
      · simp at hv
        rw [hW3, World.cell?_setCell_same' _ _ _ (by rw [World.cell?_setCell_other _ _ _ _ (by intro h; injection h with _ h; omega), World.cell?_setCell_other _ _ _ _ (by intro h; injection h with _ h; omega), d28]; rfl), hv]
  have HW3 := hide hW3
  have HB := hide (show Below w.heap.size w (W3.setCells (w.heap.size + 1) 0 (pw P).toArray.toList) from below_setCells _ _ _ _ b3 (by omega))
  have HQ := hide (show (W3.setCells (w.heap.size + 1) 0 (pw P).toArray.toList).rangeAt (w.heap.size + 1) 0 (pw P) from World.rangeAt_setCells_same _ _ _ _ (by rw [HLP.out]; exact t31))
  clear hW3 b2 t21 q2 r2
  go_wp2_with (first
    | (refine wpList_store_mid rfl 88 (.tmp 7) (.tmp 6) rfl (w.heap.size + 1 + 1) 0 _ rfl rfl (there_part t12 (by simp only [List.size_toArray]; rw [pw_length, HL26.out]; omega)) HI26.out (pw_one _) ?_; rw [← HW2.out])
    | (rw [← HW3.out]; refine wpList_load_mid rfl 90 (.tmp 3) rfl _ 0 rfl (pw P) _ q3 Tryz.underlying90 rfl HI29.out ?_)
    | (refine wpList_store_mid rfl 90 (.tmp 2) (.tmp 17) rfl (w.heap.size + 1) 0 _ rfl rfl (by simpa [HLP.out] using t31) HI29.out (pw_one _) ?_))
  exact bodyPost_ret (results_mid rfl _ _ (w.heap.size + 1) 0 (pw P) _ rfl HQ.out Tryz.underlying90 rfl HI29.out) rfl ⟨rfl, HB.out⟩
end Go.Proofs.YtngondeaeipcfaaGreatDoor
