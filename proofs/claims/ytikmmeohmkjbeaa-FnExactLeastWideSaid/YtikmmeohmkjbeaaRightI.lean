/- UnevenOf, CheckBreaks and RightRoom of the program. -/
import Derived.Test.YtikmmeohmkjbeaaRightW
namespace Go.Proofs.Ytikmmeohmkjbeaa
open Go Go.RowKit

noncomputable def unV (F : Fc) (L : List UInt8) (x : Int) (bs : List Int) : Int := if rbC F L x bs = 0 then unevL F (wordsL L) x bs else 0
noncomputable def cbB (F : Fc) (L : List UInt8) (x : Int) (bs : List Int) : Bool := decide (rbC F L x bs = 0)
noncomputable def cbC (F : Fc) (L : List UInt8) (x : Int) (bs : List Int) : Int := if rbC F L x bs = 4 then 0 else rbC F L x bs
theorem rbC_cases (F : Fc) (L : List UInt8) (x : Int) (bs : List Int) : (rbC F L x bs = 0 ∧ rightB F (wordsL L) x bs = true ∧ vface F = true ∧ vtext L = true ∧ 0 ≤ x ∧ x ≤ 4000) ∨ (rbC F L x bs = 4 ∧ askC F L (inB x 0 4000) = 0) ∨ rbC F L x bs = 2 ∨ rbC F L x bs = 1 := by
  rcases ask_cases F L x with ⟨hv, ht, hi, h4⟩ | ⟨h, _⟩ | ⟨h, _⟩
  · cases hrb : rightB F (wordsL L) x bs
    · exact .inr (.inl ⟨(rb_bad h4 hrb).1, h4⟩)
    · exact .inl ⟨(rb_ok h4 hrb).1, rfl, hv, ht, inB_true.1 hi⟩
  · exact .inr (.inr (.inl (by rw [(rb_no bs (by rw [h]; decide)).1, h])))
  · exact .inr (.inr (.inr (by rw [(rb_no bs (by rw [h]; decide)).1, h])))
theorem rbX_len (F : Fc) (L : List UInt8) (x : Int) (bs : List Int) : (rbX F L x bs).length ≤ 1048577 := by
  unfold rbX
  split
  · rename_i h
    rw [roomsL_len]
    rcases rbC_cases F L x bs with ⟨_, hrb, _, ht, _⟩ | ⟨h', _⟩ | h' | h'
    · have := told_len (rightB_true.1 hrb).1; have := words_len ht; omega
    · rw [h'] at h; cases h
    · rw [h'] at h; cases h
    · rw [h'] at h; cases h
  · simp

set_option maxRecDepth 100000 in
set_option maxHeartbeats 4000000 in
theorem implCheckBreaks_any (F : Fc) (hF : F.ok) (A : Option Addr) (c : Nat) (s : ByteArray) (hs : s.size ≤ maxLen) (x : Int) (hx : (Lit.int .i64 x).wf = true) (B : Option Addr) (bs : List Int) (cb : Nat) (hbn : bs.length ≤ maxLen) (w : World) (hA : PairsAt w w.heap.size A F.ps) (hB : IntsAt w w.heap.size B bs) :
    Calls Try.prog 21 #[.agg (fc F (.slice A F.ps.length c)).toArray, .string s, .int .i64 x, .slice B bs.length cb] w fun e w' => e = .returned (.tuple #[.bool (cbB F s.data.toList x bs), .int .i64 (cbC F s.data.toList x bs)]) ∧ Below w.heap.size w w' := by
  have hW := hide hF.len
  have hr := rangeAt_new w (fc F (.slice A F.ps.length c)) 33
  have hb : Below w.heap.size w (w.alloc (.cells (fc F (.slice A F.ps.length c)).toArray 33)) := (Below.refl _ _).alloc (Nat.le_refl _) _
  have HII := hide (show ∀ sl, (Try.prog.info? 33).map (·.size) = some (fc F sl).length from fun sl => by rw [fc_length hW.out]; kernel_rfl)
  have HR := hide (rightLines_any F hF A c s hs x B bs cb hbn _ ((hA.below hb).mono hb.size) ((hB.below hb).mono hb.size))
  have hc := rbC_cases F s.data.toList x bs
  unfold cbB cbC
  generalize rbX F s.data.toList x bs = R at *
  generalize rbC F s.data.toList x bs = C at *
  have hc' : C = 0 ∨ C = 4 ∨ C = 2 ∨ C = 1 := by rcases hc with ⟨h, _⟩ | ⟨h, _⟩ | h | h <;> simp [h]
  clear hA hB hc
  rcases hc' with rfl | rfl | rfl | rfl
  all_goals
    go_enter Try.func21, Try.ntmps21
    go_wp2_with (refine wpList_load_mid rfl 33 (.tmp 4) rfl _ 0 rfl _ _ hr Try.underlying33 rfl (HII.out _) ?_)
    refine HR.out.mono ?_
    rintro e w1 ⟨A1, c1, rfl, hc1, hI, hb1⟩
    go_wp2
    go_ret2
    exact ⟨rfl, hb.trans (hb1.mono hb.size)⟩

set_option maxHeartbeats 1000000 in
theorem unlessI_no (C : Int) (f : Value) (w : World) (h : C ≠ 0) : Calls Try.prog 74 #[.int .i64 C, f] w fun e w' => e = .returned (.tuple #[.int .i64 0, .int .i64 C]) ∧ w = w' := by
  have hd : ((C : Int) != 0) = true := by simpa using h
  go_enter Try.func74, Try.ntmps74
  go_wp2
  go_ret2
  exact ⟨rfl, rfl⟩
set_option maxHeartbeats 1000000 in
theorem unlessI_ok (v r : Value) (w : World) (h : Calls Try.prog 75 #[v] w fun e w' => e = .returned r ∧ w = w') : Calls Try.prog 74 #[.int .i64 0, .func (.func 75) #[v] #[]] w fun e w' => e = .returned (.tuple #[r, .int .i64 0]) ∧ w = w' := by
  have H := hide h
  clear h
  go_enter Try.func74, Try.ntmps74
  go_wp2_with (go_at_call 75; refine H.out.mono ?_; rintro e w1 ⟨rfl, rfl⟩)
  go_ret2
  exact ⟨rfl, rfl⟩
set_option maxHeartbeats 1000000 in
theorem unlessS_no (C : Int) (f : Value) (w : World) (h : C ≠ 0) : Calls Try.prog 71 #[.int .i64 C, f] w fun e w' => e = .returned (.tuple #[.slice none 0 0, .int .i64 C]) ∧ w = w' := by
  have hd : ((C : Int) != 0) = true := by simpa using h
  go_enter Try.func71, Try.ntmps71
  go_wp2
  go_ret2
  exact ⟨rfl, rfl⟩
set_option maxHeartbeats 1000000 in
theorem rooms_any (v : Value) (w : World) : Calls Try.prog 72 #[v] w fun e w' => e = .returned v ∧ w = w' := by
  go_enter Try.func72, Try.ntmps72
  go_wp2
  go_ret
  exact ⟨rfl, rfl⟩
set_option maxHeartbeats 1000000 in
theorem unlessS_ok (v : Value) (w : World) : Calls Try.prog 71 #[.int .i64 0, .func (.func 72) #[v] #[]] w fun e w' => e = .returned (.tuple #[v, .int .i64 0]) ∧ w = w' := by
  go_enter Try.func71, Try.ntmps71
  go_wp2_with (go_at_call 72; refine (rooms_any _ _).mono ?_; rintro e w1 ⟨rfl, rfl⟩)
  go_ret2
  exact ⟨rfl, rfl⟩

theorem room_bds4 {F : Fc} (hF : F.ok) {L : List UInt8} {x : Int} {bs : List Int} (hv : vface F = true) (ht : vtext L = true) (x0 : 0 ≤ x) (x1 : x ≤ 4000) (hr : rightB F (wordsL L) x bs = true) : ∀ y ∈ roomsL F (wordsL L) x bs, 0 ≤ y ∧ y ≤ 4000 := by
  intro y hy
  obtain ⟨i, hi, rfl⟩ := List.getElem_of_mem hy
  rw [roomsL_len] at hi
  have h1 := roomsL_get F (wordsL L) x bs hi
  rw [List.getElem?_eq_getElem (by rw [roomsL_len]; exact hi)] at h1
  injection h1 with h1
  rw [h1]
  obtain ⟨htd, hp⟩ := rightB_true.1 hr
  refine ⟨hp i (by omega), ?_⟩
  exact (roomL_bd hF hv (fun z hz => words_mem ht hz) (words_len ht) x0 x1 _ (told_ends htd i (by omega)).2.1).2

set_option maxRecDepth 100000 in
set_option maxHeartbeats 4000000 in
theorem implUnevenOf_any (F : Fc) (hF : F.ok) (A : Option Addr) (c : Nat) (s : ByteArray) (hs : s.size ≤ maxLen) (x : Int) (hx : (Lit.int .i64 x).wf = true) (B : Option Addr) (bs : List Int) (cb : Nat) (hbn : bs.length ≤ maxLen) (w : World) (hA : PairsAt w w.heap.size A F.ps) (hB : IntsAt w w.heap.size B bs) :
    Calls Try.prog 30 #[.agg (fc F (.slice A F.ps.length c)).toArray, .string s, .int .i64 x, .slice B bs.length cb] w fun e w' => e = .returned (.tuple #[.int .i64 (unV F s.data.toList x bs), .int .i64 (rbC F s.data.toList x bs)]) ∧ Below w.heap.size w w' := by
  have hW := hide hF.len
  have hr := rangeAt_new w (fc F (.slice A F.ps.length c)) 33
  have hb : Below w.heap.size w (w.alloc (.cells (fc F (.slice A F.ps.length c)).toArray 33)) := (Below.refl _ _).alloc (Nat.le_refl _) _
  have HII := hide (show ∀ sl, (Try.prog.info? 33).map (·.size) = some (fc F sl).length from fun sl => by rw [fc_length hW.out]; kernel_rfl)
  have HR := hide (rightLines_any F hF A c s hs x B bs cb hbn _ ((hA.below hb).mono hb.size) ((hB.below hb).mono hb.size))
  by_cases h0 : rbC F s.data.toList x bs = 0
  · have hU : unV F s.data.toList x bs = sqSum ((rbX F s.data.toList x bs).take ((rbX F s.data.toList x bs).length - 1)) := by
      unfold unV rbX; rw [if_pos h0, if_pos h0, roomsL_len]; rfl
    have hUA : ∀ A1 c1 W, (rbX F s.data.toList x bs).length ≤ c1 → IntsAt W W.heap.size A1 (rbX F s.data.toList x bs) → _ := fun A1 c1 W hc hI => uneven_any A1 (rbX F s.data.toList x bs) c1 W (by
      rcases rbC_cases F s.data.toList x bs with ⟨_, hrb, _, ht, _⟩ | ⟨h', _⟩ | h' | h'
      · unfold rbX; rw [if_pos h0, roomsL_len]; have := told_len (rightB_true.1 hrb).1; have := words_len ht; omega
      · rw [h'] at h0; cases h0
      · rw [h'] at h0; cases h0
      · rw [h'] at h0; cases h0) hc (by unfold rbX; rw [if_pos h0, roomsL_len]; omega) (by
      rcases rbC_cases F s.data.toList x bs with ⟨_, hrb, hv, ht, x0, x1⟩ | ⟨h', _⟩ | h' | h'
      · unfold rbX; rw [if_pos h0]; exact room_bds4 hF hv ht x0 x1 hrb
      · rw [h'] at h0; cases h0
      · rw [h'] at h0; cases h0
      · rw [h'] at h0; cases h0) hI
    rw [hU, h0]
    rw [h0] at HR
    have HUA := hide hUA
    clear hU hUA h0 hA hB
    generalize rbX F s.data.toList x bs = R at *
    go_enter Try.func30, Try.ntmps30
    go_wp2_with (refine wpList_load_mid rfl 33 (.tmp 4) rfl _ 0 rfl _ _ hr Try.underlying33 rfl (HII.out _) ?_)
    refine HR.out.mono ?_
    rintro e w1 ⟨A1, c1, rfl, hc1, hI, hb1⟩
    have HU := hide (unlessI_ok _ _ _ (HUA.out A1 c1 w1 hc1 hI.at_))
    go_wp2_with fail
    refine HU.out.mono ?_
    rintro e w2 ⟨rfl, rfl⟩
    go_wp2
    go_ret2
    exact ⟨rfl, hb.trans (hb1.mono hb.size)⟩
  · have hU : unV F s.data.toList x bs = 0 := by unfold unV; rw [if_neg h0]
    rw [hU]
    clear hU hA hB
    generalize rbX F s.data.toList x bs = R at *
    generalize rbC F s.data.toList x bs = C at *
    go_enter Try.func30, Try.ntmps30
    go_wp2_with (refine wpList_load_mid rfl 33 (.tmp 4) rfl _ 0 rfl _ _ hr Try.underlying33 rfl (HII.out _) ?_)
    refine HR.out.mono ?_
    rintro e w1 ⟨A1, c1, rfl, hc1, hI, hb1⟩
    go_wp2_with (go_at_call 74; refine (unlessI_no C _ _ h0).mono ?_; rintro e w2 ⟨rfl, rfl⟩)
    go_ret2
    exact ⟨rfl, hb.trans (hb1.mono hb.size)⟩

set_option maxRecDepth 100000 in
set_option maxHeartbeats 4000000 in
theorem implRightRoom_any (F : Fc) (hF : F.ok) (A : Option Addr) (c : Nat) (s : ByteArray) (hs : s.size ≤ maxLen) (x : Int) (hx : (Lit.int .i64 x).wf = true) (B : Option Addr) (bs : List Int) (cb : Nat) (hbn : bs.length ≤ maxLen) (w : World) (hA : PairsAt w w.heap.size A F.ps) (hB : IntsAt w w.heap.size B bs) :
    Calls Try.prog 25 #[.agg (fc F (.slice A F.ps.length c)).toArray, .string s, .int .i64 x, .slice B bs.length cb] w (IntsBack (rbX F s.data.toList x bs) (rbC F s.data.toList x bs) w) := by
  have hW := hide hF.len
  have hr := rangeAt_new w (fc F (.slice A F.ps.length c)) 33
  have hb : Below w.heap.size w (w.alloc (.cells (fc F (.slice A F.ps.length c)).toArray 33)) := (Below.refl _ _).alloc (Nat.le_refl _) _
  have HII := hide (show ∀ sl, (Try.prog.info? 33).map (·.size) = some (fc F sl).length from fun sl => by rw [fc_length hW.out]; kernel_rfl)
  have HR := hide (rightLines_any F hF A c s hs x B bs cb hbn _ ((hA.below hb).mono hb.size) ((hB.below hb).mono hb.size))
  by_cases h0 : rbC F s.data.toList x bs = 0
  · rw [h0] at HR ⊢
    clear h0 hA hB
    generalize rbX F s.data.toList x bs = R at *
    go_enter Try.func25, Try.ntmps25
    go_wp2_with (refine wpList_load_mid rfl 33 (.tmp 4) rfl _ 0 rfl _ _ hr Try.underlying33 rfl (HII.out _) ?_)
    refine HR.out.mono ?_
    rintro e w1 ⟨A1, c1, rfl, hc1, hI, hb1⟩
    go_wp2_with (go_at_call 71; refine (unlessS_ok _ _).mono ?_; rintro e w2 ⟨rfl, rfl⟩)
    go_ret2
    exact ⟨A1, c1, rfl, hI.wider hb.size, hb.trans (hb1.mono hb.size)⟩
  · have hU : rbX F s.data.toList x bs = [] := by unfold rbX; rw [if_neg h0]
    rw [hU] at HR ⊢
    clear hU hA hB
    generalize rbC F s.data.toList x bs = C at *
    go_enter Try.func25, Try.ntmps25
    go_wp2_with (refine wpList_load_mid rfl 33 (.tmp 4) rfl _ 0 rfl _ _ hr Try.underlying33 rfl (HII.out _) ?_)
    refine HR.out.mono ?_
    rintro e w1 ⟨A1, c1, rfl, hc1, hI, hb1⟩
    go_wp2_with (go_at_call 71; refine (unlessS_no C _ _ h0).mono ?_; rintro e w2 ⟨rfl, rfl⟩)
    go_ret2
    exact ⟨none, 0, rfl, IntsIn.empty _ _ _, hb.trans (hb1.mono hb.size)⟩
end Go.Proofs.Ytikmmeohmkjbeaa
