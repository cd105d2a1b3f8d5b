/- A rubbing that is read from its text, of the model. · ReadRubbing of the model. · A rubbing that is read from its text, of the program: the only one that can have it. · A rubbing that is read from its text, of the program: what panics, and what is recovered. · ReadRubbing of the program. -/
import Derived.Test.YtngondeaeipcfaaDoorRdP
import Derived.Test.YtngondeaeipcfaaDoorRbG
import Derived.Test.YtngondeaeipcfaaDoorG6
import Derived.StillTailTactics
import Derived.Test.YtngondeaeipcfaaDoorRtI
import Derived.Shelf.Abstract
import Derived.Tactics2
import Derived.Defers
import Derived.Recover
import Derived.Laws.Pointers
import Derived.WalkLawsBesides

namespace Go.Proofs.YtngondeaeipcfaaDoor
open Go Go.RowKit

set_option maxRecDepth 100000 in
set_option maxHeartbeats 4000000 in
theorem l01SplitT_any (s : ByteArray) (w : World) (hs : s.size ≤ 1048576) :
    Calls Tryd.prog 202 #[.string s, .int .u8 10] w fun e w' => ∃ A' c', e = .returned (.slice A' (splitT s.data.toList).length c') ∧ (splitT s.data.toList).length ≤ c' ∧ StrsIn w' w.heap.size A' ((splitT s.data.toList).map fun x => ⟨x.toArray⟩) ∧ Below w.heap.size w w' := by
  obtain ⟨i0, hi0, hz0, hz1, hz2⟩ := info_parts Tryd.infoString
  have hL : s.data.toList.length = s.size := by simp
  obtain ⟨S, hS⟩ : ∃ S, splitT s.data.toList = S := ⟨_, rfl⟩
  have hSL : S.length ≤ s.size + 1 := by rw [← hS, ← hL]; exact splitT_len _
  rw [hS]
  have HS := hide hS
  have HL := hide hL
  have HII := hide (⟨hi0, hz0, hz1, hz2⟩ : _ ∧ _ ∧ _ ∧ _)
  have ho := World.ownsRow_made (base := w.heap.size) (e := 9) (size := 1) w #[] 0 (Nat.le_refl _) (by unfold maxLen; omega) rfl
  have HO := hide ho
  clear hS hL hi0 hz0 hz1 hz2 ho
  go_enter Tryd.func202, Tryd.ntmps202
  go_wp2
  go_loopw [5, 6, 7] (fun out bg i wr => ∃ (k b : Nat) (v : Value) (pre : List (List UInt8)), k ≤ s.size ∧ b ≤ k ∧ out = v ∧ bg = .int .i64 b ∧ i = .int .i64 k ∧ pre.length ≤ k ∧
      Hid (wr.ownsRow w.heap.size 9 1 v pre.length (pre.map encStr)) ∧ Below w.heap.size w wr ∧ Hid (S = pre ++ glue ((s.data.toList.drop b).take (k - b)) (splitT (s.data.toList.drop k))))
    (fun _ _ i _ => s.size - (intOf i).toNat)
  case atStart =>
    refine ⟨0, 0, _, [], by omega, by omega, rfl, rfl, rfl, by simp, ?_, ?_, hide ?_⟩
    · exact HO
    · exact (Below.refl _ _).alloc (Nat.le_refl _) _
    · rw [← HS.out]; simp [glue_nil (splitT_ne _)]
  case round =>
    obtain ⟨k, b, v, pre, hk, hbk, rfl, rfl, rfl, hpk, HOW, hB, HG⟩ := hrel
    by_cases hlt : k < s.size
    · have hi : (k : Int) < s.size := by omega
      have h0 : (0 : Int) ≤ k := by omega
      have hbk' : (b : Int) ≤ k := by omega
      have hb0 : (0 : Int) ≤ b := by omega
      have hks : (k : Int) ≤ s.size := by omega
      have hdk : s.data.toList.drop k = s[k] :: s.data.toList.drop (k + 1) := by
        rw [List.drop_eq_getElem_cons (by rw [HL.out]; exact hlt)]; rfl
      cases h32 : ((s[k].toNat : Int) == 10)
      · have hne : s[k] ≠ 10 := fun e => by rw [e] at h32; cases h32
        have hg2 : S = pre ++ glue ((s.data.toList.drop b).take (k + 1 - b)) (splitT (s.data.toList.drop (k + 1))) := by
          rw [HG.out, hdk, splitT_other _ hne, glue_glue, take_snoc (by rw [HL.out]; exact hlt) hbk]; rfl
        have HG2 := hide hg2
        clear hg2 hdk hne HG
        go_wp2
        exact ⟨⟨k + 1, b, _, pre, by omega, by omega, rfl, rfl, by go_num, by omega, HOW, hB, HG2⟩, by simp [intOf]; omega⟩
      · have he : s[k] = 10 := by
          have : s[k].toNat = 10 := by have : (s[k].toNat : Int) = 10 := by simpa using h32
                                       omega
          exact UInt8.toNat_inj.1 this
        have hg2 : S = (pre ++ [(s.data.toList.drop b).take (k - b)]) ++ glue ((s.data.toList.drop (k + 1)).take (k + 1 - (k + 1))) (splitT (s.data.toList.drop (k + 1))) := by
          rw [HG.out, hdk, he, splitT_10, Nat.sub_self, List.take_zero, glue_nil (splitT_ne _)]
          simp [glue]
        have HG2 := hide hg2
        have hex := Lib.extract_eq s b k
        have HX := hide hex
        clear hg2 hdk he HG hex
        go_wp2_with (at_builtin; rw [HX.out]; refine wpList_append_own _ rfl (.tmp 20) (.tmp 25) 135 rfl w.heap.size 9 i0 _ 1 16 Tryd.underlying135 HII.out.1 HII.out.2.1 HII.out.2.2.1 HII.out.2.2.2 rfl (by decide) _ _ _ rfl (HOW.out.alloc _) ⟨wr.heap.size, 0, none⟩ 1 1 [encStr ((s.data.toList.drop b).take (k - b))] rfl rfl (cell_one_new _ _ _) (by simp [Value.oneCell']) (by unfold maxLen; omega) (by omega) (by have := hB.size; simp; omega) ?_; intro v' w1 hown1 hgrow hx1)
        have hb1 := own_below hB HOW.out hgrow
        exact ⟨⟨k + 1, k + 1, v', pre ++ [(s.data.toList.drop b).take (k - b)], by omega, by omega, rfl, by go_num, by go_num, by simp; omega, hide (by simpa using hown1), hb1, HG2⟩, by simp [intOf]; omega⟩
    · obtain rfl : k = s.size := by omega
      have hg2 : S = pre ++ [(s.data.toList.drop b).take (s.size - b)] := by
        have hdn : s.data.toList.drop s.size = [] := List.drop_eq_nil_of_le (by rw [HL.out]; exact Nat.le_refl _)
        rw [HG.out, hdn]
        simp [splitT, glue]
      have HG2 := hide hg2
      have hex := Lib.extract_eq s b s.size
      have HX := hide hex
      have hbk' : (b : Int) ≤ s.size := by omega
      have hb0 : (0 : Int) ≤ b := by omega
      clear hg2 HG hex
      go_wp2_with (at_builtin; rw [HX.out]; refine wpList_append_own _ rfl (.tmp 29) (.tmp 33) 135 rfl w.heap.size 9 i0 _ 1 16 Tryd.underlying135 HII.out.1 HII.out.2.1 HII.out.2.2.1 HII.out.2.2.2 rfl (by decide) _ _ _ rfl (HOW.out.alloc _) ⟨wr.heap.size, 0, none⟩ 1 1 [encStr ((s.data.toList.drop b).take (s.size - b))] rfl rfl (cell_one_new _ _ _) (by simp [Value.oneCell']) (by unfold maxLen; omega) (by omega) (by have := hB.size; simp; omega) ?_; intro v' w1 hown1 hgrow hx1)
      have hb1 := own_below hB HOW.out hgrow
      have hn : S.length = pre.length + 1 := by rw [HG2.out]; simp
      have hown2 : w1.ownsRow w.heap.size 9 1 v' S.length (S.map encStr) := by rw [hn, HG2.out]; simpa using hown1
      obtain ⟨A', c', rfl, hc', hP⟩ := strsIn_of_own hown2 rfl
      go_ret
      exact ⟨A', c', rfl, hc', hP, hb1⟩

theorem results_midD {P : Program} {fn : Func} {p q : Tmp} {ty : TypeId} (h : fn.results = #[.cell p ty, .tmp q]) (tmps : Array Value) (w : World) (b o : Nat) (cs : List Value) (d : TypeDesc)
    (hp : tmps.getD p undef = .pointer (some ⟨b, o, none⟩)) (hc : w.rangeAt b o cs)
    (hu : P.underlying ty = some d) (hd : d.isRow = true) (hi : (P.info? ty).map (·.size) = some cs.length) :
    (results fn tmps).run P w = .ok (.tuple #[.agg cs.toArray, tmps.getD q undef]) w := by
  have hp' : tmps[p]?.getD undef = .pointer (some ⟨b, o, none⟩) := by simpa using hp
  simp [results, h, hp', asAddr, run_loadVar_mid w b o ty cs d hc hu hd hi]
def zRd : List Nat := List.replicate 8 0
theorem zRd_ok : rok zRd := ⟨rfl, fun x h => by have := List.eq_of_mem_replicate h; subst this; decide⟩
open Classical in
/-- What is read. -/
noncomputable def rdV (L : List UInt8) : List Nat := if okT (splitT L) then rdR L else zRd
open Classical in
noncomputable def rdC (L : List UInt8) : Int := if okT (splitT L) then 0 else 5
theorem rd_yes {L : List UInt8} (h : okT (splitT L)) : rdV L = rdR L ∧ rdC L = 0 := ⟨if_pos h, if_pos h⟩
theorem rd_no {L : List UInt8} (h : ¬ okT (splitT L)) : rdV L = zRd ∧ rdC L = 5 := ⟨if_neg h, if_neg h⟩
theorem rdV_ok (L : List UInt8) : rok (rdV L) := by
  unfold rdV; split
  · exact rubF_ok _
  · exact zRd_ok
theorem ok_len {S : List (List UInt8)} (h : S.length ≠ 9) : ¬ okT S := fun e => h e.1
theorem ok_last {S : List (List UInt8)} (h : S.getD 8 [] ≠ []) : ¬ okT S := fun e => h e.2.1
theorem ok_row {S : List (List UInt8)} {y : Nat} (hy : y < 8) (h : (S.getD y []).length ≠ 16) : ¬ okT S := fun e => h (e.2.2 y hy).1
theorem ok_dot {S : List (List UInt8)} {y : Nat} (hy : y < 8) {c : UInt8} (hc : c ∈ S.getD y []) (h1 : c ≠ 35) (h2 : c ≠ 46) : ¬ okT S := fun e => by
  rcases (e.2.2 y hy).2 c hc with h | h
  · exact h1 h
  · exact h2 h
end Go.Proofs.YtngondeaeipcfaaDoor

namespace Go.Proofs.YtngondeaeipcfaaDoor
open Go Go.RowKit

end Go.Proofs.YtngondeaeipcfaaDoor

namespace Go.Proofs.YtngondeaeipcfaaDoor
open Go Go.RowKit

set_option maxRecDepth 100000 in
set_option maxHeartbeats 4000000 in
theorem likely1_any (s : ByteArray) (hs : s.size ≤ 1048576) (b : Nat) (x y : Nat) (hx : x < 16) (hy : y < 8) (w : World) (hb : w.cell? ⟨b, 0, none⟩ = some (.string s)) :
    Calls Tryd.prog 180 #[.int .i64 x, .int .i64 y, .pointer (some ⟨b, 0, none⟩)] w fun e w' => e = .returned (.bool (rdF s.data.toList x y)) ∧ Below w.heap.size w w' := by
  have hw1 := IntWalk.i64_in ((y : Int) * 17) ⟨by omega, by omega⟩
  have hw2 := IntWalk.i64_in ((y : Int) * 17 + x) ⟨by omega, by omega⟩
  have h0 : (0 : Int) ≤ (y : Int) * 17 + x := by omega
  obtain ⟨k, hk⟩ : ∃ k : Nat, y * 17 + x = k := ⟨_, rfl⟩
  have hki : (y : Int) * 17 + x = (k : Int) := by omega
  have HF : Hid (rdF s.data.toList x y = (s.data.toList[k]? == some 35)) := hide (by unfold rdF; rw [hk])
  rw [hki] at hw2 h0
  by_cases hlt : k < s.size
  · have hd : decide ((k : Int) < s.size) = true := by simpa using hlt
    have hd' : (k : Int) < s.size := by omega
    have hv : s.data.toList[k]? = some s[k] := by rw [List.getElem?_eq_getElem (by simpa using hlt)]; rfl
    have HV := hide hv
    by_cases h35 : s[k] = 35
    · have hq : ((s[k].toNat : Int) == 35) = true := by rw [h35]; rfl
      have HR : Hid (rdF s.data.toList x y = true) := hide (by rw [HF.out, HV.out, h35]; rfl)
      clear hv h35 hk HF HV
      go_enter Tryd.func180, Tryd.ntmps180
      go_wp2
      go_ret
      exact ⟨ret_bool HR.out.symm, Below.refl _ _⟩
    · have hq : ((s[k].toNat : Int) == 35) = false := by
        cases hq : ((s[k].toNat : Int) == 35)
        · rfl
        · exact absurd (UInt8.toNat_inj.1 (by have : (s[k].toNat : Int) = 35 := by simpa using hq
                                              show s[k].toNat = 35; omega)) h35
      have HR : Hid (rdF s.data.toList x y = false) := hide (by rw [HF.out, HV.out]; simpa using h35)
      clear hv h35 hk HF HV
      go_enter Tryd.func180, Tryd.ntmps180
      go_wp2
      go_ret
      first | exact ⟨ret_bool HR.out.symm, Below.refl _ _⟩ | exact ⟨ret_bool (hq.trans HR.out.symm), Below.refl _ _⟩
  · have hd : decide ((k : Int) < s.size) = false := by simp; omega
    have HR : Hid (rdF s.data.toList x y = false) := hide (by
      rw [HF.out, List.getElem?_eq_none (by simpa using hlt)]; rfl)
    have hd2 : decide (k < s.size) = false := by simpa using hlt
    clear hk HF
    go_enter Tryd.func180, Tryd.ntmps180
    go_wp2
    all_goals first | (exfalso; omega) | (go_ret; exact ⟨ret_bool HR.out.symm, Below.refl _ _⟩)

set_option maxRecDepth 100000 in
set_option maxHeartbeats 4000000 in
theorem likelyRubbing_any (s : ByteArray) (hs : s.size ≤ 1048576) (w : World) :
    Calls Tryd.prog 128 #[.string s] w fun e w' => e = .returned (.agg (rwc (rdR s.data.toList)).toArray) ∧ Below w.heap.size w w' := by
  obtain ⟨W0, hW0⟩ : ∃ W0, W0 = (w.alloc (.cells #[.string s] 9)).alloc (.cells #[.int .u16 0, .int .u16 0, .int .u16 0, .int .u16 0, .int .u16 0, .int .u16 0, .int .u16 0, .int .u16 0] 26) := ⟨_, rfl⟩
  have b0 : Below w.heap.size w W0 := by rw [hW0]; exact ((Below.refl _ _).alloc (Nat.le_refl _) _).alloc (by simp) _
  have s0 : W0.heap.size = w.heap.size + 2 := by rw [hW0]; simp
  have c0 : W0.cell? ⟨w.heap.size, 0, none⟩ = some (.string s) := by rw [hW0]; exact World.rangeAt_alloc (rangeAt_new' w #[.string s] 9) _ 0 _ rfl
  have t0 : W0.there (w.heap.size + 1) 0 8 := by rw [hW0]; exact there_newg (by simp) rfl
  have HRO := hide (rubbingOf_any 180 (enters_of Tryd.func180 (by kernel_rfl) rfl) #[.pointer (some ⟨w.heap.size, 0, none⟩)] (rdF s.data.toList) W0 (fun x y hx hy W hW => likely1_any s hs w.heap.size x y hx hy W ((hW.cell (p := ⟨w.heap.size, 0, none⟩) (by show w.heap.size < W0.heap.size; omega)).trans c0)))
  have HW0 := hide hW0
  have HOK := hide (show rok (rdR s.data.toList) from rubF_ok _)
  clear hW0 c0
  change Hid (Calls _ _ _ _ fun e w' => e = .returned (.agg (rwc (rdR s.data.toList)).toArray) ∧ _) at HRO
  generalize rdR s.data.toList = R at *
  go_enter Tryd.func128, Tryd.ntmps128
  repeat (first | (rw [← HW0.out]) | go_step)
  refine HRO.out.mono ?_
  rintro e w1 ⟨rfl, hb1⟩
  have ht1 := there_below t0 hb1 (by omega)
  have ht : w1.there (w.heap.size + 1) 0 (rwc R).toArray.size := by simp only [List.size_toArray]; rw [rwc_length, HOK.out.1]; exact ht1
  have hB := b0.trans (hb1.mono b0.size)
  clear hb1 t0 ht1
  go_wp2_with (refine wpList_store_mid rfl 26 (.tmp 2) (.tmp 4) rfl (w.heap.size + 1) 0 (rwc R).toArray rfl rfl ht (rub_info HOK.out.1) (rwc_one _) ?_)
  refine bodyPost_ret (results_mid rfl _ _ (w.heap.size + 1) 0 (rwc R) _ rfl (World.rangeAt_setCells_same _ _ _ _ ht) Tryd.underlying26 rfl (rub_info' HOK.out.1)) rfl ⟨rfl, ?_⟩
  exact below_setCells _ _ _ _ hB (by omega)
end Go.Proofs.YtngondeaeipcfaaDoor

namespace Go.Proofs.YtngondeaeipcfaaDoor
open Go Go.RowKit

theorem bytes_eqD {a b : ByteArray} : (a.toList == b.toList) = true ↔ a = b := by
  rw [beq_iff_eq, ByteArray.toList_eq, ByteArray.toList_eq]
  exact ⟨fun h => (ba_ext h).trans (ba_ext rfl).symm, fun h => by rw [h]⟩
theorem rt_str {s : ByteArray} (h : okT (splitT s.data.toList)) : rtB (rdR s.data.toList) = s := by
  unfold rtB
  rw [ok_text h]
theorem rt_nostr {s : ByteArray} (h : ¬ okT (splitT s.data.toList)) : rtB (rdR s.data.toList) ≠ s := fun e => no_text h (by
  have := congrArg (fun b : ByteArray => b.data.toList) e
  simpa [rtB] using this)

set_option maxRecDepth 100000 in
set_option maxHeartbeats 4000000 in
theorem mustRead_ok (s : ByteArray) (hs : s.size ≤ 1048576) (h : okT (splitT s.data.toList)) (w : World) :
    Calls Tryd.prog 63 #[.string s] w fun e w' => e = .returned (.agg (rwc (rdR s.data.toList)).toArray) ∧ Below w.heap.size w w' := by
  obtain ⟨W0, hW0⟩ : ∃ W0, W0 = w.alloc (.cells #[.int .u16 0, .int .u16 0, .int .u16 0, .int .u16 0, .int .u16 0, .int .u16 0, .int .u16 0, .int .u16 0] 26) := ⟨_, rfl⟩
  have b0 : Below w.heap.size w W0 := by rw [hW0]; exact (Below.refl _ _).alloc (Nat.le_refl _) _
  have s0 : W0.heap.size = w.heap.size + 1 := by rw [hW0]; simp
  have t0 : W0.there w.heap.size 0 8 := by rw [hW0]; exact there_newg rfl rfl
  have HL := hide (likelyRubbing_any s hs W0)
  have HW0 := hide hW0
  have HOK := hide (show rok (rdR s.data.toList) from rubF_ok _)
  have HT := hide (fun W => implRubbingText_any (rdR s.data.toList) (rubF_ok _) W)
  have HE := hide (rt_str h)
  rw [HE.out] at HT
  clear hW0 h
  generalize rdR s.data.toList = R at *
  go_enter Tryd.func63, Tryd.ntmps63
  repeat (first | (rw [← HW0.out]) | go_step)
  refine HL.out.mono ?_
  rintro e w1 ⟨rfl, hb1⟩
  have ht1 := there_below t0 hb1 (by omega)
  have hB1 := b0.trans (hb1.mono b0.size)
  obtain ⟨w2, hW2, r2, b2, s2, t20⟩ := stored_rub w1 R HOK.out.1
  have HW2 := hide hW2
  have hB2 := hB1.trans (b2.mono hB1.size)
  have ht2 := there_below ht1 b2 (by have := hb1.size; omega)
  clear hW2 hb1 t0 ht1
  go_wp2_with (first
    | (refine wpList_store_mid rfl 26 (.tmp 3) (.tmp 5) rfl w1.heap.size 0 _ rfl rfl t20 (rub_info HOK.out.1) (rwc_one _) ?_; rw [← HW2.out])
    | (refine wpList_load_mid rfl 26 (.tmp 3) rfl w1.heap.size 0 rfl (rwc R) _ r2 Tryd.underlying26 rfl (rub_info' HOK.out.1) ?_))
  refine (HT.out _).mono ?_
  rintro e w3 ⟨rfl, hb3⟩
  have r3 := rangeAt_below r2 hb3 s2
  have ht3 := there_below ht2 hb3 (by have := hB1.size; omega)
  have ht3' : w3.there w.heap.size 0 (rwc R).toArray.size := by simp only [List.size_toArray]; rw [rwc_length, HOK.out.1]; exact ht3
  have hB3 := hB2.trans (hb3.mono hB2.size)
  clear hb3 r2 ht2 ht3
  go_wp2_with (first
    | (refine wpList_load_mid rfl 26 (.tmp 3) rfl w1.heap.size 0 rfl (rwc R) _ r3 Tryd.underlying26 rfl (rub_info' HOK.out.1) ?_)
    | (refine wpList_store_mid rfl 26 (.tmp 2) (.tmp 12) rfl w.heap.size 0 (rwc R).toArray rfl rfl ht3' (rub_info HOK.out.1) (rwc_one _) ?_))
  refine bodyPost_ret (results_mid rfl _ _ w.heap.size 0 (rwc R) _ rfl (World.rangeAt_setCells_same _ _ _ _ ht3') Tryd.underlying26 rfl (rub_info' HOK.out.1)) rfl ⟨rfl, ?_⟩
  exact below_setCells _ _ _ _ hB3 (Nat.le_refl _)

set_option maxRecDepth 100000 in
set_option maxHeartbeats 4000000 in
theorem mustRead_no (s : ByteArray) (hs : s.size ≤ 1048576) (h : ¬ okT (splitT s.data.toList)) (w : World) :
    Calls Tryd.prog 63 #[.string s] w fun e w' => e = .panicked [{ v := .iface 186 (.string s), recovered := false }] ∧ Below w.heap.size w w' := by
  obtain ⟨W0, hW0⟩ : ∃ W0, W0 = w.alloc (.cells #[.int .u16 0, .int .u16 0, .int .u16 0, .int .u16 0, .int .u16 0, .int .u16 0, .int .u16 0, .int .u16 0] 26) := ⟨_, rfl⟩
  have b0 : Below w.heap.size w W0 := by rw [hW0]; exact (Below.refl _ _).alloc (Nat.le_refl _) _
  have HL := hide (likelyRubbing_any s hs W0)
  have HW0 := hide hW0
  have HOK := hide (show rok (rdR s.data.toList) from rubF_ok _)
  have HT := hide (fun W => implRubbingText_any (rdR s.data.toList) (rubF_ok _) W)
  have hne := rt_nostr h
  have hq : ((rtB (rdR s.data.toList)).toList == s.toList) = false := by
    cases hq : ((rtB (rdR s.data.toList)).toList == s.toList)
    · rfl
    · exact absurd (bytes_eqD.1 hq) hne
  clear hW0 h
  generalize rdR s.data.toList = R at *
  generalize rtB R = tx at *
  go_enter Tryd.func63, Tryd.ntmps63
  repeat (first | (rw [← HW0.out]) | go_step)
  refine HL.out.mono ?_
  rintro e w1 ⟨rfl, hb1⟩
  have hB1 := b0.trans (hb1.mono b0.size)
  obtain ⟨w2, hW2, r2, b2, s2, t20⟩ := stored_rub w1 R HOK.out.1
  have HW2 := hide hW2
  have hB2 := hB1.trans (b2.mono hB1.size)
  clear hW2 hb1
  go_wp2_with (first
    | (refine wpList_store_mid rfl 26 (.tmp 3) (.tmp 5) rfl w1.heap.size 0 _ rfl rfl t20 (rub_info HOK.out.1) (rwc_one _) ?_; rw [← HW2.out])
    | (refine wpList_load_mid rfl 26 (.tmp 3) rfl w1.heap.size 0 rfl (rwc R) _ r2 Tryd.underlying26 rfl (rub_info' HOK.out.1) ?_))
  refine (HT.out _).mono ?_
  rintro e w3 ⟨rfl, hb3⟩
  have hB3 := hB2.trans (hb3.mono hB2.size)
  clear hb3 r2
  go_wp2
  exact ⟨rfl, rfl, hB3⟩
end Go.Proofs.YtngondeaeipcfaaDoor

namespace Go.Proofs.YtngondeaeipcfaaDoor
open Go Go.RowKit

set_option maxHeartbeats 400000 in
theorem code_any (s : ByteArray) (w : World) : Calls Tryd.prog 293 #[.string s] w fun e w' => e = .returned (.int .i64 5) ∧ w = w' := by
  go_enter Tryd.func293, Tryd.ntmps293
  go_wp2
  go_ret
  exact ⟨rfl, rfl⟩

theorem ta_hit (s : ByteArray) (w : World) : (Instr.typeAssert (.iface 186 (.string s)) 20 106 true).run Tryd.prog w = .ok (.tuple #[.iface 186 (.string s), .bool true]) w := by kernel_rfl
theorem ta_nil (w : World) : (Instr.typeAssert .nilIface 20 106 true).run Tryd.prog w = .ok (.tuple #[.nilIface, .bool false]) w := by kernel_rfl

theorem meth_code (s : ByteArray) (w : World) : (method 477 186 (.string s) "loop.example/g01398/impl.code").run Tryd.prog w = .ok (293, .string s) w := by kernel_rfl

set_option maxRecDepth 100000 in
set_option maxHeartbeats 4000000 in
theorem catch_idle (p q : Addr) (w : World) :
    CallsD Tryd.prog 62 #[.pointer (some p), .pointer (some q)] .returning w fun e u' w' => e = .returned (.tuple #[]) ∧ u' = .returning ∧ w' = w := by
  refine callsD_of_wpS Tryd.func62 rfl fun c₀ cs hu => ?_
  apply wpS_seq
  apply wpS_region
  simp [wpOpsS, go_sem, recoverD, hu, Tryd.ntmps62, Exit.thenS, ta_nil]
  apply wpS_seq
  apply wpS_region
  simp [wpOpsS, go_sem, hu, Tryd.ntmps62, Exit.thenS]
  refine wpS_cond (t := false) (by simp [Act.eval, Array.replicate]) ?_
  simp only [Bool.false_eq_true, if_false]
  refine wpS_of_wp (wp_skip ?_)
  cases c₀
  simp_all [bodyPostS, results, Tryd.results62]

set_option maxRecDepth 100000 in
set_option maxHeartbeats 8000000 in
theorem catch_panicking (b0 b1 : Nat) (s : ByteArray) (x : Int) (older : List PanicEntry) (w : World) (ht : w.there b0 0 8) (hc : w.cell? ⟨b1, 0, none⟩ = some (.int .i64 x)) (hz : w.frozen? ⟨b1, 0, none⟩ = false) (hne : b0 ≠ b1) :
    CallsD Tryd.prog 62 #[.pointer (some ⟨b0, 0, none⟩), .pointer (some ⟨b1, 0, none⟩)] (.panicking ({ v := .iface 186 (.string s), recovered := false } :: older)) w fun e u' w' =>
      e = .returned (.tuple #[]) ∧ u' = .panicking ({ v := .iface 186 (.string s), recovered := true } :: older) ∧ w' = (w.setCells b0 0 (rwc zRd).toArray.toList).setCell ⟨b1, 0, none⟩ (.int .i64 5) := by
  refine callsD_of_wpS Tryd.func62 rfl fun c₀ cs hu => ?_
  apply wpS_seq
  apply wpS_region
  simp [wpOpsS, go_sem, recoverD, hu, Tryd.ntmps62, Exit.thenS, ta_hit]
  apply wpS_seq
  apply wpS_region
  simp [wpOpsS, go_sem, hu, Tryd.ntmps62, Exit.thenS]
  refine wpS_cond (t := true) (by simp [Act.eval, Array.replicate]) ?_
  simp only [if_true]
  refine wpS_of_wp ?_
  refine (fun {P c Q w} (A A' : Act) (h : A = A') (k : Code.wp P c Q A' w) => (h ▸ k : Code.wp P c Q A w)) _ { tmps := #[.pointer (some ⟨b0, 0, none⟩), .pointer (some ⟨b1, 0, none⟩), (.iface 186 (.string s)), .bool true, .tuple #[(.iface 186 (.string s)), .bool true], (.iface 186 (.string s)), .tuple #[(.iface 186 (.string s)), .bool true], (.iface 186 (.string s)), .bool true, .bool true, undef, undef, undef], defers := [] } ?_ ?_
  · simp [Array.replicate, List.replicate]
  have hm := meth_code s
  go_wp2_with fail
  refine (code_any s _).mono ?_
  rintro e w' ⟨rfl, rfl⟩
  have hc2 : (w.setCells b0 0 (rwc zRd).toArray.toList).cell? ⟨b1, 0, none⟩ = some (.int .i64 x) := by
    rw [World.cell?_setCells_out _ _ _ _ _ (fun e => absurd e.symm hne)]; exact hc
  have hz2 : (w.setCells b0 0 (rwc zRd).toArray.toList).frozen? ⟨b1, 0, none⟩ = false := by
    rw [World.frozen?_setCells]; exact hz
  generalize hw9 : w.setCells b0 0 (rwc zRd).toArray.toList = w9 at hc2 hz2
  go_wp2_with (refine wpList_store_mid rfl 26 (.tmp 0) (.tmp 10) rfl b0 0 (rwc zRd).toArray rfl rfl ht (rub_info zRd_ok.1) (rwc_one _) ?_; rw [hw9]; clear ht hc hz; go_step; go_step; go_step; refine wpList_nil ?_; exact ⟨rfl, _, rfl, .tuple #[], results_none rfl _ _ _, rfl, rfl, by subst hw9; rfl⟩)

theorem results_row_int {P : Program} {fn : Func} {p q : Tmp} {ty ti : TypeId} (h : fn.results = #[.cell p ty, .cell q ti]) (tmps : Array Value) (w : World) (b : Nat) (c : Addr) (cs : List Value) (d : TypeDesc) (x : Int)
    (hp : tmps.getD p undef = .pointer (some ⟨b, 0, none⟩)) (hq : tmps.getD q undef = .pointer (some c)) (hc : w.rangeAt b 0 cs) (hx : w.cell? c = some (.int .i64 x))
    (hu : P.underlying ty = some d) (hd : d.isRow = true) (hi : (P.info? ty).map (·.size) = some cs.length) (hl : (loadVar ti c).run P w = .ok (.int .i64 x) w) :
    (results fn tmps).run P w = .ok (.tuple #[.agg cs.toArray, .int .i64 x]) w := by
  have hp' : tmps[p]?.getD undef = .pointer (some ⟨b, 0, none⟩) := by simpa using hp
  have hq' : tmps[q]?.getD undef = .pointer (some c) := by simpa using hq
  simp [results, h, hp', hq', asAddr, run_loadVar_mid w b 0 ty cs d hc hu hd hi, hl]

set_option maxRecDepth 100000 in
set_option maxHeartbeats 8000000 in
theorem implReadRubbing_any (s : ByteArray) (hs : s.size ≤ 1048576) (w : World) :
    Calls Tryd.prog 14 #[.string s] w fun e w' => e = .returned (.tuple #[.agg (rwc (rdV s.data.toList)).toArray, .int .i64 (rdC s.data.toList)]) ∧ Below w.heap.size w w' := by
  have hmf : ∀ (fn : Fn) (first cap : Array Value) (w : World), (Instr.makeFunc fn first cap).run Tryd.prog w = .ok (.func fn first cap) w := fun _ _ _ _ => rfl
  obtain ⟨W0, hW0⟩ : ∃ W0, W0 = (w.alloc (.cells #[.int .u16 0, .int .u16 0, .int .u16 0, .int .u16 0, .int .u16 0, .int .u16 0, .int .u16 0, .int .u16 0] 26)).alloc (.cells #[.int .i64 0] 2) := ⟨_, rfl⟩
  have b0 : Below w.heap.size w W0 := by rw [hW0]; exact ((Below.refl _ _).alloc (Nat.le_refl _) _).alloc (by simp) _
  have s0 : W0.heap.size = w.heap.size + 2 := by rw [hW0]; simp
  have t0 : W0.there w.heap.size 0 8 := by rw [hW0]; exact World.there_alloc (there_newg rfl rfl) _
  have t1 : W0.there (w.heap.size + 1) 0 1 := by rw [hW0]; exact there_newg (by simp) rfl
  have HW0 := hide hW0
  clear hW0
  by_cases hok : okT (splitT s.data.toList)
  · obtain ⟨e1, e2⟩ := rd_yes hok
    rw [e1, e2]
    have HM := hide (mustRead_ok s hs hok W0)
    have HOK := hide (show rok (rdR s.data.toList) from rubF_ok _)
    clear hok e1 e2
    generalize rdR s.data.toList = R at *
    go_enter_defers Tryd.func14, Tryd.ntmps14
    repeat (first | (rw [← HW0.out]) | go_step)
    refine HM.out.mono ?_
    rintro e w1 ⟨rfl, hb1⟩
    have ht0 := there_below t0 hb1 (by omega)
    have ht1 := there_below t1 hb1 (by omega)
    have hB1 := b0.trans (hb1.mono (by omega))
    have ht0' : w1.there w.heap.size 0 (rwc R).toArray.size := by simp only [List.size_toArray]; rw [rwc_length, HOK.out.1]; exact ht0
    obtain ⟨w2, hW2⟩ : ∃ w2, w2 = w1.setCells w.heap.size 0 (rwc R).toArray.toList := ⟨_, rfl⟩
    have r2 : w2.rangeAt w.heap.size 0 (rwc R) := by rw [hW2]; exact World.rangeAt_setCells_same _ _ _ _ ht0'
    have hB2 : Below w.heap.size w w2 := by rw [hW2]; exact below_setCells _ _ _ _ hB1 (Nat.le_refl _)
    have ht2 : w2.there (w.heap.size + 1) 0 1 := by rw [hW2]; exact World.there_setCells ht1 _ _ _
    obtain ⟨hx, hv, hf⟩ := there_some ht2 (j := 0) (by omega)
    have HW2 := hide hW2
    clear hW2 hb1 t0 t1 ht0 ht1 ht2
    go_wp2_with (first
      | (refine wpList_store_mid rfl 26 (.tmp 2) (.tmp 6) rfl w.heap.size 0 (rwc R).toArray rfl rfl ht0' (rub_info HOK.out.1) (rwc_one _) ?_; rw [← HW2.out]))
    refine leaves_cons (f := 62) (args := #[.pointer (some ⟨w.heap.size, 0, none⟩), .pointer (some ⟨w.heap.size + 1, 0, none⟩)]) (by simp) (by simp [go_sem]) ?_
    refine (catch_idle _ _ _).mono ?_
    rintro e u' w'' ⟨rfl, rfl, rfl⟩
    simp [Leaves, settle]
    refine ⟨_, results_row_int rfl _ _ w.heap.size _ _ _ 0 rfl rfl (rangeAt_far r2 (by simp) _) (World.cell?_setCell_same _ _ _ hv) Tryd.underlying26 rfl (rub_info' HOK.out.1) ?_, rfl, ?_⟩
    · simp [loadVar, go_sem, World.cell?_setCell_same _ _ _ hv]
    · exact hB2.setCell (by simp) _
  · obtain ⟨e1, e2⟩ := rd_no hok
    rw [e1, e2]
    have HM := hide (mustRead_no s hs hok W0)
    have r1 : W0.rangeAt (w.heap.size + 1) 0 [.int .i64 0] := by rw [HW0.out]; exact rangeAt_newg (by simp) rfl
    clear hok e1 e2
    go_enter_defers Tryd.func14, Tryd.ntmps14
    repeat (first | (rw [← HW0.out]) | go_step)
    refine HM.out.mono ?_
    rintro e w1 ⟨rfl, hb1⟩
    have ht0 := there_below t0 hb1 (by omega)
    have ht1 := there_below t1 hb1 (by omega)
    have r2 := rangeAt_below r1 hb1 (by omega)
    have hc : w1.cell? ⟨w.heap.size + 1, 0, none⟩ = some (.int .i64 0) := r2 0 _ rfl
    have hB1 := b0.trans (hb1.mono (by omega))
    clear hb1 t0 t1 r1 r2
    obtain ⟨hx, hv, hf⟩ := there_some ht1 (j := 0) (by omega)
    refine leaves_cons (f := 62) (args := #[.pointer (some ⟨w.heap.size, 0, none⟩), .pointer (some ⟨w.heap.size + 1, 0, none⟩)]) (by simp) (by simp [go_sem]) ?_
    refine (catch_panicking _ _ s 0 [] _ ht0 hc hf (by omega)).mono ?_
    rintro e u' w'' ⟨rfl, rfl, rfl⟩
    have r3 : (w1.setCells w.heap.size 0 (rwc zRd).toArray.toList).rangeAt w.heap.size 0 (rwc zRd) := World.rangeAt_setCells_same _ _ _ _ ht0
    have hB3 : Below w.heap.size w (w1.setCells w.heap.size 0 (rwc zRd).toArray.toList) := below_setCells _ _ _ _ hB1 (Nat.le_refl _)
    have hv3 : (w1.setCells w.heap.size 0 (rwc zRd).toArray.toList).cell? ⟨w.heap.size + 1, 0, none⟩ = some (.int .i64 0) := by
      rw [World.cell?_setCells_out _ _ _ _ _ (fun e => absurd e (by simp))]; exact hc
    generalize w1.setCells w.heap.size 0 (rwc zRd).toArray.toList = w3 at *
    simp [Leaves, settle]
    refine ⟨_, results_row_int rfl _ _ w.heap.size _ _ _ 5 rfl rfl (rangeAt_far r3 (by simp) _) (World.cell?_setCell_same _ _ _ hv3) Tryd.underlying26 rfl (rub_info' zRd_ok.1) ?_, rfl, ?_⟩
    · simp [loadVar, go_sem, World.cell?_setCell_same _ _ _ hv3]
    · exact hB3.setCell (by simp) _
end Go.Proofs.YtngondeaeipcfaaDoor
