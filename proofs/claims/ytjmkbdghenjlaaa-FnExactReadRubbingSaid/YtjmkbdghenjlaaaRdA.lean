/- A rubbing that is read from its text, of the model. -/
import Derived.Test.YtjmkbdghenjlaaaRdP
import Derived.Test.YtjmkbdghenjlaaaRbG
import Derived.Test.YtjmkbdghenjlaaaG6
import Derived.StillTailTactics
namespace Go.Proofs.Ytjmkbdghenjlaaa
open Go Go.RowKit

set_option maxRecDepth 100000 in
set_option maxHeartbeats 4000000 in
theorem l01SplitT_any (s : ByteArray) (w : World) (hs : s.size ≤ 1048576) :
    Calls Try.prog 25 #[.string s, .int .u8 10] w fun e w' => ∃ A' c', e = .returned (.slice A' (splitT s.data.toList).length c') ∧ (splitT s.data.toList).length ≤ c' ∧ StrsIn w' w.heap.size A' ((splitT s.data.toList).map fun x => ⟨x.toArray⟩) ∧ Below w.heap.size w w' := by
  obtain ⟨i0, hi0, hz0, hz1, hz2⟩ := info_parts Try.infoString
  have hL : s.data.toList.length = s.size := by simp
  obtain ⟨S, hS⟩ : ∃ S, splitT s.data.toList = S := ⟨_, rfl⟩
  have hSL : S.length ≤ s.size + 1 := by rw [← hS, ← hL]; exact splitT_len _
  rw [hS]
  have HS := hide hS
  have HL := hide hL
  have HII := hide (⟨hi0, hz0, hz1, hz2⟩ : _ ∧ _ ∧ _ ∧ _)
  have ho := World.ownsRow_made (base := w.heap.size) (e := 9) (size := 1) w #[] 0 (Nat.le_refl _) (by unfold maxLen; omega) rfl
  have HO := hide ho
  clear hS hL hi0 hz0 hz1 hz2 ho
  go_enter Try.func25, Try.ntmps25
  go_wp2
  go_loopw [5, 6, 7] (fun out bg i wr => ∃ (k b : Nat) (v : Value) (pre : List (List UInt8)), k ≤ s.size ∧ b ≤ k ∧ out = v ∧ bg = .int .i64 b ∧ i = .int .i64 k ∧ pre.length ≤ k ∧
      Hid (wr.ownsRow w.heap.size 9 1 v pre.length (pre.map encStr)) ∧ Below w.heap.size w wr ∧ Hid (S = pre ++ glue ((s.data.toList.drop b).take (k - b)) (splitT (s.data.toList.drop k))))
    (fun _ _ i _ => s.size - (intOf i).toNat)
  case atStart =>
    refine ⟨0, 0, _, [], by omega, by omega, rfl, rfl, rfl, by simp, ?_, ?_, hide ?_⟩
    · exact HO
    · exact (Below.refl _ _).alloc (Nat.le_refl _) _
    · rw [← HS.out]; simp [glue_nil (splitT_ne _)]
  case round =>
    obtain ⟨k, b, v, pre, hk, hbk, rfl, rfl, rfl, hpk, HOW, hB, HG⟩ := hrel
    by_cases hlt : k < s.size
    · have hi : (k : Int) < s.size := by omega
      have h0 : (0 : Int) ≤ k := by omega
      have hbk' : (b : Int) ≤ k := by omega
      have hb0 : (0 : Int) ≤ b := by omega
      have hks : (k : Int) ≤ s.size := by omega
      have hdk : s.data.toList.drop k = s[k] :: s.data.toList.drop (k + 1) := by
        rw [List.drop_eq_getElem_cons (by rw [HL.out]; exact hlt)]; rfl
      cases h32 : ((s[k].toNat : Int) == 10)
      · have hne : s[k] ≠ 10 := fun e => by rw [e] at h32; cases h32
        have hg2 : S = pre ++ glue ((s.data.toList.drop b).take (k + 1 - b)) (splitT (s.data.toList.drop (k + 1))) := by
          rw [HG.out, hdk, splitT_other _ hne, glue_glue, take_snoc (by rw [HL.out]; exact hlt) hbk]; rfl
        have HG2 := hide hg2
        clear hg2 hdk hne HG
        go_wp2
        exact ⟨⟨k + 1, b, _, pre, by omega, by omega, rfl, rfl, by go_num, by omega, HOW, hB, HG2⟩, by simp [intOf]; omega⟩
      · have he : s[k] = 10 := by
          have : s[k].toNat = 10 := by have : (s[k].toNat : Int) = 10 := by simpa using h32
                                       omega
          exact UInt8.toNat_inj.1 this
        have hg2 : S = (pre ++ [(s.data.toList.drop b).take (k - b)]) ++ glue ((s.data.toList.drop (k + 1)).take (k + 1 - (k + 1))) (splitT (s.data.toList.drop (k + 1))) := by
          rw [HG.out, hdk, he, splitT_10, Nat.sub_self, List.take_zero, glue_nil (splitT_ne _)]
          simp [glue]
        have HG2 := hide hg2
        have hex := Lib.extract_eq s b k
        have HX := hide hex
        clear hg2 hdk he HG hex
        go_wp2_with (at_builtin; rw [HX.out]; refine wpList_append_own _ rfl (.tmp 20) (.tmp 25) 61 rfl w.heap.size 9 i0 _ 1 16 Try.underlying61 HII.out.1 HII.out.2.1 HII.out.2.2.1 HII.out.2.2.2 rfl (by decide) _ _ _ rfl (HOW.out.alloc _) ⟨wr.heap.size, 0, none⟩ 1 1 [encStr ((s.data.toList.drop b).take (k - b))] rfl rfl (cell_one_new _ _ _) (by simp [Value.oneCell']) (by unfold maxLen; omega) (by omega) (by have := hB.size; simp; omega) ?_; intro v' w1 hown1 hgrow hx1)
        have hb1 := own_below hB HOW.out hgrow
        exact ⟨⟨k + 1, k + 1, v', pre ++ [(s.data.toList.drop b).take (k - b)], by omega, by omega, rfl, by go_num, by go_num, by simp; omega, hide (by simpa using hown1), hb1, HG2⟩, by simp [intOf]; omega⟩
    · obtain rfl : k = s.size := by omega
      have hg2 : S = pre ++ [(s.data.toList.drop b).take (s.size - b)] := by
        have hdn : s.data.toList.drop s.size = [] := List.drop_eq_nil_of_le (by rw [HL.out]; exact Nat.le_refl _)
        rw [HG.out, hdn]
        simp [splitT, glue]
      have HG2 := hide hg2
      have hex := Lib.extract_eq s b s.size
      have HX := hide hex
      have hbk' : (b : Int) ≤ s.size := by omega
      have hb0 : (0 : Int) ≤ b := by omega
      clear hg2 HG hex
      go_wp2_with (at_builtin; rw [HX.out]; refine wpList_append_own _ rfl (.tmp 29) (.tmp 33) 61 rfl w.heap.size 9 i0 _ 1 16 Try.underlying61 HII.out.1 HII.out.2.1 HII.out.2.2.1 HII.out.2.2.2 rfl (by decide) _ _ _ rfl (HOW.out.alloc _) ⟨wr.heap.size, 0, none⟩ 1 1 [encStr ((s.data.toList.drop b).take (s.size - b))] rfl rfl (cell_one_new _ _ _) (by simp [Value.oneCell']) (by unfold maxLen; omega) (by omega) (by have := hB.size; simp; omega) ?_; intro v' w1 hown1 hgrow hx1)
      have hb1 := own_below hB HOW.out hgrow
      have hn : S.length = pre.length + 1 := by rw [HG2.out]; simp
      have hown2 : w1.ownsRow w.heap.size 9 1 v' S.length (S.map encStr) := by rw [hn, HG2.out]; simpa using hown1
      obtain ⟨A', c', rfl, hc', hP⟩ := strsIn_of_own hown2 rfl
      go_ret
      exact ⟨A', c', rfl, hc', hP, hb1⟩

theorem results_midD {P : Program} {fn : Func} {p q : Tmp} {ty : TypeId} (h : fn.results = #[.cell p ty, .tmp q]) (tmps : Array Value) (w : World) (b o : Nat) (cs : List Value) (d : TypeDesc)
    (hp : tmps.getD p undef = .pointer (some ⟨b, o, none⟩)) (hc : w.rangeAt b o cs)
    (hu : P.underlying ty = some d) (hd : d.isRow = true) (hi : (P.info? ty).map (·.size) = some cs.length) :
    (results fn tmps).run P w = .ok (.tuple #[.agg cs.toArray, tmps.getD q undef]) w := by
  have hp' : tmps[p]?.getD undef = .pointer (some ⟨b, o, none⟩) := by simpa using hp
  simp [results, h, hp', asAddr, run_loadVar_mid w b o ty cs d hc hu hd hi]
def zRd : List Nat := List.replicate 8 0
theorem zRd_ok : rok zRd := ⟨rfl, fun x h => by have := List.eq_of_mem_replicate h; subst this; decide⟩
open Classical in
/-- What is read. -/
noncomputable def rdV (L : List UInt8) : List Nat := if okT (splitT L) then rdR L else zRd
open Classical in
noncomputable def rdC (L : List UInt8) : Int := if okT (splitT L) then 0 else 5
theorem rd_yes {L : List UInt8} (h : okT (splitT L)) : rdV L = rdR L ∧ rdC L = 0 := ⟨if_pos h, if_pos h⟩
theorem rd_no {L : List UInt8} (h : ¬ okT (splitT L)) : rdV L = zRd ∧ rdC L = 5 := ⟨if_neg h, if_neg h⟩
theorem rdV_ok (L : List UInt8) : rok (rdV L) := by
  unfold rdV; split
  · exact rubF_ok _
  · exact zRd_ok
theorem ok_len {S : List (List UInt8)} (h : S.length ≠ 9) : ¬ okT S := fun e => h e.1
theorem ok_last {S : List (List UInt8)} (h : S.getD 8 [] ≠ []) : ¬ okT S := fun e => h e.2.1
theorem ok_row {S : List (List UInt8)} {y : Nat} (hy : y < 8) (h : (S.getD y []).length ≠ 16) : ¬ okT S := fun e => h (e.2.2 y hy).1
theorem ok_dot {S : List (List UInt8)} {y : Nat} (hy : y < 8) {c : UInt8} (hc : c ∈ S.getD y []) (h1 : c ≠ 35) (h2 : c ≠ 46) : ¬ okT S := fun e => by
  rcases (e.2.2 y hy).2 c hc with h | h
  · exact h1 h
  · exact h2 h
end Go.Proofs.Ytjmkbdghenjlaaa
