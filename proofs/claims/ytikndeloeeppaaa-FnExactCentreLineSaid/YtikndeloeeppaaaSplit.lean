/- The model splits a text. -/
import Derived.Test.YtikndeloeeppaaaWordsP
import Derived.Test.YtikndeloeeppaaaMarkStrs
import Derived.Test.YtikndeloeeppaaaClone
import Derived.Test.YtikndeloeeppaaaSpecText
import Derived.Maps.AppendAt
import Derived.Sort.EncStr
import Derived.Lib.Strings
namespace Go.Proofs.Ytikndeloeeppaaa
open Go Go.RowKit Go.Sort

theorem enc_one (l : List (List UInt8)) : ∀ v ∈ l.map encStr, v.oneCell' = true := by
  intro v hv
  obtain ⟨x, _, rfl⟩ := List.mem_map.1 hv
  rfl
theorem strsIn_of_own {w : World} {base e n : Nat} {v : Value} {ss : List (List UInt8)} (h : w.ownsRow base e 1 v n (ss.map encStr)) (hn : n = ss.length) :
    ∃ A' c', v = .slice A' n c' ∧ n ≤ c' ∧ StrsIn w base A' (ss.map fun x => ⟨x.toArray⟩) := by
  rcases h.2 with ⟨rfl, h0⟩ | ⟨g, cap, cur, rfl, hbg, hg, hnc, _, hsz, htk⟩
  · exact ⟨none, 0, by rw [h0], by omega, fun hne => (hne (by have : ss = [] := List.length_eq_zero_iff.1 (by omega); rw [this]; rfl)).elim⟩
  · refine ⟨_, cap, rfl, hnc, fun _ => ⟨g, 0, rfl, hbg, (Array.getElem?_eq_some_iff.1 hg).1, fun k x hx => ?_, fun j hj => ?_⟩⟩
    · rw [List.getElem?_map] at hx
      obtain ⟨y, hy, rfl⟩ := Option.map_eq_some_iff.1 hx
      rw [cell_of_row _ _ _ _ _ _ hg]
      have h1 : (ss.map encStr)[k]? = some (encStr y) := by rw [List.getElem?_map, hy]; rfl
      rw [← htk, List.getElem?_take] at h1
      rw [Nat.zero_add]
      split at h1
      · simpa using h1
      · cases h1
    · refine ⟨?_, frozen_of_row _ _ _ _ _ hg⟩
      rw [cell_of_row _ _ _ _ _ _ hg]
      rw [List.length_map] at hj
      have : 0 + j < cur.size := by rw [hsz]; omega
      simp [this]
      omega

theorem splitL_len : ∀ L : List UInt8, (splitL L).length ≤ L.length + 1
  | [] => by simp [splitL]
  | c :: cs => by
    have ih := splitL_len cs
    by_cases hc : c = 32
    · subst hc; rw [splitL_32]; simp only [List.length_cons]; omega
    · rw [splitL_other _ hc]
      have hne := splitL_ne cs
      cases h : splitL cs with
      | nil => exact (hne h).elim
      | cons a t => rw [h] at ih; simp only [glue, List.length_cons] at *; omega
theorem own_below {w wr w1 : World} {e : TypeId} {v : Value} {n : Nat} {xs : List Value} {o : Obj} (hB : Below w.heap.size w wr) (h : wr.ownsRow w.heap.size e 1 v n xs) (hg : (wr.alloc o).grownBy w1 v.ownBlock) : Below w.heap.size w w1 :=
  (hB.alloc hB.size o).grown hg (by have := hB.size; simp; omega) (fun k hk => (h.lt k hk).1)
theorem take_snoc {L : List UInt8} {b k : Nat} (hk : k < L.length) (hb : b ≤ k) : (L.drop b).take (k + 1 - b) = (L.drop b).take (k - b) ++ [L[k]] := by
  have e : k + 1 - b = (k - b) + 1 := by omega
  have hlt : k - b < (L.drop b).length := by rw [List.length_drop]; omega
  rw [e, List.take_succ_eq_append_getElem hlt]
  congr 2
  rw [List.getElem_drop]
  congr 1
  omega

set_option maxRecDepth 100000 in
set_option maxHeartbeats 4000000 in
theorem l01Split_any (s : ByteArray) (w : World) (hs : s.size ≤ 1048576) :
    Calls Try.prog 167 #[.string s, .int .u8 32] w fun e w' => ∃ A' c', e = .returned (.slice A' (splitL s.data.toList).length c') ∧ (splitL s.data.toList).length ≤ c' ∧ StrsIn w' w.heap.size A' ((splitL s.data.toList).map fun x => ⟨x.toArray⟩) ∧ Below w.heap.size w w' := by
  obtain ⟨i0, hi0, hz0, hz1, hz2⟩ := info_parts Try.infoString
  have hL : s.data.toList.length = s.size := by simp
  obtain ⟨S, hS⟩ : ∃ S, splitL s.data.toList = S := ⟨_, rfl⟩
  have hSL : S.length ≤ s.size + 1 := by rw [← hS, ← hL]; exact splitL_len _
  rw [hS]
  have HS := hide hS
  have HL := hide hL
  have HII := hide (⟨hi0, hz0, hz1, hz2⟩ : _ ∧ _ ∧ _ ∧ _)
  have ho := World.ownsRow_made (base := w.heap.size) (e := 9) (size := 1) w #[] 0 (Nat.le_refl _) (by unfold maxLen; omega) rfl
  have HO := hide ho
  clear hS hL hi0 hz0 hz1 hz2 ho
  go_enter Try.func167, Try.ntmps167
  go_wp2
  go_loopw [5, 6, 7] (fun out bg i wr => ∃ (k b : Nat) (v : Value) (pre : List (List UInt8)), k ≤ s.size ∧ b ≤ k ∧ out = v ∧ bg = .int .i64 b ∧ i = .int .i64 k ∧ pre.length ≤ k ∧
      Hid (wr.ownsRow w.heap.size 9 1 v pre.length (pre.map encStr)) ∧ Below w.heap.size w wr ∧ Hid (S = pre ++ glue ((s.data.toList.drop b).take (k - b)) (splitL (s.data.toList.drop k))))
    (fun _ _ i _ => s.size - (intOf i).toNat)
  case atStart =>
    refine ⟨0, 0, _, [], by omega, by omega, rfl, rfl, rfl, by simp, ?_, ?_, hide ?_⟩
    · exact HO
    · exact (Below.refl _ _).alloc (Nat.le_refl _) _
    · rw [← HS.out]; simp [glue_nil (splitL_ne _)]
  case round =>
    obtain ⟨k, b, v, pre, hk, hbk, rfl, rfl, rfl, hpk, HOW, hB, HG⟩ := hrel
    by_cases hlt : k < s.size
    · have hi : (k : Int) < s.size := by omega
      have h0 : (0 : Int) ≤ k := by omega
      have hbk' : (b : Int) ≤ k := by omega
      have hb0 : (0 : Int) ≤ b := by omega
      have hks : (k : Int) ≤ s.size := by omega
      have hdk : s.data.toList.drop k = s[k] :: s.data.toList.drop (k + 1) := by
        rw [List.drop_eq_getElem_cons (by rw [HL.out]; exact hlt)]; rfl
      cases h32 : ((s[k].toNat : Int) == 32)
      · have hne : s[k] ≠ 32 := fun e => by rw [e] at h32; cases h32
        have hg2 : S = pre ++ glue ((s.data.toList.drop b).take (k + 1 - b)) (splitL (s.data.toList.drop (k + 1))) := by
          rw [HG.out, hdk, splitL_other _ hne, glue_glue, take_snoc (by rw [HL.out]; exact hlt) hbk]; rfl
        have HG2 := hide hg2
        clear hg2 hdk hne HG
        go_wp2
        exact ⟨⟨k + 1, b, _, pre, by omega, by omega, rfl, rfl, by go_num, by omega, HOW, hB, HG2⟩, by simp [intOf]; omega⟩
      · have he : s[k] = 32 := by
          have : s[k].toNat = 32 := by have : (s[k].toNat : Int) = 32 := by simpa using h32
                                       omega
          exact UInt8.toNat_inj.1 this
        have hg2 : S = (pre ++ [(s.data.toList.drop b).take (k - b)]) ++ glue ((s.data.toList.drop (k + 1)).take (k + 1 - (k + 1))) (splitL (s.data.toList.drop (k + 1))) := by
          rw [HG.out, hdk, he, splitL_32, Nat.sub_self, List.take_zero, glue_nil (splitL_ne _)]
          simp [glue]
        have HG2 := hide hg2
        have hex := Lib.extract_eq s b k
        have HX := hide hex
        clear hg2 hdk he HG hex
        go_wp2_with (at_builtin; rw [HX.out]; refine wpList_append_own _ rfl (.tmp 20) (.tmp 25) 60 rfl w.heap.size 9 i0 _ 1 16 Try.underlying60 HII.out.1 HII.out.2.1 HII.out.2.2.1 HII.out.2.2.2 rfl (by decide) _ _ _ rfl (HOW.out.alloc _) ⟨wr.heap.size, 0, none⟩ 1 1 [encStr ((s.data.toList.drop b).take (k - b))] rfl rfl (cell_one_new _ _ _) (by simp [Value.oneCell']) (by unfold maxLen; omega) (by omega) (by have := hB.size; simp; omega) ?_; intro v' w1 hown1 hgrow hx1)
        have hb1 := own_below hB HOW.out hgrow
        exact ⟨⟨k + 1, k + 1, v', pre ++ [(s.data.toList.drop b).take (k - b)], by omega, by omega, rfl, by go_num, by go_num, by simp; omega, hide (by simpa using hown1), hb1, HG2⟩, by simp [intOf]; omega⟩
    · obtain rfl : k = s.size := by omega
      have hg2 : S = pre ++ [(s.data.toList.drop b).take (s.size - b)] := by
        have hdn : s.data.toList.drop s.size = [] := List.drop_eq_nil_of_le (by rw [HL.out]; exact Nat.le_refl _)
        rw [HG.out, hdn]
        simp [splitL, glue]
      have HG2 := hide hg2
      have hex := Lib.extract_eq s b s.size
      have HX := hide hex
      have hbk' : (b : Int) ≤ s.size := by omega
      have hb0 : (0 : Int) ≤ b := by omega
      clear hg2 HG hex
      go_wp2_with (at_builtin; rw [HX.out]; refine wpList_append_own _ rfl (.tmp 29) (.tmp 33) 60 rfl w.heap.size 9 i0 _ 1 16 Try.underlying60 HII.out.1 HII.out.2.1 HII.out.2.2.1 HII.out.2.2.2 rfl (by decide) _ _ _ rfl (HOW.out.alloc _) ⟨wr.heap.size, 0, none⟩ 1 1 [encStr ((s.data.toList.drop b).take (s.size - b))] rfl rfl (cell_one_new _ _ _) (by simp [Value.oneCell']) (by unfold maxLen; omega) (by omega) (by have := hB.size; simp; omega) ?_; intro v' w1 hown1 hgrow hx1)
      have hb1 := own_below hB HOW.out hgrow
      have hn : S.length = pre.length + 1 := by rw [HG2.out]; simp
      have hown2 : w1.ownsRow w.heap.size 9 1 v' S.length (S.map encStr) := by rw [hn, HG2.out]; simpa using hown1
      obtain ⟨A', c', rfl, hc', hP⟩ := strsIn_of_own hown2 rfl
      go_ret
      exact ⟨A', c', rfl, hc', hP, hb1⟩
end Go.Proofs.Ytikndeloeeppaaa
