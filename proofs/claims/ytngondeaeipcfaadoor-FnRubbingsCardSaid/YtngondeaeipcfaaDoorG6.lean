/- The program's test of a word, its width, and WordWide of both. · WordWide of the model and of the program: the same two numbers. · JoinWords of the model and of the program: the same text and number. · The text that marks a place. · Lists of texts are marked, and the marks are held. · Pairs are copied: slices.Clone, and append behind an empty slice. · The model splits a text. -/
import Derived.Test.YtngondeaeipcfaaDoorG5
import Derived.Test.YtngondeaeipcfaaDoorG4
import Derived.Test.YtngondeaeipcfaaDoorShelf
import Derived.Test.YtngondeaeipcfaaDoorG3
import Derived.Laws.Concat
import Derived.Laws.BytesArg
import Derived.Test.YtngondeaeipcfaaDoorG2
import Derived.Test.YtngondeaeipcfaaDoorG1
import Derived.OwnWalk
import Derived.Lib.SliceRun
import Derived.Maps.AppendAt
import Derived.Sort.EncStr
import Derived.Lib.Strings

namespace Go.Proofs.YtngondeaeipcfaaDoor
open Go.RowKit

end Go.Proofs.YtngondeaeipcfaaDoor

namespace Go.Proofs.YtngondeaeipcfaaDoor
open Go.RowKit

noncomputable def wwV (F : Fc) (L : List UInt8) : Int := if vface F = true ∧ vword L = true then wideL F L else 0
noncomputable def wwC (F : Fc) (L : List UInt8) : Int := if vface F = true ∧ vword L = true then 0 else 1
theorem ww_ok {F : Fc} {L : List UInt8} (h : vface F = true) (h' : vword L = true) : wwV F L = wideL F L ∧ wwC F L = 0 := by
  unfold wwV wwC; rw [if_pos ⟨h, h'⟩, if_pos ⟨h, h'⟩]; exact ⟨rfl, rfl⟩
theorem ww_no {F : Fc} {L : List UInt8} (h : ¬ (vface F = true ∧ vword L = true)) : wwV F L = 0 ∧ wwC F L = 1 := by
  unfold wwV wwC; rw [if_neg h, if_neg h]; exact ⟨rfl, rfl⟩

end Go.Proofs.YtngondeaeipcfaaDoor

namespace Go.Proofs.YtngondeaeipcfaaDoor
open Go.RowKit

theorem jw_ok {xs : List (List UInt8)} (h : jwB xs = true) : jwV xs = ⟨(J xs).toArray⟩ ∧ jwC xs = 0 := by unfold jwV jwC; rw [if_pos h, if_pos h]; exact ⟨rfl, rfl⟩
theorem jw_no {xs : List (List UInt8)} (h : jwB xs = false) : jwV xs = ⟨#[]⟩ ∧ jwC xs = 1 := by unfold jwV jwC; rw [h]; exact ⟨rfl, rfl⟩
theorem ret_si {s t : ByteArray} {i j : Int} (h : s = t) (h' : i = j) : Ending.returned (.tuple #[.string s, .int .i64 i]) = .returned (.tuple #[.string t, .int .i64 j]) := by rw [h, h']
theorem ret_st {s t : ByteArray} (h : s = t) : Ending.returned (.string s) = .returned (.string t) := by rw [h]
theorem ba_ext {s : ByteArray} {l : List UInt8} (h : s.data.toList = l) : s = ⟨l.toArray⟩ := by
  obtain ⟨⟨d⟩⟩ := s; simp at h; rw [h]
theorem append_data (s t : ByteArray) : (s ++ t).data.toList = s.data.toList ++ t.data.toList := by simp
theorem append_size (s t : ByteArray) : (s ++ t).size = s.size + t.size := by simp

end Go.Proofs.YtngondeaeipcfaaDoor

namespace Go.Proofs.YtngondeaeipcfaaDoor
open Go.RowKit

def dgN : Nat → Nat → ByteArray → ByteArray
  | 0, _, t => t
  | f + 1, j, t => if j = 0 then t else dgN f (j / 10) (strOfNums [48 + (j : Int) % 10] ++ t)
theorem dgN_zero (f : Nat) (t : ByteArray) : dgN f 0 t = t := by cases f <;> rfl
theorem dgN_step {f j : Nat} (t : ByteArray) (h0 : j ≠ 0) (hf : j ≤ f) : ∃ f', j / 10 ≤ f' ∧ dgN f j t = dgN f' (j / 10) (strOfNums [48 + (j : Int) % 10] ++ t) := by
  cases f with
  | zero => omega
  | succ f => exact ⟨f, by omega, by show (if j = 0 then _ else _) = _; rw [if_neg h0]⟩
/-- What markText says of k. -/
def mtext (k : Nat) : ByteArray := if k = 0 then ⟨#[109, 48]⟩ else ⟨#[109]⟩ ++ dgN k k ⟨#[]⟩

end Go.Proofs.YtngondeaeipcfaaDoor

namespace Go.Proofs.YtngondeaeipcfaaDoor
open Go.RowKit

def marksS (k n : Nat) : List ByteArray := (List.range n).map fun j => mtext (k + j)
theorem marksS_len (k n : Nat) : (marksS k n).length = n := by simp [marksS]
theorem marksS_get {k n j : Nat} (h : j < n) : (marksS k n)[j]? = some (mtext (k + j)) := by simp [marksS, List.getElem?_range h]
/-- The block that the texts lie in. -/
def blkS (A : Option Addr) (xs : List ByteArray) : Option Nat := match xs with
  | [] => none
  | _ :: _ => A.map (·.block)
theorem blkS_some {b o : Nat} {xs : List ByteArray} (h : xs ≠ []) : blkS (some ⟨b, o, none⟩) xs = some b := by
  cases xs with
  | nil => exact (h rfl).elim
  | cons a t => rfl
theorem blkS_bd {w : World} {L : Nat} {A : Option Addr} {xs : List ByteArray} (h : StrsIn w L A xs) : ∀ k, blkS A xs = some k → L ≤ k ∧ k < w.heap.size := by
  intro k hk
  cases xs with
  | nil => cases hk
  | cons a t =>
    obtain ⟨b, o, rfl, h1, h2, _⟩ := h (by simp)
    cases hk
    exact ⟨h1, h2⟩
theorem grown_strsAt {w w' : World} {r : Option Nat} {B : Nat} (h : w.grownBy w' r) {A : Option Addr} {xs : List ByteArray} (hP : StrsAt w B A xs) (hB : B ≤ w.heap.size) (hne : ∀ k, r = some k → B ≤ k) : StrsAt w' B A xs :=
  hP.below (grown_toBelow h hB hne)

end Go.Proofs.YtngondeaeipcfaaDoor

namespace Go.Proofs.YtngondeaeipcfaaDoor
open Go.RowKit

def flat (ps : List (Int × Int × Int)) : List Value := ps.flatMap pc
theorem flat_len (ps : List (Int × Int × Int)) : (flat ps).length = ps.length * 3 := by
  induction ps with
  | nil => rfl
  | cons p r ih => simp only [flat, List.flatMap_cons, List.length_append, List.length_cons] at *; rw [ih]; simp [pc]; omega
theorem flat_get {ps : List (Int × Int × Int)} {k j : Nat} {p : Int × Int × Int} {v : Value} (hp : ps[k]? = some p) (hv : (pc p)[j]? = some v) : (flat ps)[k * 3 + j]? = some v := by
  induction ps generalizing k with
  | nil => simp at hp
  | cons q r ih =>
    have hj : j < 3 := by have := (List.getElem?_eq_some_iff.1 hv).1; simpa [pc] using this
    have hq : (pc q).length = 3 := rfl
    simp only [flat, List.flatMap_cons]
    cases k with
    | zero =>
      simp at hp; subst hp
      rw [Nat.zero_mul, Nat.zero_add, List.getElem?_append_left (by rw [hq]; exact hj)]; exact hv
    | succ k =>
      have e : (k + 1) * 3 + j - (pc q).length = k * 3 + j := by rw [hq]; omega
      rw [List.getElem?_append_right (by rw [hq]; omega), e]
      exact ih (by simpa using hp)
theorem flat_inv {ps : List (Int × Int × Int)} {i : Nat} {v : Value} (h : (flat ps)[i]? = some v) : ∃ p, ps[i / 3]? = some p ∧ (pc p)[i % 3]? = some v := by
  have hi := (List.getElem?_eq_some_iff.1 h).1
  rw [flat_len] at hi
  have hk : i / 3 < ps.length := by omega
  have hp : ps[i / 3]? = some (ps[i / 3]'hk) := List.getElem?_eq_getElem _
  have hr : i % 3 < (pc (ps[i / 3]'hk)).length := by show i % 3 < 3; omega
  have hv : (pc (ps[i / 3]'hk))[i % 3]? = some ((pc (ps[i / 3]'hk))[i % 3]'hr) := List.getElem?_eq_getElem _
  have hf := flat_get hp hv
  have e : i / 3 * 3 + i % 3 = i := by omega
  rw [e, h] at hf
  exact ⟨_, hp, by rw [hv, ← Option.some.inj hf]⟩
theorem flat_one (ps : List (Int × Int × Int)) : ∀ u ∈ flat ps, u.oneCell' = true := by
  intro u hu
  obtain ⟨i, hi⟩ := List.getElem?_of_mem hu
  obtain ⟨p, _, hv⟩ := flat_inv hi
  have hm := List.mem_of_getElem? hv
  simp [pc] at hm
  rcases hm with rfl | rfl | rfl <;> rfl
theorem pairsIn_of_own {w : World} {base e n : Nat} {v : Value} {ps : List (Int × Int × Int)} (h : w.ownsRow base e 3 v n (flat ps)) (hn : n = ps.length) (hb : base ≤ w.heap.size) :
    ∃ A' c', v = .slice A' n c' ∧ n ≤ c' ∧ PairsIn w base A' ps := by
  rcases h.2 with ⟨rfl, h0⟩ | ⟨g, cap, cur, rfl, hbg, hg, hnc, _, hsz, htk⟩
  · exact ⟨none, 0, by rw [h0], by omega, fun hne => (hne (List.length_eq_zero_iff.1 (by omega))).elim⟩
  · refine ⟨_, cap, rfl, hnc, fun _ => ⟨g, 0, rfl, hbg, (Array.getElem?_eq_some_iff.1 hg).1, fun k p hp j u hu => ?_, fun j hj => ?_⟩⟩
    · have hk := (List.getElem?_eq_some_iff.1 hp).1
      have hj : j < 3 := by have := (List.getElem?_eq_some_iff.1 hu).1; simpa [pc] using this
      rw [cell_of_row _ _ _ _ _ _ hg]
      have := flat_get hp hu
      rw [← htk, List.getElem?_take] at this
      rw [Nat.zero_add]
      split at this
      · simpa using this
      · cases this
    · refine ⟨?_, frozen_of_row _ _ _ _ _ hg⟩
      rw [cell_of_row _ _ _ _ _ _ hg]
      have : 0 + j < cur.size := by rw [hsz]; have : ps.length * 3 ≤ cap * 3 := by omega
                                    omega
      simp [this]
      omega
theorem addr_add (b o i : Nat) : (⟨b, o, none⟩ : Addr).add i = ⟨b, o + i, none⟩ := by unfold Addr.add; split <;> simp_all
theorem news_of {w : World} {b o : Nat} {ps : List (Int × Int × Int)} (hP : ∀ k p, ps[k]? = some p → w.rangeAt b (o + k * 3) (pc p)) : ∀ j u, (flat ps)[j]? = some u → w.cell? ((⟨b, o, none⟩ : Addr).add j) = some u := by
  intro j u hu
  obtain ⟨p, hp, hv⟩ := flat_inv hu
  have := hP _ p hp _ u hv
  rw [addr_add]
  have e : o + j / 3 * 3 + j % 3 = o + j := by omega
  rw [e] at this; exact this

theorem Tryd.infoPair2 : (Tryd.prog.info? 138).map (fun i => (i.zero, i.size, i.bytes)) = some (some (.agg #[.int .u8 0, .int .u8 0, .int .i8 0]), 3, 3) := by kernel_rfl

end Go.Proofs.YtngondeaeipcfaaDoor

namespace Go.Proofs.YtngondeaeipcfaaDoor
open Go Go.RowKit Go.Sort

theorem enc_one (l : List (List UInt8)) : ∀ v ∈ l.map encStr, v.oneCell' = true := by
  intro v hv
  obtain ⟨x, _, rfl⟩ := List.mem_map.1 hv
  rfl
theorem strsIn_of_own {w : World} {base e n : Nat} {v : Value} {ss : List (List UInt8)} (h : w.ownsRow base e 1 v n (ss.map encStr)) (hn : n = ss.length) :
    ∃ A' c', v = .slice A' n c' ∧ n ≤ c' ∧ StrsIn w base A' (ss.map fun x => ⟨x.toArray⟩) := by
  rcases h.2 with ⟨rfl, h0⟩ | ⟨g, cap, cur, rfl, hbg, hg, hnc, _, hsz, htk⟩
  · exact ⟨none, 0, by rw [h0], by omega, fun hne => (hne (by have : ss = [] := List.length_eq_zero_iff.1 (by omega); rw [this]; rfl)).elim⟩
  · refine ⟨_, cap, rfl, hnc, fun _ => ⟨g, 0, rfl, hbg, (Array.getElem?_eq_some_iff.1 hg).1, fun k x hx => ?_, fun j hj => ?_⟩⟩
    · rw [List.getElem?_map] at hx
      obtain ⟨y, hy, rfl⟩ := Option.map_eq_some_iff.1 hx
      rw [cell_of_row _ _ _ _ _ _ hg]
      have h1 : (ss.map encStr)[k]? = some (encStr y) := by rw [List.getElem?_map, hy]; rfl
      rw [← htk, List.getElem?_take] at h1
      rw [Nat.zero_add]
      split at h1
      · simpa using h1
      · cases h1
    · refine ⟨?_, frozen_of_row _ _ _ _ _ hg⟩
      rw [cell_of_row _ _ _ _ _ _ hg]
      rw [List.length_map] at hj
      have : 0 + j < cur.size := by rw [hsz]; omega
      simp [this]
      omega

theorem splitL_len : ∀ L : List UInt8, (splitL L).length ≤ L.length + 1
  | [] => by simp [splitL]
  | c :: cs => by
    have ih := splitL_len cs
    by_cases hc : c = 32
    · subst hc; rw [splitL_32]; simp only [List.length_cons]; omega
    · rw [splitL_other _ hc]
      have hne := splitL_ne cs
      cases h : splitL cs with
      | nil => exact (hne h).elim
      | cons a t => rw [h] at ih; simp only [glue, List.length_cons] at *; omega
theorem own_below {w wr w1 : World} {e : TypeId} {v : Value} {n : Nat} {xs : List Value} {o : Obj} (hB : Below w.heap.size w wr) (h : wr.ownsRow w.heap.size e 1 v n xs) (hg : (wr.alloc o).grownBy w1 v.ownBlock) : Below w.heap.size w w1 :=
  (hB.alloc hB.size o).grown hg (by have := hB.size; simp; omega) (fun k hk => (h.lt k hk).1)
theorem take_snoc {L : List UInt8} {b k : Nat} (hk : k < L.length) (hb : b ≤ k) : (L.drop b).take (k + 1 - b) = (L.drop b).take (k - b) ++ [L[k]] := by
  have e : k + 1 - b = (k - b) + 1 := by omega
  have hlt : k - b < (L.drop b).length := by rw [List.length_drop]; omega
  rw [e, List.take_succ_eq_append_getElem hlt]
  congr 2
  rw [List.getElem_drop]
  congr 1
  omega

set_option maxRecDepth 100000 in
set_option maxHeartbeats 4000000 in
theorem l01Split_any (s : ByteArray) (w : World) (hs : s.size ≤ 1048576) :
    Calls Tryd.prog 202 #[.string s, .int .u8 32] w fun e w' => ∃ A' c', e = .returned (.slice A' (splitL s.data.toList).length c') ∧ (splitL s.data.toList).length ≤ c' ∧ StrsIn w' w.heap.size A' ((splitL s.data.toList).map fun x => ⟨x.toArray⟩) ∧ Below w.heap.size w w' := by
  obtain ⟨i0, hi0, hz0, hz1, hz2⟩ := info_parts Tryd.infoString
  have hL : s.data.toList.length = s.size := by simp
  obtain ⟨S, hS⟩ : ∃ S, splitL s.data.toList = S := ⟨_, rfl⟩
  have hSL : S.length ≤ s.size + 1 := by rw [← hS, ← hL]; exact splitL_len _
  rw [hS]
  have HS := hide hS
  have HL := hide hL
  have HII := hide (⟨hi0, hz0, hz1, hz2⟩ : _ ∧ _ ∧ _ ∧ _)
  have ho := World.ownsRow_made (base := w.heap.size) (e := 9) (size := 1) w #[] 0 (Nat.le_refl _) (by unfold maxLen; omega) rfl
  have HO := hide ho
  clear hS hL hi0 hz0 hz1 hz2 ho
  go_enter Tryd.func202, Tryd.ntmps202
  go_wp2
  go_loopw [5, 6, 7] (fun out bg i wr => ∃ (k b : Nat) (v : Value) (pre : List (List UInt8)), k ≤ s.size ∧ b ≤ k ∧ out = v ∧ bg = .int .i64 b ∧ i = .int .i64 k ∧ pre.length ≤ k ∧
      Hid (wr.ownsRow w.heap.size 9 1 v pre.length (pre.map encStr)) ∧ Below w.heap.size w wr ∧ Hid (S = pre ++ glue ((s.data.toList.drop b).take (k - b)) (splitL (s.data.toList.drop k))))
    (fun _ _ i _ => s.size - (intOf i).toNat)
  case atStart =>
    refine ⟨0, 0, _, [], by omega, by omega, rfl, rfl, rfl, by simp, ?_, ?_, hide ?_⟩
    · exact HO
    · exact (Below.refl _ _).alloc (Nat.le_refl _) _
    · rw [← HS.out]; simp [glue_nil (splitL_ne _)]
  case round =>
    obtain ⟨k, b, v, pre, hk, hbk, rfl, rfl, rfl, hpk, HOW, hB, HG⟩ := hrel
    by_cases hlt : k < s.size
    · have hi : (k : Int) < s.size := by omega
      have h0 : (0 : Int) ≤ k := by omega
      have hbk' : (b : Int) ≤ k := by omega
      have hb0 : (0 : Int) ≤ b := by omega
      have hks : (k : Int) ≤ s.size := by omega
      have hdk : s.data.toList.drop k = s[k] :: s.data.toList.drop (k + 1) := by
        rw [List.drop_eq_getElem_cons (by rw [HL.out]; exact hlt)]; rfl
      cases h32 : ((s[k].toNat : Int) == 32)
      · have hne : s[k] ≠ 32 := fun e => by rw [e] at h32; cases h32
        have hg2 : S = pre ++ glue ((s.data.toList.drop b).take (k + 1 - b)) (splitL (s.data.toList.drop (k + 1))) := by
          rw [HG.out, hdk, splitL_other _ hne, glue_glue, take_snoc (by rw [HL.out]; exact hlt) hbk]; rfl
        have HG2 := hide hg2
        clear hg2 hdk hne HG
        go_wp2
        exact ⟨⟨k + 1, b, _, pre, by omega, by omega, rfl, rfl, by go_num, by omega, HOW, hB, HG2⟩, by simp [intOf]; omega⟩
      · have he : s[k] = 32 := by
          have : s[k].toNat = 32 := by have : (s[k].toNat : Int) = 32 := by simpa using h32
                                       omega
          exact UInt8.toNat_inj.1 this
        have hg2 : S = (pre ++ [(s.data.toList.drop b).take (k - b)]) ++ glue ((s.data.toList.drop (k + 1)).take (k + 1 - (k + 1))) (splitL (s.data.toList.drop (k + 1))) := by
          rw [HG.out, hdk, he, splitL_32, Nat.sub_self, List.take_zero, glue_nil (splitL_ne _)]
          simp [glue]
        have HG2 := hide hg2
        have hex := Lib.extract_eq s b k
        have HX := hide hex
        clear hg2 hdk he HG hex
        go_wp2_with (at_builtin; rw [HX.out]; refine wpList_append_own _ rfl (.tmp 20) (.tmp 25) 135 rfl w.heap.size 9 i0 _ 1 16 Tryd.underlying135 HII.out.1 HII.out.2.1 HII.out.2.2.1 HII.out.2.2.2 rfl (by decide) _ _ _ rfl (HOW.out.alloc _) ⟨wr.heap.size, 0, none⟩ 1 1 [encStr ((s.data.toList.drop b).take (k - b))] rfl rfl (cell_one_new _ _ _) (by simp [Value.oneCell']) (by unfold maxLen; omega) (by omega) (by have := hB.size; simp; omega) ?_; intro v' w1 hown1 hgrow hx1)
        have hb1 := own_below hB HOW.out hgrow
        exact ⟨⟨k + 1, k + 1, v', pre ++ [(s.data.toList.drop b).take (k - b)], by omega, by omega, rfl, by go_num, by go_num, by simp; omega, hide (by simpa using hown1), hb1, HG2⟩, by simp [intOf]; omega⟩
    · obtain rfl : k = s.size := by omega
      have hg2 : S = pre ++ [(s.data.toList.drop b).take (s.size - b)] := by
        have hdn : s.data.toList.drop s.size = [] := List.drop_eq_nil_of_le (by rw [HL.out]; exact Nat.le_refl _)
        rw [HG.out, hdn]
        simp [splitL, glue]
      have HG2 := hide hg2
      have hex := Lib.extract_eq s b s.size
      have HX := hide hex
      have hbk' : (b : Int) ≤ s.size := by omega
      have hb0 : (0 : Int) ≤ b := by omega
      clear hg2 HG hex
      go_wp2_with (at_builtin; rw [HX.out]; refine wpList_append_own _ rfl (.tmp 29) (.tmp 33) 135 rfl w.heap.size 9 i0 _ 1 16 Tryd.underlying135 HII.out.1 HII.out.2.1 HII.out.2.2.1 HII.out.2.2.2 rfl (by decide) _ _ _ rfl (HOW.out.alloc _) ⟨wr.heap.size, 0, none⟩ 1 1 [encStr ((s.data.toList.drop b).take (s.size - b))] rfl rfl (cell_one_new _ _ _) (by simp [Value.oneCell']) (by unfold maxLen; omega) (by omega) (by have := hB.size; simp; omega) ?_; intro v' w1 hown1 hgrow hx1)
      have hb1 := own_below hB HOW.out hgrow
      have hn : S.length = pre.length + 1 := by rw [HG2.out]; simp
      have hown2 : w1.ownsRow w.heap.size 9 1 v' S.length (S.map encStr) := by rw [hn, HG2.out]; simpa using hown1
      obtain ⟨A', c', rfl, hc', hP⟩ := strsIn_of_own hown2 rfl
      go_ret
      exact ⟨A', c', rfl, hc', hP, hb1⟩
end Go.Proofs.YtngondeaeipcfaaDoor
