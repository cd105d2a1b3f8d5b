/- The letters of a text and their strokes, of both. · The model's strokes; sums, of both; StrokesOf. -/
import Derived.Test.YtngondeaeipcfaaDoorChB
import Derived.Test.YtngondeaeipcfaaDoorGs
import Derived.Test.YtngondeaeipcfaaDoorShelf
import Derived.Lib.Replace
import Derived.Lib.IndexBytes
import Derived.Deep.RegionLaw
import Derived.Deep.AppendLies

namespace Go.Proofs.YtngondeaeipcfaaDoor
open Go Go.RowKit

/-! strings.ReplaceAll of one byte by nothing -/
theorem index_cons_eq (c : UInt8) (l : List UInt8) : Lib.index (c :: l) [c] = ((0 : Nat) : Int) := by rw [Lib.index]; simp [List.isPrefixOf]
theorem replaceK_none (c : UInt8) : ∀ s : List UInt8, Lib.replaceK [c] [] (s.count c) s = s.filter (fun b => b != c)
  | [] => rfl
  | b :: l => by
    by_cases h : b = c
    · subst h
      rw [List.count_cons_self, Lib.replaceK_hit _ _ _ _ 0 (index_cons_eq b l)]
      simp only [List.take_zero, List.nil_append, List.length_cons, List.length_nil, Nat.zero_add, List.drop_succ_cons, List.drop_zero]
      rw [replaceK_none b l]
      simp
    · rw [List.count_cons_of_ne (by simpa using h), List.filter_cons, if_pos (by simpa using h), ← replaceK_none c l]
      cases hn : l.count c with
      | zero => rfl
      | succ k =>
        have hc : 0 < Lib.count l [c] := by rw [Lib.count_one]; omega
        obtain ⟨i, hi⟩ := Lib.index_of_count hc
        have hp : ([c] : List UInt8).isPrefixOf (b :: l) = false := by simp [List.isPrefixOf, Ne.symm h]
        have hi2 : Lib.index (b :: l) [c] = ((i + 1 : Nat) : Int) := by
          rw [Lib.index, hp]
          have : ¬ (Lib.index l [c] == -1) = true := fun e => by have := beq_iff_eq.1 e; omega
          rw [if_neg (by simp), if_neg this, hi]
          omega
        rw [Lib.replaceK_hit _ _ _ _ _ hi2, Lib.replaceK_hit _ _ _ _ _ hi]
        simp
theorem replaceAll_none (c : UInt8) (s : List UInt8) : Lib.replaceAll s [c] [] = s.filter (fun b => b != c) := by
  unfold Lib.replaceAll Lib.replace
  rw [if_neg (by simp)]
  unfold Lib.replaceNum
  rw [if_pos (by left; omega), Lib.count_one, replaceK_none]

set_option maxHeartbeats 1000000 in
theorem lettersOf_any (s : ByteArray) (w : World) (hs : s.size ≤ 1048576) (hG : Glob w) :
    Calls Tryd.prog 174 #[.string s] w fun e w' => e = .returned (.string ⟨(lettL s.data.toList).toArray⟩) ∧ Below w.heap.size w w' := by
  obtain ⟨m, hm⟩ := hG
  have HC := hide (Tryd.strings_ReplaceAll s ⟨#[32]⟩ ⟨#[]⟩ m w (by omega) hm (by decide) (by show s.size + Lib.countB s ⟨#[32]⟩ * 0 ≤ _; omega))
  have HR := hide (show Lib.replaceAll s.data.toList (⟨#[32]⟩ : ByteArray).data.toList (⟨#[]⟩ : ByteArray).data.toList = lettL s.data.toList from replaceAll_none 32 _)
  clear hm
  go_enter Tryd.func174, Tryd.ntmps174
  go_wp2_with (go_at_call 205; refine HC.out.mono ?_; rintro e w1 ⟨rfl, hb1⟩)
  go_ret
  exact ⟨ret_st (by rw [HR.out]), hb1⟩

/-! The program's strokes -/
def stkT (S : List Int) (L : List UInt8) (k : Nat) : List Int := (L.take k).map (fun b => S.getD (b.toNat - 65) 0)
theorem stkT_succ {S : List Int} {L : List UInt8} {k : Nat} {b : UInt8} (h : L[k]? = some b) : stkT S L (k + 1) = stkT S L k ++ [S.getD (b.toNat - 65) 0] := by
  unfold stkT; rw [List.take_add_one, h]; simp
theorem stkT_len {S : List Int} {L : List UInt8} {k : Nat} (h : k ≤ L.length) : (stkT S L k).length = k := by unfold stkT; rw [List.length_map, List.length_take]; omega
theorem stkT_all (S : List Int) (L : List UInt8) : stkT S (lettL L) (lettL L).length = stkL S L := by unfold stkT stkL; rw [List.take_length]

set_option maxRecDepth 100000 in
set_option maxHeartbeats 8000000 in
theorem strokesIn_any (S : List Int) (hS : S.length = 26) (hSx : ∀ x ∈ S, i8ok x) (s : ByteArray) (w : World) (hv : vtext s.data.toList = true) (hG : Glob w) :
    Calls Tryd.prog 163 #[.agg (wc S).toArray, .string s] w (IntsB (stkL S s.data.toList) w) := by
  obtain ⟨i0, hi0, hz0, hz1, hz2⟩ := info_parts Tryd.infoI64
  have hs60 : s.size ≤ 60 := by have := (vtext_true.1 hv).1; simpa using this
  have hcap : ∀ b ∈ lettL s.data.toList, 65 ≤ b.toNat ∧ b.toNat ≤ 90 := fun b hb => lett_cap hv hb
  have r0 := rangeAt_new w (wc S) 80
  have b0 : Below w.heap.size w (w.alloc (.cells (wc S).toArray 80)) := (Below.refl _ _).alloc (Nat.le_refl _) _
  have s0 : w.heap.size < (w.alloc (.cells (wc S).toArray 80)).heap.size := by simp
  have HL := hide (fun W hW => lettersOf_any s W (by omega) hW)
  have HGW := hide (hG.below b0)
  have HWX := hide (fun k => wc_at hSx k)
  have HS := hide hS
  have HA := hide (stkT_all S s.data.toList)
  have hlen := lettL_len s.data.toList
  have hll : (lettL s.data.toList).length ≤ 60 := by
    have : s.data.toList.length = s.size := by simp
    omega
  have HSL := hide (show (stkL S s.data.toList).length = (lettL s.data.toList).length by unfold stkL; rw [List.length_map])
  have HCAP := hide hcap
  generalize lettL s.data.toList = M at HL HA hll HCAP HSL
  clear hv hG hSx hS hlen hs60 hcap
  go_enter Tryd.func163, Tryd.ntmps163
  go_wp2_with fail
  generalize (w.alloc (.cells (wc S).toArray 80)) = W0 at *
  refine (HL.out W0 HGW.out).mono ?_
  rintro e w1 ⟨rfl, hb1⟩
  have r1 := rangeAt_below r0 hb1 s0
  have hB1 := b0.trans (hb1.mono b0.size)
  have hz1' := hb1.size
  have hME : (⟨M.toArray⟩ : ByteArray).data.toList = M := rfl
  obtain ⟨W2, c2, hcv, hb2, hcells, hlt2⟩ := bytes_new2 ⟨M.toArray⟩ w1
  have hMS : (⟨M.toArray⟩ : ByteArray).size = M.length := by simp [ByteArray.size]
  rw [hMS] at hcv
  rw [hME] at hcells
  have HB := hide (hB1.trans (hb2.mono hB1.size))
  have r2 := rangeAt_below r1 hb2 (by omega)
  have HR := hide r2
  have HCE := hide hcells
  have hsz := hb2.size
  have hsw := b0.size
  clear hcells r0 r1 r2 hb1 hB1 hb2 b0 hME hMS HGW HL
  generalize hn : M.length = n at *
  have HN := hide hn
  clear hn
  go_wp2
  go_loopw [5, 12] (fun br i wr => ∃ k : Nat, k ≤ n ∧ i = .int .i64 k ∧ wr.ownsRow W2.heap.size 2 1 br k ((stkT S M k).map (.int .i64)) ∧ Below W2.heap.size W2 wr)
    (fun _ i _ => n - (intOf i).toNat)
  case atStart => exact ⟨0, Nat.zero_le _, rfl, World.ownsRow_nil _ _ _ _, Below.refl _ _⟩
  case round =>
    obtain ⟨k, hk, rfl, hown, hB⟩ := hrel
    obtain ⟨Ab, cbb, rfl, hcap, _⟩ := cellsIn_of_own hown (by omega)
    have hbs := hB.size
    have HOWN := hide hown
    clear hown hcv
    by_cases hlt : k < n
    · obtain ⟨b, hb⟩ : ∃ b, M[k]? = some b := ⟨M[k]'(by rw [HN.out]; exact hlt), List.getElem?_eq_getElem _⟩
      have hbx : byteAt M k = (b.toNat : Int) := by simp [byteAt, List.getD, hb]
      obtain ⟨h65, h90⟩ := HCAP.out b (List.mem_of_getElem? hb)
      have c0 : wr.cell? ⟨w1.heap.size, k, none⟩ = some (.int .u8 (b.toNat : Int)) := by
        rw [← hbx]; exact (hB.cell (p := ⟨w1.heap.size, k, none⟩) hlt2).trans (HCE.out k (by rw [HN.out]; exact hlt)).1
      have hcp : cap (b.toNat : Int) = true := cap_true.2 (by omega)
      have HI := hide (fun W => index_any (b.toNat : Int) W hcp)
      obtain ⟨j, hj⟩ : ∃ j : Nat, b.toNat = j + 65 := ⟨b.toNat - 65, by omega⟩
      have hj26 : j < 26 := by omega
      have c1 : wr.cell? ⟨w.heap.size, j, none⟩ = some (.int .i8 (S.getD j 0)) := (hB.cell (p := ⟨w.heap.size, j, none⟩) (show w.heap.size < W2.heap.size by omega)).trans (rangeAt_cell HR.out (wc_get (by rw [HS.out]; exact hj26)))
      have HTS : Hid (stkT S M (k + 1) = stkT S M k ++ [S.getD j 0]) := hide (by rw [stkT_succ hb, hj, Nat.add_sub_cancel])
      obtain ⟨v1, v2⟩ := HWX.out j
      have e1 : (b.toNat : Int) - 65 = j := by omega
      rw [e1] at HI
      generalize (b.toNat : Int) = x at c0 HI
      obtain ⟨y, hy⟩ : ∃ y, S.getD j 0 = y := ⟨_, rfl⟩
      rw [hy] at c1 v1 v2 HTS
      have hi : (k : Int) < n := by omega
      have hk0 : (0 : Int) ≤ k := by omega
      have hji : (j : Int) < 26 := by omega
      have hj0 : (0 : Int) ≤ j := by omega
      clear hb hbx h65 h90 hcp hj e1 hy
      go_wp2_with (first | (go_at_call 196; refine (HI.out _).mono ?_; rintro e w' ⟨rfl, rfl⟩) | (at_builtin; refine wpList_append_own _ rfl (.tmp 16) (.tmp 22) 36 rfl W2.heap.size 2 i0 (.int .i64 0) 1 8 Tryd.underlying36 hi0 hz0 hz1 hz2 rfl (by decide) _ k _ rfl (HOWN.out.alloc _) ⟨wr.heap.size, 0, none⟩ 1 1 [.int .i64 y] rfl rfl (one_cell _) (one_one rfl) ?h1 ?h2 ?h3 ?_))
      case h1 => unfold maxLen; omega
      case h2 => omega
      case h3 => first | omega | (simp; omega) | simp
      intro v' w4 hown4 hg4 _
      obtain ⟨A4, c4, rfl, _, _⟩ := cellsIn_of_own hown4 (by omega)
      have H4 := hide hown4
      have hg34 : wr.grownBy w4 _ := grown_trans (World.grownBy_alloc wr _ _) hg4
      have hB4 := hB.trans (grown_toBelow hg34 (by omega) (fun k hk => (HOWN.out.lt k hk).1))
      clear hown4 hg4 hg34
      go_wp2
      refine ⟨⟨k + 1, by omega, by go_num, ?_, hB4⟩, by simp [intOf]; omega⟩
      rw [HTS.out, List.map_append]
      exact H4.out
    · obtain rfl : k = n := by omega
      obtain ⟨Ag, cg, e, _, hI⟩ := intsIn_of_own HOWN.out
      injection e with e1 e2 e3
      subst e1 e3
      have HI := hide hI
      clear hI
      go_wp2
      go_ret
      refine ⟨Ab, cbb, by rw [HSL.out]; rfl, by rw [HSL.out]; exact hcap, ?_, HB.out.trans (hB.mono (by omega))⟩
      rw [← HA.out]
      exact HI.out.wider (by omega)
end Go.Proofs.YtngondeaeipcfaaDoor

namespace Go.Proofs.YtngondeaeipcfaaDoor
open Go Go.RowKit

theorem stkB {S : List Int} (hSx : ∀ x ∈ S, i8ok x) (L : List UInt8) : ∀ x ∈ stkL S L, -128 ≤ x ∧ x ≤ 127 := by
  intro x hx
  obtain ⟨b, _, rfl⟩ := List.mem_map.1 hx
  exact wc_at hSx _

set_option maxRecDepth 100000 in
set_option maxHeartbeats 8000000 in
theorem l05List_any (S : List Int) (hS : S.length = 26) (hSx : ∀ x ∈ S, i8ok x) (s : ByteArray) (b : Nat) (w : World) (hv : vtext s.data.toList = true) (hr : w.rangeAt b 0 (wc S)) (hb : b < w.heap.size) :
    Calls Tryd.prog 107 #[.pointer (some ⟨b, 0, none⟩), .string s] w (IntsB (stkL S s.data.toList) w) := by
  obtain ⟨i0, hi0, hz0, hz1, hz2⟩ := info_parts Tryd.infoI64
  have hs60 : s.size ≤ 60 := by have := (vtext_true.1 hv).1; simpa using this
  have HGOOD := hide (vtext_true.1 hv).2
  have HR := hide hr
  have HWX := hide (fun k => wc_at hSx k)
  have HS := hide hS
  have HLL := hide (fun k => stkL_len S (s.data.toList.take k))
  have hL : s.data.toList.length = s.size := by simp
  have HL := hide hL
  clear hS hSx hv hr hL
  go_enter Tryd.func107, Tryd.ntmps107
  go_wp2
  go_loopw [5, 6] (fun br i wr => ∃ k : Nat, k ≤ s.size ∧ i = .int .i64 k ∧ wr.ownsRow w.heap.size 2 1 br (stkL S (s.data.toList.take k)).length ((stkL S (s.data.toList.take k)).map (.int .i64)) ∧ Below w.heap.size w wr)
    (fun _ i _ => s.size - (intOf i).toNat)
  case atStart => exact ⟨0, Nat.zero_le _, rfl, World.ownsRow_made w _ 0 (Nat.le_refl _) (by unfold maxLen; omega) rfl, (Below.refl _ _).alloc (Nat.le_refl _) _⟩
  case round =>
    obtain ⟨k, hk, rfl, hown, hB⟩ := hrel
    obtain ⟨Ab, cbb, rfl, hcap, _⟩ := cellsIn_of_own hown (by omega)
    have hbs := hB.size
    have HOWN := hide hown
    have hll : (stkL S (s.data.toList.take k)).length ≤ 60 := by have := HLL.out k; rw [List.length_take] at this; omega
    clear hown
    by_cases hlt : k < s.size
    · have hget : s.data.toList[k]? = some s[k] := by
        have h' : k < s.data.toList.length := by simpa using hlt
        rw [List.getElem?_eq_getElem h']; rfl
      have hg := HGOOD.out k (by rw [HL.out]; exact hlt)
      have hbx := byteAt_get s k hlt
      have hi : (k : Int) < s.size := by omega
      have hk0 : (0 : Int) ≤ k := by omega
      cases h32 : ((s[k].toNat : Int) == 32)
      · have hne : ((s[k].toNat : Int) != 32) = true := by simp [bne, h32]
        have hn32 : s[k] ≠ 32 := by intro e; rw [e] at h32; simp at h32
        have hcp : cap (s[k].toNat : Int) = true := by
          rcases hg with ⟨h, _⟩ | h
          · rw [← hbx] at h; rw [h] at h32; simp at h32
          · rwa [← hbx] at h
        obtain ⟨h65, h90⟩ := cap_true.1 hcp
        obtain ⟨j, hj⟩ : ∃ j : Nat, s[k].toNat = j + 65 := ⟨s[k].toNat - 65, by omega⟩
        have hj26 : j < 26 := by omega
        have HTS : Hid (stkL S (s.data.toList.take (k + 1)) = stkL S (s.data.toList.take k) ++ [S.getD j 0]) := hide (by rw [stkL_letter hget hn32, hj, Nat.add_sub_cancel])
        have c1 : wr.cell? ⟨b, j, none⟩ = some (.int .i8 (S.getD j 0)) := (hB.cell (p := ⟨b, j, none⟩) hb).trans (rangeAt_cell HR.out (wc_get (by rw [HS.out]; exact hj26)))
        obtain ⟨v1, v2⟩ := HWX.out j
        obtain ⟨y, hy⟩ : ∃ y, S.getD j 0 = y := ⟨_, rfl⟩
        rw [hy] at c1 v1 v2 HTS
        have e1 : (s[k].toNat : Int) - 65 = j := by omega
        have hji : (j : Int) < 26 := by omega
        have hj0 : (0 : Int) ≤ j := by omega
        have hwr : IntKind.u8.wrap (j : Int) = j := by simp [IntKind.wrap, IntKind.bits, IntKind.signed]; omega
        clear hget hg hbx hn32 hcp hj hy h32
        have hwy := IntWalk.i64_in y ⟨by omega, by omega⟩
        have HNEW := hide (one_cell (w := wr) (t := 2) (.int .i64 y))
        have HONE := hide (one_one (v := .int .i64 y) rfl)
        obtain ⟨m, hm⟩ : ∃ m, (stkL S (s.data.toList.take k)).length = m := ⟨_, rfl⟩
        have HM := hide hm
        rw [hm] at HOWN hll hcap ⊢
        clear hm
        go_wp2
        go_region_law (refine step_append_lies _ rfl (.tmp 18) (.tmp 28) 36 rfl w.heap.size 2 i0 (.int .i64 0) 1 8 Tryd.underlying36 hi0 hz0 hz1 hz2 rfl (by decide) (.slice Ab m cbb) m _ (by simp [Act.eval, Act.put]) (own_go HOWN.out (((Below.refl _ _).alloc (Nat.le_refl _) _).drew)) ⟨wr.heap.size, 0, none⟩ 1 1 [.int .i64 y] (by simp [Act.eval, Act.put]) rfl (fun j u hu => HNEW.out j u hu) HONE.out (by omega) (by unfold maxLen; omega) (by omega) (by simp; omega) _ rfl ?_; intro g cap w1 hown1 hgrow hor hlt1)
        all_goals
          have hg34 : wr.grownBy w1 _ := grown_trans (grown_trans (World.grownBy_alloc wr _ _) (show (wr.alloc (.cells #[.int .i64 y] 2)).grownBy (wr.alloc (.cells #[.int .i64 y] 2)).drew (Value.slice Ab m cbb).ownBlock from ⟨rfl, rfl, rfl, Nat.le_refl _, fun _ _ _ => rfl⟩)) hgrow
          have hB4 := hB.trans (grown_toBelow hg34 (by omega) (fun k hk => (HOWN.out.lt k hk).1))
          have H4 := hide hown1
          clear hown1 hgrow hg34 hor
          go_wp2
          refine ⟨⟨k + 1, by omega, by go_num, ?_, hB4⟩, by simp [intOf]; omega⟩
          rw [HTS.out, List.map_append, List.length_append]
          rw [HM.out]
          exact H4.out
      · have hne : ((s[k].toNat : Int) != 32) = false := by simp [bne, h32]
        have he32 : s[k] = 32 := UInt8.toNat_inj.1 (by have := eq_of_beq h32; show s[k].toNat = 32; omega)
        have HTS : Hid (stkL S (s.data.toList.take (k + 1)) = stkL S (s.data.toList.take k)) := hide (stkL_blank hget he32)
        clear hget hg hbx he32 h32
        go_wp2
        refine ⟨⟨k + 1, by omega, by go_num, ?_, hB⟩, by simp [intOf]; omega⟩
        rw [HTS.out]
        exact HOWN.out
    · obtain rfl : k = s.size := by omega
      have HTA : Hid (s.data.toList.take s.size = s.data.toList) := hide (by rw [← HL.out]; exact List.take_length)
      rw [HTA.out] at HOWN hcap ⊢
      obtain ⟨Ag, cg, e, _, hI⟩ := intsIn_of_own HOWN.out
      injection e with e1 e2 e3
      subst e1 e3
      have HI := hide hI
      clear hI
      go_wp2
      go_ret
      exact ⟨Ab, cbb, rfl, hcap, HI.out, hB⟩

set_option maxHeartbeats 2000000 in
theorem l05Sum_any (A : Option Addr) (xs : List Int) (c : Nat) (w : World) (hn : xs.length ≤ 60) (hx : ∀ x ∈ xs, 0 ≤ x ∧ x ≤ 30) (hA : IntsAt w w.heap.size A xs) :
    Calls Tryd.prog 159 #[.slice A xs.length c] w fun e w' => e = .returned (.int .i64 (sumT xs xs.length)) ∧ w = w' := by
  have HB := hide (sumT_bd hx)
  have HX := hide hx
  have HA := hide hA
  obtain ⟨n, hN⟩ : ∃ n, xs.length = n := ⟨_, rfl⟩
  have HN := hide hN
  rw [hN] at hn HB ⊢
  clear hN hx hA
  go_enter Tryd.func159, Tryd.ntmps159
  go_wp2
  go_loop [3, 4] (fun v i => ∃ k : Nat, k ≤ n ∧ i = .int .i64 k ∧ v = .int .i64 (sumT xs k)) (fun _ i => n - (intOf i).toNat)
  case atStart => exact ⟨0, Nat.zero_le _, rfl, rfl⟩
  case round =>
    obtain ⟨k, hk, rfl, rfl⟩ := hrel
    by_cases hlt : k < n
    · obtain ⟨b, o, rfl, hb, hxs⟩ := HA.out (by intro e; rw [e] at HN; have := HN.out; simp at this; omega)
      obtain ⟨x, hxk⟩ : ∃ x, xs[k]? = some x := ⟨xs[k]'(by rw [HN.out]; exact hlt), List.getElem?_eq_getElem _⟩
      have hc := hxs k x hxk
      obtain ⟨x1, x2⟩ := HX.out x (List.mem_of_getElem? hxk)
      have HS := hide (sumT_succ hxk)
      obtain ⟨b1, b2⟩ := HB.out k hk
      have hi : (k : Int) < n := by omega
      have h0 : (0 : Int) ≤ k := by omega
      clear hxs hxk
      generalize sumT xs k = q at *
      go_wp2
      exact ⟨⟨k + 1, by omega, by go_num, by rw [HS.out]⟩, by simp [intOf]; omega⟩
    · obtain rfl : k = n := by omega
      go_wp2
      go_ret
      exact ⟨rfl, rfl⟩

set_option maxHeartbeats 2000000 in
theorem sumOf_any (A : Option Addr) (xs : List Int) (c : Nat) (w : World) (hn : xs.length ≤ 60) (hx : ∀ x ∈ xs, 0 ≤ x ∧ x ≤ 30) (hA : IntsAt w w.heap.size A xs) :
    Calls Tryd.prog 95 #[.slice A xs.length c] w fun e w' => e = .returned (.int .i64 (sumT xs xs.length)) ∧ w = w' := by
  have HB := hide (sumT_bd hx)
  have HX := hide hx
  have HA := hide hA
  obtain ⟨n, hN⟩ : ∃ n, xs.length = n := ⟨_, rfl⟩
  have HN := hide hN
  rw [hN] at hn HB ⊢
  clear hN hx hA
  go_enter Tryd.func95, Tryd.ntmps95
  go_wp2
  go_loop [3, 8] (fun v i => ∃ k : Nat, k ≤ n ∧ i = .int .i64 k ∧ v = .int .i64 (sumT xs k)) (fun _ i => n - (intOf i).toNat)
  case atStart => exact ⟨0, Nat.zero_le _, rfl, rfl⟩
  case round =>
    obtain ⟨k, hk, rfl, rfl⟩ := hrel
    by_cases hlt : k < n
    · obtain ⟨b, o, rfl, hb, hxs⟩ := HA.out (by intro e; rw [e] at HN; have := HN.out; simp at this; omega)
      obtain ⟨x, hxk⟩ : ∃ x, xs[k]? = some x := ⟨xs[k]'(by rw [HN.out]; exact hlt), List.getElem?_eq_getElem _⟩
      have hc := hxs k x hxk
      obtain ⟨x1, x2⟩ := HX.out x (List.mem_of_getElem? hxk)
      have HS := hide (sumT_succ hxk)
      obtain ⟨b1, b2⟩ := HB.out k hk
      have hi : (k : Int) < n := by omega
      have h0 : (0 : Int) ≤ k := by omega
      clear hxs hxk
      generalize sumT xs k = q at *
      go_wp2
      exact ⟨⟨k + 1, by omega, by go_num, by rw [HS.out]⟩, by simp [intOf]; omega⟩
    · obtain rfl : k = n := by omega
      go_wp2
      go_ret
      exact ⟨rfl, rfl⟩

/-! StrokesOf -/
noncomputable def soB (S : List Int) (L : List UInt8) : Bool := vstr S && vtext L
noncomputable def soC (S : List Int) (L : List UInt8) : Int := if soB S L = true then 0 else 1
noncomputable def soV (S : List Int) (L : List UInt8) : Int := if soB S L = true then sumT (stkL S L) (stkL S L).length else 0
theorem so_no {S : List Int} {L : List UInt8} (h : soB S L = false) : soC S L = 1 ∧ soV S L = 0 := by unfold soC soV; rw [h]; exact ⟨rfl, rfl⟩
theorem so_ok {S : List Int} {L : List UInt8} (h : soB S L = true) : soC S L = 0 ∧ soV S L = sumT (stkL S L) (stkL S L).length := by unfold soC soV; rw [h]; exact ⟨rfl, rfl⟩
theorem stk_b30 {S : List Int} {L : List UInt8} (hS : S.length = 26) (h1 : vstr S = true) (h2 : vtext L = true) : ∀ x ∈ stkL S L, 0 ≤ x ∧ x ≤ 30 := fun x hx => by
  have := stk_bd hS h1 h2 x hx; omega

end Go.Proofs.YtngondeaeipcfaaDoor
