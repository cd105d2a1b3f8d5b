/- The letters of a text and their strokes, of both. · The model's strokes; sums, of both; StrokesOf. -/
import Derived.Test.YtngondeaeipcfaaGreatDoorChB
import Derived.Test.YtngondeaeipcfaaGreatDoorGs
import Derived.Test.YtngondeaeipcfaaGreatDoorShelf
import Derived.Lib.Replace
import Derived.Lib.IndexBytes
import Derived.Deep.RegionLaw
import Derived.Deep.AppendLies

namespace Go.Proofs.YtngondeaeipcfaaGreatDoor
open Go Go.RowKit

/-! strings.ReplaceAll of one byte by nothing -/
theorem index_cons_eq (c : UInt8) (l : List UInt8) : Lib.index (c :: l) [c] = ((0 : Nat) : Int) := by rw [Lib.index]; simp [List.isPrefixOf]
theorem replaceK_none (c : UInt8) : ∀ s : List UInt8, Lib.replaceK [c] [] (s.count c) s = s.filter (fun b => b != c)
  | [] => rfl
  | b :: l => by
    by_cases h : b = c
    · subst h
      rw [List.count_cons_self, Lib.replaceK_hit _ _ _ _ 0 (index_cons_eq b l)]
      simp only [List.take_zero, List.nil_append, List.length_cons, List.length_nil, Nat.zero_add, List.drop_succ_cons, List.drop_zero]
      rw [replaceK_none b l]
      simp
    · rw [List.count_cons_of_ne (by simpa using h), List.filter_cons, if_pos (by simpa using h), ← replaceK_none c l]
      cases hn : l.count c with
      | zero => rfl
      | succ k =>
        have hc : 0 < Lib.count l [c] := by rw [Lib.count_one]; omega
        obtain ⟨i, hi⟩ := Lib.index_of_count hc
        have hp : ([c] : List UInt8).isPrefixOf (b :: l) = false := by simp [List.isPrefixOf, Ne.symm h]
        have hi2 : Lib.index (b :: l) [c] = ((i + 1 : Nat) : Int) := by
          rw [Lib.index, hp]
          have : ¬ (Lib.index l [c] == -1) = true := fun e => by have := beq_iff_eq.1 e; omega
          rw [if_neg (by simp), if_neg this, hi]
          omega
        rw [Lib.replaceK_hit _ _ _ _ _ hi2, Lib.replaceK_hit _ _ _ _ _ hi]
        simp
theorem replaceAll_none (c : UInt8) (s : List UInt8) : Lib.replaceAll s [c] [] = s.filter (fun b => b != c) := by
  unfold Lib.replaceAll Lib.replace
  rw [if_neg (by simp)]
  unfold Lib.replaceNum
  rw [if_pos (by left; omega), Lib.count_one, replaceK_none]

set_option maxHeartbeats 1000000 in
theorem lettersOf_any (s : ByteArray) (w : World) (hs : s.size ≤ 1048576) (hG : Glob w) :
    Calls Tryz.prog 117 #[.string s] w fun e w' => e = .returned (.string ⟨(lettL s.data.toList).toArray⟩) ∧ Below w.heap.size w w' := by
  obtain ⟨m, hm⟩ := hG
  have HC := hide (Tryz.strings_ReplaceAll s ⟨#[32]⟩ ⟨#[]⟩ m w (by omega) hm (by decide) (by show s.size + Lib.countB s ⟨#[32]⟩ * 0 ≤ _; omega))
  have HR := hide (show Lib.replaceAll s.data.toList (⟨#[32]⟩ : ByteArray).data.toList (⟨#[]⟩ : ByteArray).data.toList = lettL s.data.toList from replaceAll_none 32 _)
  clear hm
  go_enter Tryz.func117, Tryz.ntmps117
  go_wp2_with (go_at_call 212; refine HC.out.mono ?_; rintro e w1 ⟨rfl, hb1⟩)
  go_ret
  exact ⟨ret_st (by rw [HR.out]), hb1⟩

/-! The program's strokes -/
def stkT (S : List Int) (L : List UInt8) (k : Nat) : List Int := (L.take k).map (fun b => S.getD (b.toNat - 65) 0)
theorem stkT_succ {S : List Int} {L : List UInt8} {k : Nat} {b : UInt8} (h : L[k]? = some b) : stkT S L (k + 1) = stkT S L k ++ [S.getD (b.toNat - 65) 0] := by
  unfold stkT; rw [List.take_add_one, h]; simp
theorem stkT_len {S : List Int} {L : List UInt8} {k : Nat} (h : k ≤ L.length) : (stkT S L k).length = k := by unfold stkT; rw [List.length_map, List.length_take]; omega
theorem stkT_all (S : List Int) (L : List UInt8) : stkT S (lettL L) (lettL L).length = stkL S L := by unfold stkT stkL; rw [List.take_length]

end Go.Proofs.YtngondeaeipcfaaGreatDoor

namespace Go.Proofs.YtngondeaeipcfaaGreatDoor
open Go Go.RowKit

theorem stkB {S : List Int} (hSx : ∀ x ∈ S, i8ok x) (L : List UInt8) : ∀ x ∈ stkL S L, -128 ≤ x ∧ x ≤ 127 := by
  intro x hx
  obtain ⟨b, _, rfl⟩ := List.mem_map.1 hx
  exact wc_at hSx _

set_option maxHeartbeats 2000000 in
theorem sumOf_any (A : Option Addr) (xs : List Int) (c : Nat) (w : World) (hn : xs.length ≤ 60) (hx : ∀ x ∈ xs, 0 ≤ x ∧ x ≤ 30) (hA : IntsAt w w.heap.size A xs) :
    Calls Tryz.prog 193 #[.slice A xs.length c] w fun e w' => e = .returned (.int .i64 (sumT xs xs.length)) ∧ w = w' := by
  have HB := hide (sumT_bd hx)
  have HX := hide hx
  have HA := hide hA
  obtain ⟨n, hN⟩ : ∃ n, xs.length = n := ⟨_, rfl⟩
  have HN := hide hN
  rw [hN] at hn HB ⊢
  clear hN hx hA
  go_enter Tryz.func193, Tryz.ntmps193
  go_wp2
  go_loop [3, 8] (fun v i => ∃ k : Nat, k ≤ n ∧ i = .int .i64 k ∧ v = .int .i64 (sumT xs k)) (fun _ i => n - (intOf i).toNat)
  case atStart => exact ⟨0, Nat.zero_le _, rfl, rfl⟩
  case round =>
    obtain ⟨k, hk, rfl, rfl⟩ := hrel
    by_cases hlt : k < n
    · obtain ⟨b, o, rfl, hb, hxs⟩ := HA.out (by intro e; rw [e] at HN; have := HN.out; simp at this; omega)
      obtain ⟨x, hxk⟩ : ∃ x, xs[k]? = some x := ⟨xs[k]'(by rw [HN.out]; exact hlt), List.getElem?_eq_getElem _⟩
      have hc := hxs k x hxk
      obtain ⟨x1, x2⟩ := HX.out x (List.mem_of_getElem? hxk)
      have HS := hide (sumT_succ hxk)
      obtain ⟨b1, b2⟩ := HB.out k hk
      have hi : (k : Int) < n := by omega
      have h0 : (0 : Int) ≤ k := by omega
      clear hxs hxk
      generalize sumT xs k = q at *
      go_wp2
      exact ⟨⟨k + 1, by omega, by go_num, by rw [HS.out]⟩, by simp [intOf]; omega⟩
    · obtain rfl : k = n := by omega
      go_wp2
      go_ret
      exact ⟨rfl, rfl⟩

/-! StrokesOf -/
noncomputable def soB (S : List Int) (L : List UInt8) : Bool := vstr S && vtext L
noncomputable def soC (S : List Int) (L : List UInt8) : Int := if soB S L = true then 0 else 1
noncomputable def soV (S : List Int) (L : List UInt8) : Int := if soB S L = true then sumT (stkL S L) (stkL S L).length else 0
theorem so_no {S : List Int} {L : List UInt8} (h : soB S L = false) : soC S L = 1 ∧ soV S L = 0 := by unfold soC soV; rw [h]; exact ⟨rfl, rfl⟩
theorem so_ok {S : List Int} {L : List UInt8} (h : soB S L = true) : soC S L = 0 ∧ soV S L = sumT (stkL S L) (stkL S L).length := by unfold soC soV; rw [h]; exact ⟨rfl, rfl⟩
theorem stk_b30 {S : List Int} {L : List UInt8} (hS : S.length = 26) (h1 : vstr S = true) (h2 : vtext L = true) : ∀ x ∈ stkL S L, 0 ≤ x ∧ x ≤ 30 := fun x hx => by
  have := stk_bd hS h1 h2 x hx; omega

end Go.Proofs.YtngondeaeipcfaaGreatDoor
