/- The model's letters of a text, and how many of them are to be cut. -/
import Derived.Test.YtnanminbnfgcfaaDoorLcP
import Derived.Test.YtnanminbnfgcfaaDoorCtP
import Derived.Test.YtnanminbnfgcfaaDoorIvTx
import Derived.Deep.RegionHeld3
import Derived.StillTailTactics
namespace Go.Proofs.YtnanminbnfgcfaaDoor
open Go Go.RowKit

theorem lett_blank {L : List UInt8} {k : Nat} {b : UInt8} (h : L[k]? = some b) (hb : b = 32) : lettL (L.take (k + 1)) = lettL (L.take k) := by
  unfold lettL; rw [List.take_add_one, h]; subst hb; simp
theorem lett_letter {L : List UInt8} {k : Nat} {b : UInt8} (h : L[k]? = some b) (hb : b ≠ 32) : lettL (L.take (k + 1)) = lettL (L.take k) ++ [b] := by
  unfold lettL; rw [List.take_add_one, h]; simp [hb]

set_option maxRecDepth 100000 in
set_option maxHeartbeats 4000000 in
theorem l04Letters_any (s : ByteArray) (hs : s.size ≤ 1048576) (w : World) :
    Calls Tryd.prog 61 #[.string s] w fun e w' => e = .returned (.string ⟨(lettL s.data.toList).toArray⟩) ∧ Below w.heap.size w w' := by
  obtain ⟨i0, hi0, hz0, hz1, hz2⟩ := info_parts Tryd.infoU8
  have hL : s.data.toList.length = s.size := by simp
  have HL := hide hL
  have HLL := hide (fun k => Nat.le_trans (lettL_len (s.data.toList.take k)) (by rw [List.length_take]; exact Nat.min_le_left _ _) : ∀ k, (lettL (s.data.toList.take k)).length ≤ k)
  clear hL
  have hb0 : Below w.heap.size w (w.alloc (.cells #[] 5)) := (Below.refl _ _).alloc (Nat.le_refl _) _
  have HO := hide (World.ownsRow_lit w #[] 0 (Nat.le_refl _) (by unfold maxLen; omega) rfl : (w.alloc (.cells #[] 5)).ownsRow w.heap.size 5 1 (.slice (some ⟨w.heap.size, 0, none⟩) 0 0) 0 [])
  go_enter Tryd.func61, Tryd.ntmps61
  go_wp2
  go_loopw [3, 4] (fun br i wr => ∃ k : Nat, k ≤ s.size ∧ i = .int .i64 k ∧ wr.ownsRow w.heap.size 5 1 br (lettL (s.data.toList.take k)).length (Lib.byteCells (lettL (s.data.toList.take k))) ∧ Below w.heap.size w wr)
    (fun _ i _ => s.size - (intOf i).toNat)
  case atStart => exact ⟨0, Nat.zero_le _, rfl, HO.out, hb0⟩
  case round =>
    obtain ⟨k, hk, rfl, hown, hB⟩ := hrel
    obtain ⟨Ab, cbb, rfl, hcap, _⟩ := cellsIn_of_own hown (by omega)
    have hbs := hB.size
    have HOWN := hide hown
    have hll := HLL.out k
    clear hown
    by_cases hlt : k < s.size
    · have hget : s.data.toList[k]? = some s[k] := by
        have h' : k < s.data.toList.length := by simpa using hlt
        rw [List.getElem?_eq_getElem h']; rfl
      have hi : (k : Int) < s.size := by omega
      have hk0 : (0 : Int) ≤ k := by omega
      cases h32 : ((s[k].toNat : Int) == 32)
      · have hne : ((s[k].toNat : Int) != 32) = true := by simp [bne, h32]
        have hn32 : s[k] ≠ 32 := by intro e; rw [e] at h32; simp at h32
        have HTS := hide (lett_letter hget hn32)
        clear hget hn32 h32
        obtain ⟨m, hm⟩ : ∃ m, (lettL (s.data.toList.take k)).length = m := ⟨_, rfl⟩
        have HM := hide hm
        rw [hm] at HOWN hll hcap ⊢
        clear hm
        go_wp2_with (at_builtin; refine wpList_append_own _ rfl (.tmp 16) (.tmp 20) 68 rfl w.heap.size 5 i0 (.int .u8 0) 1 1 Tryd.underlying68 hi0 hz0 hz1 hz2 rfl (by decide) _ m _ rfl (HOWN.out.alloc _) ⟨wr.heap.size, 0, none⟩ 1 1 [.int .u8 (s[k].toNat : Int)] rfl rfl (one_cell _) (one_one rfl) ?h1 ?h2 ?h3 ?_)
        case h1 => unfold maxLen; omega
        case h2 => omega
        case h3 => simp; omega
        intro v' w4 hown4 hg4 _
        obtain ⟨A4, c4, rfl, _, _⟩ := cellsIn_of_own hown4 (by omega)
        have H4 := hide hown4
        have hg34 : wr.grownBy w4 _ := grown_trans (World.grownBy_alloc wr _ _) hg4
        have hB4 := hB.trans (grown_toBelow hg34 (by omega) (fun k hk => (HOWN.out.lt k hk).1))
        clear hown4 hg4 hg34
        go_wp2
        refine ⟨⟨k + 1, by omega, by go_num, ?_, hB4⟩, by simp [intOf]; omega⟩
        rw [HTS.out, Lib.byteCells_append, List.length_append, HM.out]
        exact H4.out
      · have hne : ((s[k].toNat : Int) != 32) = false := by simp [bne, h32]
        have he32 : s[k] = 32 := UInt8.toNat_inj.1 (by have := eq_of_beq h32; show s[k].toNat = 32; omega)
        have HTS := hide (lett_blank hget he32)
        clear hget he32 h32
        go_wp2
        refine ⟨⟨k + 1, by omega, by go_num, ?_, hB⟩, by simp [intOf]; omega⟩
        rw [HTS.out]
        exact HOWN.out
    · obtain rfl : k = s.size := by omega
      have HTA : Hid (s.data.toList.take s.size = s.data.toList) := hide (by rw [← HL.out]; exact List.take_length)
      have hst := str_of_own HOWN.out
      rw [HTA.out] at hst
      rw [HTA.out]
      go_wp2
      go_ret
      exact ⟨rfl, hB⟩

/-- The first row. -/
def zr (n : Nat) : List Int := List.replicate n 0
theorem made_row (n : Nat) (h : n ≤ 1000) (W : World) : Sem.run Tryd.prog (Instr.makeSlice 36 (.int .i64 (n : Int)) (.int .i64 (n : Int))) W = .ok (.slice (some ⟨W.heap.size, 0, none⟩) n n) (W.alloc (.cells (icc (zr n)).toArray 2)) := by
  obtain ⟨i0, hi0, hz0, hz1, hz2⟩ := info_parts Tryd.infoI64
  have h := run_make_rowN (P := Tryd.prog) 36 2 i0 _ Tryd.underlying36 hi0 hz0 .i64 .i64 n n (Nat.le_refl _) (by rw [hz2]; omega) (by omega) W
  rw [hz1] at h
  have e : madeCells (Value.int IntKind.i64 0).cells (n * 1) = (icc (zr n)).toArray := by
    rw [Nat.mul_one]
    apply Array.ext
    · simp [madeCells, icc, zr]
    · intro i h1 h2
      simp [madeCells, icc, zr]
      show (#[Value.int IntKind.i64 0] : Array Value)[i % 1]! = _
      rw [Nat.mod_one]
      rfl
  rw [e] at h
  exact h
end Go.Proofs.YtnanminbnfgcfaaDoor
