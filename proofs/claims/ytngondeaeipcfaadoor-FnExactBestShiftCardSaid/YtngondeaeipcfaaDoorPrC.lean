/- What a text costs: PriceOf of both. -/
import Derived.Test.YtngondeaeipcfaaDoorPrB
import Derived.Test.YtngondeaeipcfaaDoorSumG
import Derived.Test.YtngondeaeipcfaaDoorIvTx
namespace Go.Proofs.YtngondeaeipcfaaDoor
open Go Go.RowKit

/-! The program -/
/-- Letters come back. -/
def LtB (M : List UInt8) (w : World) : Ending → World → Prop := fun e w' => ∃ v, e = .returned v ∧ w'.ownsRow w.heap.size 5 1 v M.length (Lib.byteCells M) ∧ Below w.heap.size w w'

set_option maxRecDepth 100000 in
set_option maxHeartbeats 8000000 in
theorem l06Letters_any (s : ByteArray) (w : World) (hs : s.size ≤ 1048576) :
    Calls Tryd.prog 171 #[.string s] w (LtB (lettL s.data.toList) w) := by
  obtain ⟨i0, hi0, hz0, hz1, hz2⟩ := info_parts Tryd.infoU8
  have HLN : Hid (∀ k, (lettL (s.data.toList.take k)).length ≤ k) := hide (fun k => Nat.le_trans (lettL_len _) (by simp; omega))
  have HTA : Hid (s.data.toList.take s.size = s.data.toList) := hide (by have : s.size = s.data.toList.length := by simp
                                                                         rw [this]; exact List.take_length)
  have HGET := hide (fun (k : Nat) (h : k < s.size) => show s.data.toList[k]? = some s[k] from by
    have h' : k < s.data.toList.length := by simpa using h
    rw [List.getElem?_eq_getElem h']; rfl)
  go_enter Tryd.func171, Tryd.ntmps171
  go_wp2
  go_loopw [3, 4] (fun br i wr => ∃ k : Nat, k ≤ s.size ∧ i = .int .i64 k ∧ wr.ownsRow w.heap.size 5 1 br (lettL (s.data.toList.take k)).length (Lib.byteCells (lettL (s.data.toList.take k))) ∧ Below w.heap.size w wr)
    (fun _ i _ => s.size - (intOf i).toNat)
  case atStart => exact ⟨0, Nat.zero_le _, rfl, World.ownsRow_made w _ 0 (Nat.le_refl _) (by unfold maxLen; omega) rfl, (Below.refl _ _).alloc (Nat.le_refl _) _⟩
  case round =>
    obtain ⟨k, hk, rfl, hown, hB⟩ := hrel
    obtain ⟨Ab, cbb, rfl, hcap, _⟩ := cellsIn_of_own hown (by omega)
    have hbs := hB.size
    have HOWN := hide hown
    have hln := HLN.out k
    clear hown
    by_cases hlt : k < s.size
    · have hi : (k : Int) < s.size := by omega
      have hk0 : (0 : Int) ≤ k := by omega
      have hg := HGET.out k hlt
      cases h32 : ((s[k].toNat : Int) == 32)
      · have hne : ((s[k].toNat : Int) != 32) = true := by simp [bne, h32]
        have hn32 : s[k] ≠ 32 := by intro e; rw [e] at h32; simp at h32
        have HE : Hid (lettL (s.data.toList.take (k + 1)) = lettL (s.data.toList.take k) ++ [s[k]]) := hide (by unfold lettL; rw [List.take_add_one, hg]; simp [hn32])
        clear hg hn32
        go_wp2_with (at_builtin; refine wpList_append_own _ rfl (.tmp 16) (.tmp 20) 22 rfl w.heap.size 5 i0 (.int .u8 0) 1 1 Tryd.underlying22 hi0 hz0 hz1 hz2 rfl (by decide) _ (lettL (s.data.toList.take k)).length _ rfl (HOWN.out.alloc _) ⟨wr.heap.size, 0, none⟩ 1 1 [.int .u8 (s[k].toNat : Int)] rfl rfl (one_cell _) (one_one rfl) ?h1 ?h2 ?h3 ?_)
        case h1 => unfold maxLen; omega
        case h2 => omega
        case h3 => simp; omega
        intro v' w4 hown4 hg4 _
        obtain ⟨A4, c4, rfl, _, _⟩ := cellsIn_of_own hown4 (by omega)
        have H4 := hide hown4
        have hg34 : wr.grownBy w4 _ := grown_trans (World.grownBy_alloc wr _ _) hg4
        have hB4 := hB.trans (grown_toBelow hg34 (by omega) (fun k hk => (HOWN.out.lt k hk).1))
        clear hown4 hg4 hg34
        go_wp2
        refine ⟨⟨k + 1, by omega, by go_num, ?_, hB4⟩, by simp [intOf]; omega⟩
        rw [HE.out, Lib.byteCells_append, List.length_append]
        exact H4.out
      · have hne : ((s[k].toNat : Int) != 32) = false := by simp [bne, h32]
        have he32 : s[k] = 32 := UInt8.toNat_inj.1 (by have := eq_of_beq h32; show s[k].toNat = 32; omega)
        have HE : Hid (lettL (s.data.toList.take (k + 1)) = lettL (s.data.toList.take k)) := hide (by unfold lettL; rw [List.take_add_one, hg, he32]; simp)
        clear hg he32
        go_wp2
        refine ⟨⟨k + 1, by omega, by go_num, ?_, hB⟩, by simp [intOf]; omega⟩
        rw [HE.out]
        exact HOWN.out
    · obtain rfl : k = s.size := by omega
      rw [HTA.out] at HOWN
      go_wp2
      go_ret
      rw [HTA.out]
      exact ⟨_, rfl, HOWN.out, hB⟩

theorem lpr_sum_bd {F : Fc} (hF : F.ok) (h : vface F = true) {P : List Int} (hP : P.length = 29) (hv : vprc P = true) {L : List UInt8} (ht : vtext L = true) : ∀ k, k ≤ (lettL L).length → 0 ≤ sumT (lprL F P L) k ∧ sumT (lprL F P L) k ≤ 2460000 := fun k hk => by
  have h1 := sumT_bd (lprL_bd hF h hP hv ht) k (by rw [lprL_len]; exact hk)
  have h2 := lprL_n (F := F) (P := P) ht
  rw [lprL_len] at h2
  omega

end Go.Proofs.YtngondeaeipcfaaDoor
