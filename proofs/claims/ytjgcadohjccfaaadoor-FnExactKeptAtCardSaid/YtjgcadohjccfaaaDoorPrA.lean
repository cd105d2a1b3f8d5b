/- Gold for a line: the widths of its letters. -/
import Derived.Test.YtjgcadohjccfaaaDoorGoA
import Derived.Test.YtjgcadohjccfaaaDoorGdB
namespace Go.Proofs.YtjgcadohjccfaaaDoor
open Go Go.RowKit

set_option maxRecDepth 100000 in
theorem meth_validL (v : Value) (w : World) : (method 362 124 v "loop.example/g01398/impl.isValid").run Tryd.prog w = .ok (194, v) w := by kernel_rfl
set_option maxRecDepth 100000 in
theorem meth_widesL (v : Value) (w : World) : (method 362 124 v "loop.example/g01398/impl.letterWides").run Tryd.prog w = .ok (195, v) w := by kernel_rfl
set_option maxRecDepth 100000 in
theorem assert_gln (v : Value) (w : World) : (Instr.typeAssert (.iface 124 v) 167 190 true).run Tryd.prog w = .ok (.tuple #[.agg #[.int .i8 0, .int .i8 0, .int .i8 0, .int .i8 0, .int .i8 0, .int .i8 0, .int .i8 0, .int .i8 0, .int .i8 0, .int .i8 0, .int .i8 0, .int .i8 0, .int .i8 0, .int .i8 0, .int .i8 0, .int .i8 0, .int .i8 0, .int .i8 0, .int .i8 0, .int .i8 0, .int .i8 0, .int .i8 0, .int .i8 0, .int .i8 0, .int .i8 0, .int .i8 0, .int .i8 0, .int .i8 0, .slice none 0 0, .string ⟨#[]⟩, .int .i16 0, .int .i8 0], .bool false]) w := by kernel_rfl

set_option maxRecDepth 100000 in
set_option maxHeartbeats 2000000 in
theorem overOf_gln (v : Value) (w : World) :
    Calls Tryd.prog 111 #[.iface 124 v] w fun e w' => e = .returned (.int .i64 0) ∧ w = w' := by
  have hta := fun w => assert_gln v w
  go_enter Tryd.func111, Tryd.ntmps111
  go_wp2
  go_ret
  exact ⟨rfl, rfl⟩

theorem map_add0 (R : List Int) : R.map (fun x => x + 0) = R := by
  have : (fun x : Int => x + 0) = id := by funext x; simp
  rw [this, List.map_id]
noncomputable def glB (F : Fc) (L : List UInt8) : Bool := vface F && vtext L
noncomputable def glC (F : Fc) (L : List UInt8) : Int := if glB F L = true then 0 else 1
noncomputable def glR (F : Fc) (L : List UInt8) : List Int := if glB F L = true then lwL F L else []
theorem gl_no {F : Fc} {L : List UInt8} (h : glB F L = false) : glC F L = 1 ∧ glR F L = [] := by unfold glC glR; rw [h]; exact ⟨rfl, rfl⟩
theorem gl_ok {F : Fc} {L : List UInt8} (h : glB F L = true) : glC F L = 0 ∧ glR F L = lwL F L := by unfold glC glR; rw [h]; exact ⟨rfl, rfl⟩
theorem gl_parts {F : Fc} {L : List UInt8} (h : glB F L = true) : vface F = true ∧ vtext L = true := by
  unfold glB at h; simpa only [Bool.and_eq_true] using h

set_option maxRecDepth 100000 in
set_option maxHeartbeats 8000000 in
theorem goldFor_gln (F : Fc) (hF : F.ok) (A : Option Addr) (c : Nat) (s : ByteArray) (hs : s.size ≤ maxLen) (w : World) (hG : Glob w) (hA : PairsAt w w.heap.size A F.ps) :
    Calls Tryd.prog 79 #[.iface 124 (.agg (gln F (.slice A F.ps.length c) s).toArray)] w (IntsBack (glR F s.data.toList) (glC F s.data.toList) w) := by
  have HV := hide (lineValid_any F hF A c s hs w hA)
  have hm1 := fun w => meth_validL (.agg (gln F (.slice A F.ps.length c) s).toArray) w
  have hm2 : ∀ w, (method 362 124 (.agg (gln F (.slice A F.ps.length c) s).toArray) "loop.example/g01398/impl.letterWides").run Tryd.prog w = .ok (195, .agg (gln F (.slice A F.ps.length c) s).toArray) w := fun w => meth_widesL _ w
  have HO := hide (fun W => overOf_gln (.agg (gln F (.slice A F.ps.length c) s).toArray) W)
  change Hid (Calls _ _ _ _ fun e w' => e = .returned (.bool (glB F s.data.toList)) ∧ Below w.heap.size w w') at HV
  cases hb : glB F s.data.toList
  · obtain ⟨e1, e2⟩ := gl_no hb
    rw [e1, e2]
    rw [hb] at HV
    clear hA hG e1 e2 hb hs
    generalize (gln F (.slice A F.ps.length c) s).toArray = cells at *
    go_enter Tryd.func79, Tryd.ntmps79
    go_wp2_with (go_at_call 194; refine HV.out.mono ?_; rintro e w1 ⟨rfl, hb1⟩)
    go_ret2
    exact ⟨none, 0, rfl, IntsIn.empty _ _ _, hb1⟩
  · obtain ⟨e1, e2⟩ := gl_ok hb
    obtain ⟨hv, ht⟩ := gl_parts hb
    rw [e1, e2]
    rw [hb] at HV
    have HLW := hide (fun W h => letterWides_any F hF A c s W ht h)
    have HG := hide hG
    have hn60 := lwL_n (F := F) ht
    have HBD := hide (lwL_bd hF hv ht)
    have HAA := hide (adT_all 0 (lwL F s.data.toList))
    have HAL := hide (adT_len 0 (lwL F s.data.toList))
    rw [map_add0] at HAA
    generalize lwL F s.data.toList = R at *
    clear hA hG e1 e2 hb hs hv ht
    generalize (gln F (.slice A F.ps.length c) s).toArray = cells at *
    obtain ⟨n, hN⟩ : ∃ n, R.length = n := ⟨_, rfl⟩
    have HN := hide hN
    rw [hN] at hn60 HAA HAL
    unfold IntsB at HLW
    rw [hN] at HLW
    clear hN
    go_enter Tryd.func79, Tryd.ntmps79
    go_wp2_with (first | (go_at_call 194; refine HV.out.mono ?_; rintro e w1 ⟨rfl, hb1⟩) | (go_at_call 195; refine (HLW.out _ (HG.out.below hb1)).mono ?_; rintro e w2 ⟨A2, c2, rfl, hc2, hI2, hb2⟩) | (go_at_call 111; refine (HO.out _).mono ?_; rintro e w3 ⟨rfl, rfl⟩))
    have hI3 := hI2
    have hB3 := hb1.trans (hb2.mono hb1.size)
    clear hI2 hb2
    go_loopw [16] (fun i wr => ∃ k : Nat, k ≤ n ∧ i = .int .i64 k ∧ IntsIn wr w1.heap.size A2 (adT 0 R k) ∧ Below w.heap.size w wr) (fun i _ => n - (intOf i).toNat)
    case atStart => exact ⟨0, Nat.zero_le _, rfl, by rw [adT_zero]; exact hI3, hB3⟩
    case round =>
      clear hI3 hB3
      obtain ⟨k, hk, rfl, hI, hB⟩ := hrel
      have hal := HAL.out k
      by_cases hlt : k < n
      · obtain ⟨b, o, rfl, hbl, hbl2, hxs, hth⟩ := hI (by intro e; rw [e] at hal; simp at hal; omega)
        obtain ⟨x, hx⟩ : ∃ x, R[k]? = some x := ⟨R[k]'(by rw [HN.out]; exact hlt), List.getElem?_eq_getElem _⟩
        obtain ⟨x1, x2⟩ := HBD.out x (List.mem_of_getElem? hx)
        have c0 := hxs k x (adT_get hx)
        have f0 := (hth k (by rw [hal]; exact hlt)).2
        have hi : (k : Int) < n := by omega
        have h0 : (0 : Int) ≤ k := by omega
        have HS := hide (adT_set (o := 0) hx)
        have hI4 := hI.put rfl (i := k) (by rw [hal]; exact hlt) (x + 0)
        rw [HS.out, Int.add_zero] at hI4
        have HI4 := hide hI4
        have hw1 := hb1.size
        clear hI hI4 hxs hth hx hal
        go_wp2
        exact ⟨⟨k + 1, by omega, by go_num, HI4.out, hB.setCell (p := ⟨b, o + k, none⟩) (by show w.heap.size ≤ b; omega) _⟩, by simp [intOf]; omega⟩
      · obtain rfl : k = n := by omega
        rw [HAA.out] at hI
        have HI := hide hI
        clear hI hal
        go_wp2
        go_ret2
        exact ⟨A2, c2, by rw [HN.out]; rfl, HI.out.wider hb1.size, hB⟩

end Go.Proofs.YtjgcadohjccfaaaDoor
