/- goldFor and PiecesFor of the program. -/
import Derived.Test.YtjgcadohjccfaaaGdD
namespace Go.Proofs.Ytjgcadohjccfaaa
open Go Go.RowKit

/-- Whether pieces can be told; their widths. -/
noncomputable def gpB (F : Fc) (L : List UInt8) (wd ov : Int) : Bool := vface F && vtext L && vsht wd ov
def pieL (F : Fc) (L : List UInt8) (ov : Int) : List Int := (lwL F L).map (fun x => x + 2 * ov)
noncomputable def gpC (F : Fc) (L : List UInt8) (wd ov : Int) : Int := if gpB F L wd ov = true then 0 else 1
noncomputable def gpR (F : Fc) (L : List UInt8) (wd ov : Int) : List Int := if gpB F L wd ov = true then pieL F L ov else []
theorem gp_no {F : Fc} {L : List UInt8} {wd ov : Int} (h : gpB F L wd ov = false) : gpC F L wd ov = 1 ∧ gpR F L wd ov = [] := by unfold gpC gpR; rw [h]; exact ⟨rfl, rfl⟩
theorem gp_ok {F : Fc} {L : List UInt8} {wd ov : Int} (h : gpB F L wd ov = true) : gpC F L wd ov = 0 ∧ gpR F L wd ov = pieL F L ov := by unfold gpC gpR; rw [h]; exact ⟨rfl, rfl⟩
theorem gp_parts {F : Fc} {L : List UInt8} {wd ov : Int} (h : gpB F L wd ov = true) : vface F = true ∧ vtext L = true ∧ (1 ≤ wd ∧ wd ≤ 400) ∧ 0 ≤ ov ∧ ov ≤ 5 := by
  unfold gpB at h
  simp only [Bool.and_eq_true] at h
  have := vsht_true.1 h.2
  exact ⟨h.1.1, h.1.2, this.1, this.2⟩
theorem pieL_len (F : Fc) (L : List UInt8) (ov : Int) : (pieL F L ov).length = (lwL F L).length := List.length_map _
theorem pieL_n {F : Fc} {L : List UInt8} {ov : Int} (ht : vtext L = true) : (pieL F L ov).length ≤ 60 := by rw [pieL_len]; exact lwL_n ht
theorem pieL_bd {F : Fc} (hF : F.ok) (h : vface F = true) {L : List UInt8} (ht : vtext L = true) {ov : Int} (ho : 0 ≤ ov ∧ ov ≤ 5) : ∀ x ∈ pieL F L ov, 1 ≤ x ∧ x ≤ 50 := fun x hx => by
  obtain ⟨y, hy, rfl⟩ := List.mem_map.1 hx
  have := lwL_bd hF h ht y hy
  omega
theorem gpR_len (F : Fc) (L : List UInt8) (wd ov : Int) : (gpR F L wd ov).length ≤ 1048577 := by
  cases h : gpB F L wd ov
  · rw [(gp_no h).2]; simp
  · rw [(gp_ok h).2]; have := pieL_n (F := F) (ov := ov) (gp_parts h).2.1; omega

set_option maxRecDepth 100000 in
set_option maxHeartbeats 8000000 in
theorem goldFor_gsh (F : Fc) (hF : F.ok) (A : Option Addr) (c : Nat) (s : ByteArray) (hs : s.size ≤ maxLen) (wd ov : Int) (hw : i16ok wd) (ho : i8ok ov) (w : World) (hG : Glob w) (hA : PairsAt w w.heap.size A F.ps) :
    Calls Try.prog 56 #[.iface 81 (.agg (gsh F (.slice A F.ps.length c) s wd ov).toArray)] w (IntsBack (gpR F s.data.toList wd ov) (gpC F s.data.toList wd ov) w) := by
  have HV := hide (sheetsValid_any F hF A c s hs wd ov hw ho w hA)
  have hm1 := fun w => meth_valid (.agg (gsh F (.slice A F.ps.length c) s wd ov).toArray) w
  have hm2 : ∀ w, (method 297 81 (.agg (gsh F (.slice A F.ps.length c) s wd ov).toArray) "loop.example/g01398/impl.letterWides").run Try.prog w = .ok (123, .agg (gln F (.slice A F.ps.length c) s).toArray) w := fun w => meth_wides' F.W hF.len F.sp F.gp F.ps _ s wd ov w
  have HO := hide (fun W => overOf_gsh F hF A c s wd ov ho W)
  change Hid (Calls _ _ _ _ fun e w' => e = .returned (.bool (gpB F s.data.toList wd ov)) ∧ Below w.heap.size w w') at HV
  cases hb : gpB F s.data.toList wd ov
  · obtain ⟨e1, e2⟩ := gp_no hb
    rw [e1, e2]
    rw [hb] at HV
    clear hA hG hw ho e1 e2 hb hs
    generalize (gsh F (.slice A F.ps.length c) s wd ov).toArray = cells at *
    go_enter Try.func56, Try.ntmps56
    go_wp2_with (go_at_call 161; refine HV.out.mono ?_; rintro e w1 ⟨rfl, hb1⟩)
    go_ret2
    exact ⟨none, 0, rfl, IntsIn.empty _ _ _, hb1⟩
  · obtain ⟨e1, e2⟩ := gp_ok hb
    obtain ⟨hv, ht, _, ho1, ho2⟩ := gp_parts hb
    rw [e1, e2]
    rw [hb] at HV
    have HLW := hide (fun W h => letterWides_any F hF A c s W ht h)
    have HG := hide hG
    have hn60 := lwL_n (F := F) ht
    have HBD := hide (lwL_bd hF hv ht)
    have HAA := hide (adT_all (2 * ov) (lwL F s.data.toList))
    have HAL := hide (adT_len (2 * ov) (lwL F s.data.toList))
    change Hid (_ = pieL F s.data.toList ov) at HAA
    have HPL := hide (pieL_len F s.data.toList ov)
    generalize pieL F s.data.toList ov = PP at *
    generalize lwL F s.data.toList = R at *
    clear hA hG hw ho e1 e2 hb hs hv ht
    generalize (gsh F (.slice A F.ps.length c) s wd ov).toArray = cells at *
    generalize (gln F (.slice A F.ps.length c) s).toArray = gcells at *
    obtain ⟨ad, had⟩ : ∃ ad, 2 * ov = ad := ⟨_, rfl⟩
    have hb1' : 0 ≤ ad ∧ ad ≤ 10 := by omega
    rw [had] at HO HAA HAL
    obtain ⟨ad1, ad2⟩ := hb1'
    clear had ho1 ho2
    obtain ⟨n, hN⟩ : ∃ n, R.length = n := ⟨_, rfl⟩
    have HN := hide hN
    rw [hN] at hn60 HAA HAL HPL
    unfold IntsB at HLW
    rw [hN] at HLW
    clear hN
    go_enter Try.func56, Try.ntmps56
    go_wp2_with (first | (go_at_call 161; refine HV.out.mono ?_; rintro e w1 ⟨rfl, hb1⟩) | (go_at_call 123; refine (HLW.out _ (HG.out.below hb1)).mono ?_; rintro e w2 ⟨A2, c2, rfl, hc2, hI2, hb2⟩) | (go_at_call 90; refine (HO.out _).mono ?_; rintro e w3 ⟨rfl, hb3⟩))
    have hI3 := hI2.go hb3
    have hB3 := hb1.trans ((hb2.trans (hb3.mono hb2.size)).mono hb1.size)
    clear hI2 hb2 hb3
    go_loopw [16] (fun i wr => ∃ k : Nat, k ≤ n ∧ i = .int .i64 k ∧ IntsIn wr w1.heap.size A2 (adT ad R k) ∧ Below w.heap.size w wr) (fun i _ => n - (intOf i).toNat)
    case atStart => exact ⟨0, Nat.zero_le _, rfl, by rw [adT_zero]; exact hI3, hB3⟩
    case round =>
      clear hI3 hB3
      obtain ⟨k, hk, rfl, hI, hB⟩ := hrel
      have hal := HAL.out k
      by_cases hlt : k < n
      · obtain ⟨b, o, rfl, hbl, hbl2, hxs, hth⟩ := hI (by intro e; rw [e] at hal; simp at hal; omega)
        obtain ⟨x, hx⟩ : ∃ x, R[k]? = some x := ⟨R[k]'(by rw [HN.out]; exact hlt), List.getElem?_eq_getElem _⟩
        obtain ⟨x1, x2⟩ := HBD.out x (List.mem_of_getElem? hx)
        have c0 := hxs k x (adT_get hx)
        have f0 := (hth k (by rw [hal]; exact hlt)).2
        have hi : (k : Int) < n := by omega
        have h0 : (0 : Int) ≤ k := by omega
        have HS := hide (adT_set (o := ad) hx)
        have hI4 := hI.put rfl (i := k) (by rw [hal]; exact hlt) (x + ad)
        rw [HS.out] at hI4
        have HI4 := hide hI4
        have hw1 := hb1.size
        clear hI hI4 hxs hth hx hal
        go_wp2
        exact ⟨⟨k + 1, by omega, by go_num, HI4.out, hB.setCell (p := ⟨b, o + k, none⟩) (by show w.heap.size ≤ b; omega) _⟩, by simp [intOf]; omega⟩
      · obtain rfl : k = n := by omega
        rw [HAA.out] at hI
        have HI := hide hI
        clear hI hal
        go_wp2
        go_ret2
        exact ⟨A2, c2, by rw [HPL.out]; rfl, HI.out.wider hb1.size, hB⟩

set_option maxRecDepth 100000 in
set_option maxHeartbeats 8000000 in
theorem implPiecesFor_any (F : Fc) (hF : F.ok) (A : Option Addr) (c : Nat) (wd : Int) (hw : -32768 ≤ wd ∧ wd ≤ 32767) (ov : Int) (ho : i8ok ov) (s : ByteArray) (hs : s.size ≤ maxLen) (w : World) (hG : Glob w) (hA : PairsAt w w.heap.size A F.ps) :
    Calls Try.prog 21 #[.agg (fc F (.slice A F.ps.length c)).toArray, .agg #[.int .i16 wd, .int .i8 ov], .string s] w (IntsBack (gpR F s.data.toList wd ov) (gpC F s.data.toList wd ov) w) := by
  have b0 : Below w.heap.size w ((w.alloc (.cells (fc F (.slice A F.ps.length c)).toArray 40)).alloc (.cells #[.int .i16 wd, .int .i8 ov] 27)) := ((Below.refl _ _).alloc (Nat.le_refl _) _).alloc (by simp) _
  have r0 := World.rangeAt_alloc (rangeAt_new w (fc F (.slice A F.ps.length c)) 40) (.cells #[.int .i16 wd, .int .i8 ov] 27)
  have r1 := rangeAt_newg (w := w.alloc (.cells (fc F (.slice A F.ps.length c)).toArray 40)) (cs := #[.int .i16 wd, .int .i8 ov]) (t := 27) (g := w.heap.size + 1) (by simp) rfl
  have s0 : w.heap.size + 1 < ((w.alloc (.cells (fc F (.slice A F.ps.length c)).toArray 40)).alloc (.cells #[.int .i16 wd, .int .i8 ov] 27)).heap.size := by simp
  have HI29 := hide (show (Try.prog.info? 40).map (·.size) = some (fc F (.slice A F.ps.length c)).length from by rw [fc_length hF.len]; kernel_rfl)
  have HI2 := hide (show (Try.prog.info? 27).map (·.size) = some ([.int .i16 wd, .int .i8 ov] : List Value).length from by kernel_rfl)
  have hbl := built_gln hF.len (.slice A F.ps.length c) s
  have hbs := built_gsh hF.len (.slice A F.ps.length c) s wd ov
  have HGO := hide (fun W h1 h2 => goldFor_gsh F hF A c s hs wd ov hw ho W h1 h2)
  have HA := hide ((hA.below b0).mono b0.size)
  have HG := hide (hG.below b0)
  unfold maxLen at hs
  clear hA hG hw ho
  generalize fc F (.slice A F.ps.length c) = fcs at *
  generalize (gln F (.slice A F.ps.length c) s).toArray = gcs at *
  generalize (gsh F (.slice A F.ps.length c) s wd ov).toArray = gss at *
  generalize gpR F s.data.toList wd ov = R at *
  generalize gpC F s.data.toList wd ov = C at *
  go_enter Try.func21, Try.ntmps21
  repeat (first | (refine wpList_load_mid rfl 40 (.tmp 3) rfl _ 0 rfl fcs _ r0 Try.underlying40 rfl HI29.out ?_) | (refine wpList_load_mid rfl 27 (.tmp 4) rfl _ 0 rfl [.int .i16 wd, .int .i8 ov] _ r1 Try.underlying27 rfl HI2.out ?_) | (refine wpList_build_eq rfl 79 _ rfl hbl (by first | (simp only [List.map_toArray, List.map_cons, List.map_nil]; rfl) | kernel_rfl) ?_) | (refine wpList_build_eq rfl 81 _ rfl hbs (by first | (simp only [List.map_toArray, List.map_cons, List.map_nil]; rfl) | kernel_rfl) ?_) | go_step)
  refine (HGO.out _ HG.out HA.out).mono ?_
  rintro e w1 ⟨A1, c1, rfl, hI1, hb1⟩
  go_wp2
  go_ret2
  exact ⟨A1, c1, rfl, hI1.wider b0.size, b0.trans (hb1.mono b0.size)⟩
end Go.Proofs.Ytjgcadohjccfaaa
