/- FillLetter of the program. -/
import Derived.Test.YtajlbfbpkafjfaaFlW
import Derived.Test.YtajlbfbpkafjfaaIvTx
import Derived.Lib.SlBytesConst
namespace Go.Proofs.Ytajlbfbpkafjfaa
open Go.RowKit

set_option maxRecDepth 100000 in
set_option maxHeartbeats 4000000 in
theorem thoseB_any (f : FuncId) (he : Enters Try.prog f) (caps : Array Value) (p : UInt8 → Bool) (xs : List UInt8) (b c : Nat) (w : World) (hn : xs.length ≤ 1048576) (hA : BytesAt w b xs) (hb : b < w.heap.size)
    (hf : ∀ x ∈ xs, ∀ W, Below w.heap.size w W → Calls Try.prog f (#[.int .u8 (x.toNat : Int)] ++ caps) W fun e w' => e = .returned (.bool (p x)) ∧ Below W.heap.size W w') :
    Calls Try.prog 93 #[.slice (some ⟨b, 0, none⟩) xs.length c, .func (.func f) #[] caps] w fun e w' => ∃ v, e = .returned v ∧ w'.ownsRow w.heap.size 5 1 v (xs.filter p).length (Lib.byteCells (xs.filter p)) ∧ Below w.heap.size w w' := by
  obtain ⟨i0, hi0, hz0, hz1, hz2⟩ := info_parts Try.infoU8
  have HF := hide hf
  have HX := hide hA
  have HLN : Hid (∀ k, ((xs.take k).filter p).length ≤ k) := hide (fun k => Nat.le_trans (List.length_filter_le _ _) (by simp; omega))
  obtain ⟨n, hL⟩ : ∃ n, xs.length = n := ⟨_, rfl⟩
  have HL := hide hL
  rw [hL] at hn ⊢
  clear hL hf hA
  unfold Enters at he
  go_enter Try.func93, Try.ntmps93
  go_wp2
  go_loopw [5, 10] (fun br i wr => ∃ k : Nat, k ≤ n ∧ i = .int .i64 k ∧ wr.ownsRow w.heap.size 5 1 br ((xs.take k).filter p).length (Lib.byteCells ((xs.take k).filter p)) ∧ Below w.heap.size w wr)
    (fun _ i _ => n - (intOf i).toNat)
  case atStart => exact ⟨0, by omega, rfl, by simp only [List.take_zero, List.filter_nil, List.length_nil]; exact World.ownsRow_nil _ _ _ _, Below.refl _ _⟩
  case round =>
    obtain ⟨k, hk, rfl, hown, hB⟩ := hrel
    obtain ⟨Ab, cbb, rfl, hcap, _⟩ := cellsIn_of_own hown (by omega)
    have hbs := hB.size
    have HOWN := hide hown
    clear hown
    by_cases hlt : k < n
    · obtain ⟨x, hx⟩ : ∃ x, xs[k]? = some x := ⟨xs[k]'(by rw [HL.out]; exact hlt), List.getElem?_eq_getElem _⟩
      have c0 : wr.cell? ⟨b, k, none⟩ = some (.int .u8 (x.toNat : Int)) := (hB.cell (p := ⟨b, k, none⟩) hb).trans ((HX.out k (by rw [HL.out]; exact hlt)).1.trans (by unfold byteAt; simp [List.getD, hx]))
      have hi : (k : Int) < n := by omega
      have h0 : (0 : Int) ≤ k := by omega
      have hln := HLN.out k
      have HC := hide (HF.out x (List.mem_of_getElem? hx) wr hB)
      have HTK : Hid (xs.take (k + 1) = xs.take k ++ [x]) := hide (by rw [List.take_add_one, hx]; rfl)
      clear hx
      cases hp : p x
      · have HE : Hid ((xs.take (k + 1)).filter p = (xs.take k).filter p) := hide (by rw [HTK.out, List.filter_append]; simp [hp])
        rw [hp] at HC
        go_wp2_with (go_at_fn f; refine HC.out.mono ?_; rintro e w1 ⟨rfl, hb1⟩)
        refine ⟨⟨k + 1, by omega, by go_num, ?_, hB.trans (hb1.mono hbs)⟩, by simp [intOf]; omega⟩
        rw [HE.out]
        exact own_go HOWN.out hb1
      · have HE : Hid ((xs.take (k + 1)).filter p = (xs.take k).filter p ++ [x]) := hide (by rw [HTK.out, List.filter_append]; simp [hp])
        rw [hp] at HC
        go_wp2_with fail
        go_at_fn f
        refine HC.out.mono ?_
        rintro e w1 ⟨rfl, hb1⟩
        have hown3 := own_go HOWN.out hb1
        have hB3 := hB.trans (hb1.mono hbs)
        have hs3 := hB3.size
        clear hb1 HC
        go_wp2_with (at_builtin; refine wpList_append_own _ rfl (.tmp 17) (.tmp 19) 113 rfl w.heap.size 5 i0 (.int .u8 0) 1 1 Try.underlying113 hi0 hz0 hz1 hz2 rfl (by decide) _ ((xs.take k).filter p).length _ rfl (hown3.alloc _) ⟨w1.heap.size, 0, none⟩ 1 1 [.int .u8 (x.toNat : Int)] rfl rfl (one_cell _) (one_one rfl) ?h1 ?h2 ?h3 ?_)
        case h1 => unfold maxLen; omega
        case h2 => omega
        case h3 => simp; omega
        intro v' w4 hown4 hg4 _
        obtain ⟨A4, c4, rfl, _, _⟩ := cellsIn_of_own hown4 (by omega)
        have H4 := hide hown4
        have hg34 : w1.grownBy w4 _ := grown_trans (World.grownBy_alloc w1 _ _) hg4
        have hB4 := hB3.trans (grown_toBelow hg34 (by omega) (fun k hk => (hown3.lt k hk).1))
        clear hown4 hg4 hg34 hown3
        go_wp2
        refine ⟨⟨k + 1, by omega, by go_num, ?_, hB4⟩, by simp [intOf]; omega⟩
        rw [HE.out, Lib.byteCells_append, List.length_append]
        exact H4.out
    · obtain rfl : k = n := by omega
      have HTA : Hid (xs.take k = xs) := hide (by rw [← HL.out]; exact List.take_length)
      rw [HTA.out] at HOWN ⊢
      go_wp2
      go_ret
      exact ⟨.slice Ab (xs.filter p).length cbb, rfl, HOWN.out, hB⟩


def L26 : List UInt8 := [65, 66, 67, 68, 69, 70, 71, 72, 73, 74, 75, 76, 77, 78, 79, 80, 81, 82, 83, 84, 85, 86, 87, 88, 89, 90]
theorem L26_get : ∀ n : Nat, n < 26 → L26[n]? = some (UInt8.ofNat (65 + n))
  | 0, _ | 1, _ | 2, _ | 3, _ | 4, _ | 5, _ | 6, _ | 7, _ | 8, _ | 9, _ | 10, _ | 11, _ | 12, _ | 13, _ | 14, _ | 15, _ | 16, _ | 17, _ | 18, _ | 19, _ | 20, _ | 21, _ | 22, _ | 23, _ | 24, _ | 25, _ => by rfl
  | n + 26, h => by omega
theorem L26_mem {b : UInt8} (h : b ∈ L26) : ∃ n : Nat, n < 26 ∧ b = UInt8.ofNat (65 + n) := by
  obtain ⟨n, hn⟩ := List.getElem?_of_mem h
  have hl : n < 26 := (List.getElem?_eq_some_iff.1 hn).1
  rw [L26_get n hl] at hn
  exact ⟨n, hl, (Option.some.inj hn).symm⟩
theorem of65 {n : Nat} (h : n < 26) : ((UInt8.ofNat (65 + n)).toNat : Int) = 65 + (n : Int) := by
  rw [UInt8.toNat_ofNat']; omega
theorem rune_str : ∀ (n : Nat), n < 26 → ∀ w : World, (convert 21 9 (.int .i32 (65 + (n : Int)))).run Try.prog w = .ok (.string ⟨#[UInt8.ofNat (65 + n)]⟩) w
  | 0, _ | 1, _ | 2, _ | 3, _ | 4, _ | 5, _ | 6, _ | 7, _ | 8, _ | 9, _ | 10, _ | 11, _ | 12, _ | 13, _ | 14, _ | 15, _ | 16, _ | 17, _ | 18, _ | 19, _ | 20, _ | 21, _ | 22, _ | 23, _ | 24, _ | 25, _ => fun _ => by kernel_rfl
  | n + 26, h => by omega
noncomputable def fl1 (F : Fc) (l r : ByteArray) (x y : Int) (b : UInt8) : Bool := filB F (l ++ ⟨#[b]⟩ ++ r).data.toList x y
noncomputable def flV (F : Fc) (l r : ByteArray) (x y : Int) : ByteArray := if flC F l.data.toList r.data.toList [] x y = 0 then ⟨(L26.filter (fl1 F l r x y)).toArray⟩ else ⟨#[]⟩
theorem flV_no {F : Fc} {l r : ByteArray} {x y : Int} (h : flC F l.data.toList r.data.toList [] x y ≠ 0) : flV F l r x y = ⟨#[]⟩ := by unfold flV; rw [if_neg h]
theorem flV_ok {F : Fc} {l r : ByteArray} {x y : Int} (h : flC F l.data.toList r.data.toList [] x y = 0) : flV F l r x y = ⟨(L26.filter (fl1 F l r x y)).toArray⟩ := by unfold flV; rw [if_pos h]

set_option maxRecDepth 100000 in
set_option maxHeartbeats 4000000 in
theorem fillL1_any (F : Fc) (hF : F.ok) (A : Option Addr) (c : Nat) (P : Nat) (l r : ByteArray) (n : Nat) (x y : Int) (w : World) (hl : l.size ≤ 1048576) (hr : r.size ≤ 1048576) (hn : n < 26) (hv : vface F = true) (hx : inB x 0 4000 = true)
    (hP : w.rangeAt P 0 (blc F (.slice A F.ps.length c) l r x y)) (hA : PairsAt w w.heap.size A F.ps) :
    Calls Try.prog 94 (#[.int .u8 ((UInt8.ofNat (65 + n)).toNat : Int)] ++ #[.pointer (some ⟨P, 0, none⟩)]) w fun e w' => e = .returned (.bool (fl1 F l r x y (UInt8.ofNat (65 + n)))) ∧ Below w.heap.size w w' := by
  have HI33 := hide (show (Try.prog.info? 93).map (·.size) = some (blc F (.slice A F.ps.length c) l r x y).length from by rw [blc_len hF.len]; kernel_rfl)
  have HFI := hide (fits_any F hF A c l r ⟨#[UInt8.ofNat (65 + n)]⟩ x y w hl hr (by show 1 ≤ 1048576; omega) hv hx hA)
  have HRS := hide (rune_str n hn w)
  have hw32 : IntKind.i32.wrap (65 + (n : Int)) = 65 + (n : Int) := by simp [IntKind.wrap, IntKind.signed, IntKind.bits]; omega
  rw [of65 hn]
  unfold fl1
  generalize filB F (l ++ ⟨#[UInt8.ofNat (65 + n)]⟩ ++ r).data.toList x y = R at *
  generalize hcs : blc F (.slice A F.ps.length c) l r x y = cs at *
  generalize (⟨#[UInt8.ofNat (65 + n)]⟩ : ByteArray) = S at *
  generalize (65 : Int) + n = m at *
  have hrs := HRS.out
  go_enter Try.func94, Try.ntmps94
  go_wp2_with (refine wpList_load_mid rfl 93 (.tmp 1) rfl _ 0 rfl cs _ hP Try.underlying93 rfl HI33.out ?_)
  refine HFI.out.mono ?_
  rintro e w1 ⟨rfl, hb1⟩
  go_wp2
  go_ret
  exact ⟨rfl, hb1⟩
theorem L26_cells : ∀ j : Nat, j < 26 → (#[.int .u8 65, .int .u8 66, .int .u8 67, .int .u8 68, .int .u8 69, .int .u8 70, .int .u8 71, .int .u8 72, .int .u8 73, .int .u8 74, .int .u8 75, .int .u8 76, .int .u8 77, .int .u8 78, .int .u8 79, .int .u8 80, .int .u8 81, .int .u8 82, .int .u8 83, .int .u8 84, .int .u8 85, .int .u8 86, .int .u8 87, .int .u8 88, .int .u8 89, .int .u8 90] : Array Value)[j]? = some (.int .u8 (byteAt L26 j))
  | 0, _ | 1, _ | 2, _ | 3, _ | 4, _ | 5, _ | 6, _ | 7, _ | 8, _ | 9, _ | 10, _ | 11, _ | 12, _ | 13, _ | 14, _ | 15, _ | 16, _ | 17, _ | 18, _ | 19, _ | 20, _ | 21, _ | 22, _ | 23, _ | 24, _ | 25, _ => by rfl
  | n + 26, h => by omega

theorem l26_world (w : World) : Below w.heap.size w (w.alloc (.cells #[.int .u8 65, .int .u8 66, .int .u8 67, .int .u8 68, .int .u8 69, .int .u8 70, .int .u8 71, .int .u8 72, .int .u8 73, .int .u8 74, .int .u8 75, .int .u8 76, .int .u8 77, .int .u8 78, .int .u8 79, .int .u8 80, .int .u8 81, .int .u8 82, .int .u8 83, .int .u8 84, .int .u8 85, .int .u8 86, .int .u8 87, .int .u8 88, .int .u8 89, .int .u8 90] 5 (26, 27))) ∧ BytesAt (w.alloc (.cells #[.int .u8 65, .int .u8 66, .int .u8 67, .int .u8 68, .int .u8 69, .int .u8 70, .int .u8 71, .int .u8 72, .int .u8 73, .int .u8 74, .int .u8 75, .int .u8 76, .int .u8 77, .int .u8 78, .int .u8 79, .int .u8 80, .int .u8 81, .int .u8 82, .int .u8 83, .int .u8 84, .int .u8 85, .int .u8 86, .int .u8 87, .int .u8 88, .int .u8 89, .int .u8 90] 5 (26, 27))) w.heap.size L26 ∧ w.heap.size < (w.alloc (.cells #[.int .u8 65, .int .u8 66, .int .u8 67, .int .u8 68, .int .u8 69, .int .u8 70, .int .u8 71, .int .u8 72, .int .u8 73, .int .u8 74, .int .u8 75, .int .u8 76, .int .u8 77, .int .u8 78, .int .u8 79, .int .u8 80, .int .u8 81, .int .u8 82, .int .u8 83, .int .u8 84, .int .u8 85, .int .u8 86, .int .u8 87, .int .u8 88, .int .u8 89, .int .u8 90] 5 (26, 27))).heap.size := by
  refine ⟨(Below.refl _ _).alloc (Nat.le_refl _) _, fun j hj => ?_, by simp⟩
  have hj' : j < 26 := hj
  refine ⟨?_, ?_⟩
  · rw [cell_of_row _ _ _ _ _ _ (heap_alloc_new w _)]
    exact L26_cells j hj'
  · have hn : ¬ 26 ≤ j := by omega
    simp only [World.frozen?, heap_alloc_new]
    simp [hn]

set_option maxRecDepth 100000 in
set_option maxHeartbeats 8000000 in
theorem implFillLetter_any (F : Fc) (hF : F.ok) (A : Option Addr) (c : Nat) (l : ByteArray) (hl : l.size ≤ 1048576) (r : ByteArray) (hr : r.size ≤ 1048576) (x y : Int) (w : World) (hG : Glob w) (hA : PairsAt w w.heap.size A F.ps) :
    Calls Try.prog 41 #[.agg (fc F (.slice A F.ps.length c)).toArray, .string l, .string r, .int .i64 x, .int .i64 y] w fun e w' => e = .returned (.tuple #[.string (flV F l r x y), .int .i64 (flC F l.data.toList r.data.toList [] x y)]) ∧ Below w.heap.size w w' := by
  have hW := hide hF.len
  have HI29 := hide (show (Try.prog.info? 38).map (·.size) = some (fc F (.slice A F.ps.length c)).length from by rw [fc_length hW.out]; kernel_rfl)
  have HI33 := hide (show (Try.prog.info? 93).map (·.size) = some (blc F (.slice A F.ps.length c) l r x y).length from by rw [blc_len hW.out]; kernel_rfl)
  have hbt := built_bl hW.out (.slice A F.ps.length c) l r x y
  have hone := blc_one F A F.ps.length c l r x y
  have r0 := rangeAt_new w (fc F (.slice A F.ps.length c)) 38
  have t3 : ((w.alloc (.cells (fc F (.slice A F.ps.length c)).toArray 38)).alloc (.cells #[.int .i8 0, .int .i8 0, .int .i8 0, .int .i8 0, .int .i8 0, .int .i8 0, .int .i8 0, .int .i8 0, .int .i8 0, .int .i8 0, .int .i8 0, .int .i8 0, .int .i8 0, .int .i8 0, .int .i8 0, .int .i8 0, .int .i8 0, .int .i8 0, .int .i8 0, .int .i8 0, .int .i8 0, .int .i8 0, .int .i8 0, .int .i8 0, .int .i8 0, .int .i8 0, .int .i8 0, .int .i8 0, .slice none 0 0, .string ⟨#[]⟩, .string ⟨#[]⟩, .int .i64 0, .int .i64 0] 93)).there (w.heap.size + 1) 0 33 := there_newg (by simp) rfl
  have t3' : ((w.alloc (.cells (fc F (.slice A F.ps.length c)).toArray 38)).alloc (.cells #[.int .i8 0, .int .i8 0, .int .i8 0, .int .i8 0, .int .i8 0, .int .i8 0, .int .i8 0, .int .i8 0, .int .i8 0, .int .i8 0, .int .i8 0, .int .i8 0, .int .i8 0, .int .i8 0, .int .i8 0, .int .i8 0, .int .i8 0, .int .i8 0, .int .i8 0, .int .i8 0, .int .i8 0, .int .i8 0, .int .i8 0, .int .i8 0, .int .i8 0, .int .i8 0, .int .i8 0, .int .i8 0, .slice none 0 0, .string ⟨#[]⟩, .string ⟨#[]⟩, .int .i64 0, .int .i64 0] 93)).there (w.heap.size + 1) 0 (blc F (.slice A F.ps.length c) l r x y).toArray.size := by
    have e : (blc F (.slice A F.ps.length c) l r x y).toArray.size = 33 := by rw [List.size_toArray, blc_len hW.out]
    rw [e]; exact t3
  obtain ⟨W3, hW3⟩ : ∃ W3, W3 = ((w.alloc (.cells (fc F (.slice A F.ps.length c)).toArray 38)).alloc (.cells #[.int .i8 0, .int .i8 0, .int .i8 0, .int .i8 0, .int .i8 0, .int .i8 0, .int .i8 0, .int .i8 0, .int .i8 0, .int .i8 0, .int .i8 0, .int .i8 0, .int .i8 0, .int .i8 0, .int .i8 0, .int .i8 0, .int .i8 0, .int .i8 0, .int .i8 0, .int .i8 0, .int .i8 0, .int .i8 0, .int .i8 0, .int .i8 0, .int .i8 0, .int .i8 0, .int .i8 0, .int .i8 0, .slice none 0 0, .string ⟨#[]⟩, .string ⟨#[]⟩, .int .i64 0, .int .i64 0] 93)).setCells (w.heap.size + 1) 0 (blc F (.slice A F.ps.length c) l r x y).toArray.toList := ⟨_, rfl⟩
  have hb3 : Below w.heap.size w W3 := by rw [hW3]; exact below_setCells _ _ _ _ (((Below.refl _ _).alloc (Nat.le_refl _) _).alloc (by simp) _) (by omega)
  have hs3 : w.heap.size + 1 < W3.heap.size := by rw [hW3, size_setCells]; simp
  have q3 : W3.rangeAt (w.heap.size + 1) 0 (blc F (.slice A F.ps.length c) l r x y) := by rw [hW3]; exact World.rangeAt_setCells_same _ _ _ _ t3'
  have HW3 := hide hW3
  have HA3 := hide ((hA.below hb3).mono hb3.size)
  have HG3 := hide (hG.below hb3)
  have HCK := hide (fun W h1 h2 => checkB_any F hF A c l r x y none [] 0 W hl hr (by simp) (by simp) h1 h2 (StrsAt.nil _ _ _))
  clear hW3
  generalize hV : flV F l r x y = V
  have HV := hide hV
  clear hV
  by_cases hcode : flC F l.data.toList r.data.toList [] x y = 0
  · have HP := hide (flV_ok hcode)
    obtain ⟨z1, z2, z3, _, _, _⟩ := fl_zero hcode
    have HTH := hide (fun b W (hWW : Below W3.heap.size W3 W) (hB : BytesAt W b L26) (hb : b < W.heap.size) =>
      thoseB_any 94 (enters_of Try.func94 (by kernel_rfl) rfl) #[.pointer (some ⟨w.heap.size + 1, 0, none⟩)] (fl1 F l r x y) L26 b 26 W (by decide) hB hb
        (fun u hu V hV => by
          obtain ⟨n, hn, rfl⟩ := L26_mem hu
          have hBV := hWW.trans (hV.mono hWW.size)
          exact fillL1_any F hF A c (w.heap.size + 1) l r n x y V hl hr hn z1 z3 (rangeAt_below q3 hBV hs3) (HA3.out.go hBV (Nat.le_refl _))))
    rw [show L26.length = 26 from rfl] at HTH
    rw [hcode] at HCK ⊢
    clear hA hG
    generalize hcs : blc F (.slice A F.ps.length c) l r x y = cs at *
    go_enter Try.func41, Try.ntmps41
    repeat (first | (refine wpList_load_mid rfl 38 (.tmp 5) rfl _ 0 rfl (fc F (.slice A F.ps.length c)) _ r0 Try.underlying38 rfl HI29.out ?_) | (refine wpList_build_eq rfl 93 _ rfl hbt (by first | (simp only [List.map_toArray, List.map_cons, List.map_nil]; rfl) | kernel_rfl) ?_) | (refine wpList_store_mid rfl 93 (.tmp 12) (.tmp 20) rfl (w.heap.size + 1) 0 cs.toArray rfl rfl t3' HI33.out hone ?_; rw [← HW3.out]) | (refine wpList_load_mid rfl 93 (.tmp 12) rfl _ 0 rfl cs _ q3 Try.underlying93 rfl HI33.out ?_) | go_step)
    refine (HCK.out _ HG3.out HA3.out).mono ?_
    rintro e w4 ⟨rfl, hb4⟩
    clear r0 t3 t3'
    have kc := Lib.run_convert_bytes_const (P := Try.prog) w4 113 5 #[.int .u8 65, .int .u8 66, .int .u8 67, .int .u8 68, .int .u8 69, .int .u8 70, .int .u8 71, .int .u8 72, .int .u8 73, .int .u8 74, .int .u8 75, .int .u8 76, .int .u8 77, .int .u8 78, .int .u8 79, .int .u8 80, .int .u8 81, .int .u8 82, .int .u8 83, .int .u8 84, .int .u8 85, .int .u8 86, .int .u8 87, .int .u8 88, .int .u8 89, .int .u8 90] 26 26 Try.underlying113 Try.underlying5
    have HW5 := l26_world w4
    have hb5 := hb4.trans (HW5.1.mono hb4.size)
    have HT5 := hide (HTH.out w4.heap.size _ hb5 HW5.2.1 HW5.2.2)
    have kb := fun (W : World) (base n : Nat) (v : Value) (L : List UInt8) (h : W.ownsRow base 5 1 v n (Lib.byteCells L)) => str_of_own h
    clear HW5
    go_wp2_with fail
    refine HT5.out.mono ?_
    rintro e w6 ⟨v, rfl, hown, hb6⟩
    have k6 := kb w6 _ _ v _ hown
    have hfin : Below w.heap.size w w6 := hb3.trans ((hb5.trans (hb6.mono hb5.size)).mono hb3.size)
    clear kc kb HTH HT5
    go_wp2
    go_ret2
    exact ⟨ret_si (HP.out.symm.trans HV.out) rfl, hfin⟩
  · have HP := hide (flV_no hcode)
    have hd : (flC F l.data.toList r.data.toList [] x y != 0) = true := by simpa using hcode
    have HNE := hide hcode
    clear hA hG hcode
    generalize flC F l.data.toList r.data.toList [] x y = C at *
    generalize hcs : blc F (.slice A F.ps.length c) l r x y = cs at *
    go_enter Try.func41, Try.ntmps41
    repeat (first | (refine wpList_load_mid rfl 38 (.tmp 5) rfl _ 0 rfl (fc F (.slice A F.ps.length c)) _ r0 Try.underlying38 rfl HI29.out ?_) | (refine wpList_build_eq rfl 93 _ rfl hbt (by first | (simp only [List.map_toArray, List.map_cons, List.map_nil]; rfl) | kernel_rfl) ?_) | (refine wpList_store_mid rfl 93 (.tmp 12) (.tmp 20) rfl (w.heap.size + 1) 0 cs.toArray rfl rfl t3' HI33.out hone ?_; rw [← HW3.out]) | (refine wpList_load_mid rfl 93 (.tmp 12) rfl _ 0 rfl cs _ q3 Try.underlying93 rfl HI33.out ?_) | go_step)
    refine (HCK.out _ HG3.out HA3.out).mono ?_
    rintro e w4 ⟨rfl, hb4⟩
    clear r0 t3 t3'
    go_wp2
    go_ret2
    exact ⟨ret_si (HP.out.symm.trans HV.out) rfl, hb3.trans (hb4.mono hb3.size)⟩
end Go.Proofs.Ytajlbfbpkafjfaa
