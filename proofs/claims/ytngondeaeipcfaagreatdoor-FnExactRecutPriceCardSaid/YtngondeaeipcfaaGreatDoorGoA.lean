/- Gold for lines and sheets: values behind an interface; PiecesFor of both. · Gold for sheets: what is valid, how wide letters are, by how much gold is wider; goldFor. · goldFor and PiecesFor of the program. -/
import Derived.Test.YtngondeaeipcfaaGreatDoorGdA
import Derived.Test.YtngondeaeipcfaaGreatDoorLaP
import Derived.Test.YtngondeaeipcfaaGreatDoorFlW
import Derived.Test.YtngondeaeipcfaaGreatDoorG5
import Derived.Test.YtngondeaeipcfaaGreatDoorChLM

namespace Go.Proofs.YtngondeaeipcfaaGreatDoor
open Go Go.RowKit

/-! A line with gold, and sheets for one, as cells -/
def gln (F : Fc) (sl : Value) (s : ByteArray) : List Value := fc F sl ++ [.string s]
def gsh (F : Fc) (sl : Value) (s : ByteArray) (wd ov : Int) : List Value := gln F sl s ++ [.int .i16 wd, .int .i8 ov]
theorem gln_len {F : Fc} (h : F.W.length = 26) (sl : Value) (s : ByteArray) : (gln F sl s).length = 30 := by simp [gln, fc_length h]
theorem gsh_len {F : Fc} (h : F.W.length = 26) (sl : Value) (s : ByteArray) (wd ov : Int) : (gsh F sl s wd ov).length = 32 := by simp [gsh, gln_len h]
theorem gln_s {F : Fc} (h : F.W.length = 26) (sl : Value) (s : ByteArray) : (gln F sl s)[29]? = some (.string s) := by
  unfold gln; rw [List.getElem?_append_right (by rw [fc_length h]; omega), fc_length h]; rfl
theorem gln_one (F : Fc) (A : Option Addr) (n c : Nat) (s : ByteArray) : (gln F (.slice A n c) s).toArray.all (·.oneCell') = true :=
  all_oneCell_toArray (by intro v hv; simp [gln, fc, wc] at hv; rcases hv with ⟨a, _, rfl⟩ | rfl | rfl | rfl | rfl <;> rfl)
theorem gsh_one (F : Fc) (A : Option Addr) (n c : Nat) (s : ByteArray) (wd ov : Int) : (gsh F (.slice A n c) s wd ov).toArray.all (·.oneCell') = true :=
  all_oneCell_toArray (by intro v hv; simp [gsh, gln, fc, wc] at hv; rcases hv with ⟨a, _, rfl⟩ | rfl | rfl | rfl | rfl | rfl | rfl <;> rfl)
set_option maxRecDepth 100000 in
theorem built_gln' : ∀ (W : List Int) (_ : W.length = 26) (sp gp : Int) (ps : List (Int × Int × Int)) (sl : Value) (s : ByteArray),
    Tryz.prog.built 261 [(0, .agg (fc ⟨W, sp, gp, ps⟩ sl).toArray), (1, .string s)] = some (gln ⟨W, sp, gp, ps⟩ sl s).toArray
  | [a0, a1, a2, a3, a4, a5, a6, a7, a8, a9, a10, a11, a12, a13, a14, a15, a16, a17, a18, a19, a20, a21, a22, a23, a24, a25], _, sp, gp, ps, sl, s => by kernel_rfl
theorem built_gln {F : Fc} (h : F.W.length = 26) (sl : Value) (s : ByteArray) : Tryz.prog.built 261 [(0, .agg (fc F sl).toArray), (1, .string s)] = some (gln F sl s).toArray := built_gln' F.W h F.sp F.gp F.ps sl s
set_option maxRecDepth 100000 in
theorem built_gsh' : ∀ (W : List Int) (_ : W.length = 26) (sp gp : Int) (ps : List (Int × Int × Int)) (sl : Value) (s : ByteArray) (wd ov : Int),
    Tryz.prog.built 332 [(0, .agg (gln ⟨W, sp, gp, ps⟩ sl s).toArray), (1, .agg #[.int .i16 wd, .int .i8 ov])] = some (gsh ⟨W, sp, gp, ps⟩ sl s wd ov).toArray
  | [a0, a1, a2, a3, a4, a5, a6, a7, a8, a9, a10, a11, a12, a13, a14, a15, a16, a17, a18, a19, a20, a21, a22, a23, a24, a25], _, sp, gp, ps, sl, s, wd, ov => by kernel_rfl
theorem built_gsh {F : Fc} (h : F.W.length = 26) (sl : Value) (s : ByteArray) (wd ov : Int) : Tryz.prog.built 332 [(0, .agg (gln F sl s).toArray), (1, .agg #[.int .i16 wd, .int .i8 ov])] = some (gsh F sl s wd ov).toArray := built_gsh' F.W h F.sp F.gp F.ps sl s wd ov

/-! Which function a method is -/
set_option maxRecDepth 100000 in
theorem meth_valid (v : Value) (w : World) : (method 468 332 v "loop.example/g01398/impl.isValid").run Tryz.prog w = .ok (343, v) w := by kernel_rfl
set_option maxRecDepth 100000 in
theorem meth_wides' : ∀ (W : List Int) (_ : W.length = 26) (sp gp : Int) (ps : List (Int × Int × Int)) (sl : Value) (s : ByteArray) (wd ov : Int) (w : World),
    (method 468 332 (.agg (gsh ⟨W, sp, gp, ps⟩ sl s wd ov).toArray) "loop.example/g01398/impl.letterWides").run Tryz.prog w = .ok (326, .agg (gln ⟨W, sp, gp, ps⟩ sl s).toArray) w
  | [a0, a1, a2, a3, a4, a5, a6, a7, a8, a9, a10, a11, a12, a13, a14, a15, a16, a17, a18, a19, a20, a21, a22, a23, a24, a25], _, sp, gp, ps, sl, s, wd, ov, w => by kernel_rfl
end Go.Proofs.YtngondeaeipcfaaGreatDoor

namespace Go.Proofs.YtngondeaeipcfaaGreatDoor
open Go Go.RowKit

theorem IntsIn.put {w : World} {L : Nat} {A : Option Addr} {xs : List Int} (h : IntsIn w L A xs) {b o i : Nat} (hA : A = some ⟨b, o, none⟩) (hi : i < xs.length) (s : Int) : IntsIn (w.setCell ⟨b, o + i, none⟩ (.int .i64 s)) L A (xs.set i s) := by
  intro hne
  obtain ⟨b', o', e, h1, h2, h3, h4⟩ := h (by intro e; subst e; simp at hi)
  rw [hA] at e
  injection e with e; injection e with e1 e2; subst e1 e2
  refine ⟨b, o, hA, h1, by rw [size_setCell]; exact h2, fun k x hx => ?_, by rw [List.length_set]; exact there_set h4 _ _⟩
  by_cases e : i = k
  · subst e
    rw [List.getElem?_set_self hi] at hx
    injection hx with hx; subst hx
    exact World.cell?_setCell_same' _ _ _ (h4 i hi).1
  · rw [List.getElem?_set_ne e] at hx
    rw [World.cell?_setCell_other _ _ _ _ (by intro he; injection he with _ he; omega)]
    exact h3 k x hx

/-! What is valid -/
set_option maxRecDepth 100000 in
set_option maxHeartbeats 4000000 in
theorem lineValid_any (F : Fc) (hF : F.ok) (A : Option Addr) (c : Nat) (s : ByteArray) (hs : s.size ≤ maxLen) (w : World) (hA : PairsAt w w.heap.size A F.ps) :
    Calls Tryz.prog 325 #[.agg (gln F (.slice A F.ps.length c) s).toArray] w fun e w' => e = .returned (.bool (vface F && vtext s.data.toList)) ∧ Below w.heap.size w w' := by
  have hr := rangeAt_new w (gln F (.slice A F.ps.length c) s) 261
  have b0 : Below w.heap.size w (w.alloc (.cells (gln F (.slice A F.ps.length c) s).toArray 261)) := (Below.refl _ _).alloc (Nat.le_refl _) _
  have s0 : w.heap.size < (w.alloc (.cells (gln F (.slice A F.ps.length c) s).toArray 261)).heap.size := by simp
  have HI29 := hide (show (Tryz.prog.info? 28).map (·.size) = some (fc F (.slice A F.ps.length c)).length from by rw [fc_length hF.len]; kernel_rfl)
  have rf := rangeAt_left (show (w.alloc (.cells (gln F (.slice A F.ps.length c) s).toArray 261)).rangeAt w.heap.size 0 (fc F (.slice A F.ps.length c) ++ [.string s]) from hr)
  have cs := rangeAt_cell hr (gln_s hF.len _ s)
  have HV := hide (fun W h => implValidFace_any F hF A c W h)
  have HT := hide (fun W => implValidText_any s W hs)
  have HA := hide ((hA.below b0).mono b0.size)
  unfold maxLen at hs
  clear hr hA
  generalize hcs : (gln F (.slice A F.ps.length c) s).toArray = cells at *
  clear hcs
  cases hv : vface F
  · rw [hv] at HV
    go_enter Tryz.func325, Tryz.ntmps325
    go_wp2_with (refine wpList_load_mid rfl 28 (.tmp 3) rfl _ 0 rfl (fc F (.slice A F.ps.length c)) _ rf Tryz.underlying28 rfl HI29.out ?_)
    generalize (w.alloc (.cells cells 261)) = W0 at *
    refine (HV.out _ HA.out).mono ?_
    rintro e w1 ⟨rfl, hb1⟩
    go_wp2
    go_ret
    exact ⟨rfl, b0.trans (hb1.mono b0.size)⟩
  · rw [hv] at HV
    go_enter Tryz.func325, Tryz.ntmps325
    go_wp2_with (refine wpList_load_mid rfl 28 (.tmp 3) rfl _ 0 rfl (fc F (.slice A F.ps.length c)) _ rf Tryz.underlying28 rfl HI29.out ?_)
    generalize (w.alloc (.cells cells 261)) = W0 at *
    refine (HV.out _ HA.out).mono ?_
    rintro e w1 ⟨rfl, hb1⟩
    have cs1 := (hb1.cell (p := ⟨w.heap.size, 29, none⟩) s0).trans cs
    have hB1 := b0.trans (hb1.mono b0.size)
    clear cs
    go_wp2_with (go_at_call 105; refine (HT.out _).mono ?_; rintro e w2 ⟨rfl, hb2⟩)
    go_ret
    exact ⟨rfl, hB1.trans (hb2.mono hB1.size)⟩

set_option maxRecDepth 100000 in
set_option maxHeartbeats 4000000 in
theorem sheetsValid_any (F : Fc) (hF : F.ok) (A : Option Addr) (c : Nat) (s : ByteArray) (hs : s.size ≤ maxLen) (wd ov : Int) (hw : i16ok wd) (ho : i8ok ov) (w : World) (hA : PairsAt w w.heap.size A F.ps) :
    Calls Tryz.prog 343 #[.agg (gsh F (.slice A F.ps.length c) s wd ov).toArray] w fun e w' => e = .returned (.bool (vface F && vtext s.data.toList && vsht wd ov)) ∧ Below w.heap.size w w' := by
  have hr := rangeAt_new w (gsh F (.slice A F.ps.length c) s wd ov) 332
  have b0 : Below w.heap.size w (w.alloc (.cells (gsh F (.slice A F.ps.length c) s wd ov).toArray 332)) := (Below.refl _ _).alloc (Nat.le_refl _) _
  have s0 : w.heap.size < (w.alloc (.cells (gsh F (.slice A F.ps.length c) s wd ov).toArray 332)).heap.size := by simp
  have hgl := gln_len hF.len (.slice A F.ps.length c) s
  have HI30 := hide (show (Tryz.prog.info? 261).map (·.size) = some (gln F (.slice A F.ps.length c) s).length from by rw [hgl]; kernel_rfl)
  have rf := rangeAt_left (show (w.alloc (.cells (gsh F (.slice A F.ps.length c) s wd ov).toArray 332)).rangeAt w.heap.size 0 (gln F (.slice A F.ps.length c) s ++ [.int .i16 wd, .int .i8 ov]) from hr)
  have c30 := rangeAt_cell hr (show (gsh F (.slice A F.ps.length c) s wd ov)[30]? = some (.int .i16 wd) by unfold gsh; rw [List.getElem?_append_right (by rw [hgl]; omega), hgl]; rfl)
  have c31 := rangeAt_cell hr (show (gsh F (.slice A F.ps.length c) s wd ov)[31]? = some (.int .i8 ov) by unfold gsh; rw [List.getElem?_append_right (by rw [hgl]; omega), hgl]; rfl)
  have HV := hide (fun W h => lineValid_any F hF A c s hs W h)
  have HT := hide (fun W => implValidSheet_any wd hw ov ho W)
  have HA := hide ((hA.below b0).mono b0.size)
  clear hr hA hgl hs hw ho
  generalize hcs : (gsh F (.slice A F.ps.length c) s wd ov).toArray = cells at *
  generalize hgs : gln F (.slice A F.ps.length c) s = gs at *
  clear hcs hgs
  generalize (vface F && vtext s.data.toList) = V at *
  cases V
  · go_enter Tryz.func343, Tryz.ntmps343
    go_wp2_with (refine wpList_load_mid rfl 261 (.tmp 3) rfl _ 0 rfl gs _ rf Tryz.underlying261 rfl HI30.out ?_)
    generalize (w.alloc (.cells cells 332)) = W0 at *
    refine (HV.out _ HA.out).mono ?_
    rintro e w1 ⟨rfl, hb1⟩
    go_wp2
    go_ret
    exact ⟨rfl, b0.trans (hb1.mono b0.size)⟩
  · go_enter Tryz.func343, Tryz.ntmps343
    go_wp2_with (refine wpList_load_mid rfl 261 (.tmp 3) rfl _ 0 rfl gs _ rf Tryz.underlying261 rfl HI30.out ?_)
    generalize (w.alloc (.cells cells 332)) = W0 at *
    refine (HV.out _ HA.out).mono ?_
    rintro e w1 ⟨rfl, hb1⟩
    have c30' := (hb1.cell (p := ⟨w.heap.size, 30, none⟩) s0).trans c30
    have c31' := (hb1.cell (p := ⟨w.heap.size, 31, none⟩) s0).trans c31
    have hB1 := b0.trans (hb1.mono b0.size)
    clear c30 c31
    go_wp2_with (go_at_call 344; refine (HT.out _).mono ?_; rintro e w2 ⟨rfl, hb2⟩)
    go_ret
    exact ⟨rfl, hB1.trans (hb2.mono hB1.size)⟩

/-! By how much gold is wider -/
set_option maxRecDepth 100000 in
theorem assert_gsh (v : Value) (w : World) : (Instr.typeAssert (.iface 332 v) 293 332 true).run Tryz.prog w = .ok (.tuple #[v, .bool true]) w := by kernel_rfl

set_option maxRecDepth 100000 in
set_option maxHeartbeats 4000000 in
theorem overOf_gsh (F : Fc) (hF : F.ok) (A : Option Addr) (c : Nat) (s : ByteArray) (wd ov : Int) (ho : i8ok ov) (w : World) :
    Calls Tryz.prog 275 #[.iface 332 (.agg (gsh F (.slice A F.ps.length c) s wd ov).toArray)] w fun e w' => e = .returned (.int .i64 (2 * ov)) ∧ Below w.heap.size w w' := by
  have hgl := gsh_len hF.len (.slice A F.ps.length c) s wd ov
  have hln := gln_len hF.len (.slice A F.ps.length c) s
  have HI32 := hide (show (Tryz.prog.info? 332).map (·.size) = some (gsh F (.slice A F.ps.length c) s wd ov).length from by rw [hgl]; kernel_rfl)
  have hone := gsh_one F A F.ps.length c s wd ov
  have hta := fun w => assert_gsh (.agg (gsh F (.slice A F.ps.length c) s wd ov).toArray) w
  have h31 : (gsh F (.slice A F.ps.length c) s wd ov)[31]? = some (.int .i8 ov) := by unfold gsh; rw [List.getElem?_append_right (by rw [hln]; omega), hln]; rfl
  obtain ⟨o1, o2⟩ := ho
  have H31 := hide h31
  have HGL := hide hgl
  clear h31 hgl hln
  generalize gsh F (.slice A F.ps.length c) s wd ov = cs at *
  have hw8 := IntWalk.i64_in (2 * ov) ⟨by omega, by omega⟩
  obtain ⟨W3, hW3⟩ : ∃ W3, W3 = (w.alloc (.cells #[.int .i8 0, .int .i8 0, .int .i8 0, .int .i8 0, .int .i8 0, .int .i8 0, .int .i8 0, .int .i8 0, .int .i8 0, .int .i8 0, .int .i8 0, .int .i8 0, .int .i8 0, .int .i8 0, .int .i8 0, .int .i8 0, .int .i8 0, .int .i8 0, .int .i8 0, .int .i8 0, .int .i8 0, .int .i8 0, .int .i8 0, .int .i8 0, .int .i8 0, .int .i8 0, .int .i8 0, .int .i8 0, .slice none 0 0, .string ⟨#[]⟩, .int .i16 0, .int .i8 0] 332)).setCells w.heap.size 0 cs.toArray.toList := ⟨_, rfl⟩
  have t3 : (w.alloc (.cells #[.int .i8 0, .int .i8 0, .int .i8 0, .int .i8 0, .int .i8 0, .int .i8 0, .int .i8 0, .int .i8 0, .int .i8 0, .int .i8 0, .int .i8 0, .int .i8 0, .int .i8 0, .int .i8 0, .int .i8 0, .int .i8 0, .int .i8 0, .int .i8 0, .int .i8 0, .int .i8 0, .int .i8 0, .int .i8 0, .int .i8 0, .int .i8 0, .int .i8 0, .int .i8 0, .int .i8 0, .int .i8 0, .slice none 0 0, .string ⟨#[]⟩, .int .i16 0, .int .i8 0] 332)).there w.heap.size 0 cs.toArray.size := there_newg rfl (by simp [HGL.out])
  have q3 : W3.rangeAt w.heap.size 0 cs := by rw [hW3]; exact World.rangeAt_setCells_same _ _ _ _ t3
  have c31 := rangeAt_cell q3 H31.out
  have b3 : Below w.heap.size w W3 := by rw [hW3]; exact below_setCells _ _ _ _ ((Below.refl _ _).alloc (Nat.le_refl _) _) (Nat.le_refl _)
  have HW3 := hide hW3
  clear hW3 q3
  go_enter Tryz.func275, Tryz.ntmps275
  repeat (first | (refine wpList_store_mid rfl 332 (.tmp 3) (.tmp 8) rfl w.heap.size 0 cs.toArray rfl rfl t3 HI32.out hone ?_; rw [← HW3.out]) | go_step)
  go_ret
  exact ⟨rfl, b3⟩

/-! How wide letters are -/
def lwT (F : Fc) (M : List UInt8) (k : Nat) : List Int := (M.take k).map (lwd F)
theorem lwT_succ {F : Fc} {M : List UInt8} {k : Nat} {b : UInt8} (h : M[k]? = some b) : lwT F M (k + 1) = lwT F M k ++ [lwd F b] := by
  unfold lwT; rw [List.take_add_one, h]; simp
theorem lwT_len {F : Fc} {M : List UInt8} {k : Nat} (h : k ≤ M.length) : (lwT F M k).length = k := by unfold lwT; rw [List.length_map, List.length_take]; omega
/-- How wide the letters of a text are. -/
def lwL (F : Fc) (L : List UInt8) : List Int := (lettL L).map (lwd F)
theorem lwT_all (F : Fc) (L : List UInt8) : lwT F (lettL L) (lettL L).length = lwL F L := by unfold lwT lwL; rw [List.take_length]
theorem lwL_len (F : Fc) (L : List UInt8) : (lwL F L).length = (lettL L).length := List.length_map _
theorem lwL_bd {F : Fc} (hF : F.ok) (h : vface F = true) {L : List UInt8} (ht : vtext L = true) : ∀ x ∈ lwL F L, 1 ≤ x ∧ x ≤ 40 := fun x hx => by
  obtain ⟨b, hb, rfl⟩ := List.mem_map.1 hx
  exact lw_bd hF h ht b hb
theorem lwL_n {F : Fc} {L : List UInt8} (ht : vtext L = true) : (lwL F L).length ≤ 60 := by
  rw [lwL_len]; exact Nat.le_trans (lettL_len L) (vtext_true.1 ht).1

set_option maxRecDepth 100000 in
set_option maxHeartbeats 8000000 in
theorem letterWides_any (F : Fc) (hF : F.ok) (A : Option Addr) (c : Nat) (s : ByteArray) (w : World) (hv : vtext s.data.toList = true) (hG : Glob w) :
    Calls Tryz.prog 326 #[.agg (gln F (.slice A F.ps.length c) s).toArray] w (IntsB (lwL F s.data.toList) w) := by
  obtain ⟨i0, hi0, hz0, hz1, hz2⟩ := info_parts Tryz.infoI64
  have hs60 : s.size ≤ 60 := by have := (vtext_true.1 hv).1; simpa using this
  have hcap : ∀ b ∈ lettL s.data.toList, 65 ≤ b.toNat ∧ b.toNat ≤ 90 := fun b hb => lett_cap hv hb
  have hr := rangeAt_new w (gln F (.slice A F.ps.length c) s) 261
  have b0 : Below w.heap.size w (w.alloc (.cells (gln F (.slice A F.ps.length c) s).toArray 261)) := (Below.refl _ _).alloc (Nat.le_refl _) _
  have s0 : w.heap.size < (w.alloc (.cells (gln F (.slice A F.ps.length c) s).toArray 261)).heap.size := by simp
  have HI29 := hide (show (Tryz.prog.info? 28).map (·.size) = some (fc F (.slice A F.ps.length c)).length from by rw [fc_length hF.len]; kernel_rfl)
  have r0 := rangeAt_left (show (w.alloc (.cells (gln F (.slice A F.ps.length c) s).toArray 261)).rangeAt w.heap.size 0 (fc F (.slice A F.ps.length c) ++ [.string s]) from hr)
  have cs := rangeAt_cell hr (gln_s hF.len _ s)
  have HL := hide (fun W hW => lettersOf_any s W (by omega) hW)
  have HGW := hide (hG.below b0)
  have HWX := hide (fun x W h => letterWide_any F hF (.slice A F.ps.length c) x W h)
  have HA := hide (lwT_all F s.data.toList)
  have hlen := lettL_len s.data.toList
  have hll : (lettL s.data.toList).length ≤ 60 := by
    have : s.data.toList.length = s.size := by simp
    omega
  have HSL := hide (lwL_len F s.data.toList)
  have HCAP := hide hcap
  generalize hcells : (gln F (.slice A F.ps.length c) s).toArray = cells at *
  generalize lettL s.data.toList = M at HL HA hll HCAP HSL
  generalize lwL F s.data.toList = R at *
  clear hv hG hr hcells hlen hs60 hcap
  generalize hfc : fc F (.slice A F.ps.length c) = fcs at *
  clear hfc
  go_enter Tryz.func326, Tryz.ntmps326
  go_wp2_with fail
  generalize (w.alloc (.cells cells 261)) = W0 at *
  refine (HL.out W0 HGW.out).mono ?_
  rintro e w1 ⟨rfl, hb1⟩
  have r1 := rangeAt_below r0 hb1 s0
  have hB1 := b0.trans (hb1.mono b0.size)
  have hz1' := hb1.size
  have hME : (⟨M.toArray⟩ : ByteArray).data.toList = M := rfl
  obtain ⟨W2, c2, hcv, hb2, hcells2, hlt2⟩ := bytes_new2 ⟨M.toArray⟩ w1
  have hMS : (⟨M.toArray⟩ : ByteArray).size = M.length := by simp [ByteArray.size]
  rw [hMS] at hcv
  rw [hME] at hcells2
  have HB := hide (hB1.trans (hb2.mono hB1.size))
  have HR := hide (rangeAt_below r1 hb2 (by omega))
  have HCE := hide hcells2
  have hsz := hb2.size
  have hsw := b0.size
  have hs2 : w.heap.size < W2.heap.size := by omega
  clear hcells2 r0 r1 hb1 hB1 hb2 b0 hME hMS HGW HL cs
  generalize hn : M.length = n at *
  have HN := hide hn
  clear hn
  go_wp2
  go_loopw [3, 11] (fun br i wr => ∃ k : Nat, k ≤ n ∧ i = .int .i64 k ∧ wr.ownsRow W2.heap.size 2 1 br k ((lwT F M k).map (.int .i64)) ∧ Below W2.heap.size W2 wr)
    (fun _ i _ => n - (intOf i).toNat)
  case atStart => exact ⟨0, Nat.zero_le _, rfl, World.ownsRow_nil _ _ _ _, Below.refl _ _⟩
  case round =>
    obtain ⟨k, hk, rfl, hown, hB⟩ := hrel
    obtain ⟨Ab, cbb, rfl, hcap, _⟩ := cellsIn_of_own hown (by omega)
    have hbs := hB.size
    have HOWN := hide hown
    clear hown hcv
    by_cases hlt : k < n
    · obtain ⟨b, hb⟩ : ∃ b, M[k]? = some b := ⟨M[k]'(by rw [HN.out]; exact hlt), List.getElem?_eq_getElem _⟩
      have hbx : byteAt M k = (b.toNat : Int) := by simp [byteAt, List.getD, hb]
      obtain ⟨h65, h90⟩ := HCAP.out b (List.mem_of_getElem? hb)
      have c0 : wr.cell? ⟨w1.heap.size, k, none⟩ = some (.int .u8 (b.toNat : Int)) := by
        rw [← hbx]; exact (hB.cell (p := ⟨w1.heap.size, k, none⟩) hlt2).trans (HCE.out k (by rw [HN.out]; exact hlt)).1
      have hcp : cap (b.toNat : Int) = true := cap_true.2 (by omega)
      have HI := hide (fun W => HWX.out (b.toNat : Int) W hcp)
      have hlw : F.W.getD ((b.toNat : Int) - 65).toNat 0 = lwd F b := by
        unfold lwd; congr 1; omega
      have rw0 := rangeAt_below HR.out hB hs2
      have HTS : Hid (lwT F M (k + 1) = lwT F M k ++ [lwd F b]) := hide (lwT_succ hb)
      rw [hlw] at HI
      generalize (b.toNat : Int) = x at c0 HI
      generalize lwd F b = y at HTS HI
      have hi : (k : Int) < n := by omega
      have hk0 : (0 : Int) ≤ k := by omega
      clear hb hbx h65 h90 hcp hlw
      go_wp2_with (refine wpList_load_mid rfl 28 (.tmp 16) rfl _ 0 rfl fcs _ rw0 Tryz.underlying28 rfl HI29.out ?_)
      refine (HI.out _).mono ?_
      rintro e w3 ⟨rfl, hb3⟩
      have hown3 := own_go HOWN.out hb3
      have hB3 := hB.trans (hb3.mono hbs)
      have hs3 := hB3.size
      clear hb3 HI c0 rw0
      go_wp2_with (at_builtin; refine wpList_append_own _ rfl (.tmp 15) (.tmp 20) 33 rfl W2.heap.size 2 i0 (.int .i64 0) 1 8 Tryz.underlying33 hi0 hz0 hz1 hz2 rfl (by decide) _ k _ rfl (hown3.alloc _) ⟨w3.heap.size, 0, none⟩ 1 1 [.int .i64 y] rfl rfl (one_cell _) (one_one rfl) ?h1 ?h2 ?h3 ?_)
      case h1 => unfold maxLen; omega
      case h2 => omega
      case h3 => first | omega | (simp; omega) | simp
      intro v' w4 hown4 hg4 _
      obtain ⟨A4, c4, rfl, _, _⟩ := cellsIn_of_own hown4 (by omega)
      have H4 := hide hown4
      have hg34 : w3.grownBy w4 _ := grown_trans (World.grownBy_alloc w3 _ _) hg4
      have hB4 := hB3.trans (grown_toBelow hg34 (by omega) (fun k hk => (hown3.lt k hk).1))
      clear hown4 hg4 hg34 hown3
      go_wp2
      refine ⟨⟨k + 1, by omega, by go_num, ?_, hB4⟩, by simp [intOf]; omega⟩
      rw [HTS.out, List.map_append]
      exact H4.out
    · obtain rfl : k = n := by omega
      obtain ⟨Ag, cg, e, _, hI⟩ := intsIn_of_own HOWN.out
      injection e with e1 e2 e3
      subst e1 e3
      have HI := hide hI
      clear hI
      go_wp2
      go_ret
      refine ⟨Ab, cbb, by rw [HSL.out]; rfl, by rw [HSL.out]; exact hcap, ?_, HB.out.trans (hB.mono (by omega))⟩
      rw [← HA.out]
      exact HI.out.wider (by omega)

/-! Pieces -/
def adT (o : Int) (R : List Int) (k : Nat) : List Int := (R.take k).map (fun x => x + o) ++ R.drop k
theorem adT_zero (o : Int) (R : List Int) : adT o R 0 = R := by simp [adT]
theorem adT_len (o : Int) (R : List Int) (k : Nat) : (adT o R k).length = R.length := by simp [adT]; omega
theorem adT_all (o : Int) (R : List Int) : adT o R R.length = R.map (fun x => x + o) := by simp [adT]
theorem adT_get {o : Int} {R : List Int} {k : Nat} {x : Int} (h : R[k]? = some x) : (adT o R k)[k]? = some x := by
  have hk := (List.getElem?_eq_some_iff.1 h).1
  unfold adT
  rw [List.getElem?_append_right (by simp; omega)]
  simp only [List.length_map, List.length_take, Nat.min_eq_left (Nat.le_of_lt hk), Nat.sub_self, List.getElem?_drop, Nat.add_zero]
  exact h
theorem adT_set {o : Int} {R : List Int} {k : Nat} {x : Int} (h : R[k]? = some x) : (adT o R k).set k (x + o) = adT o R (k + 1) := by
  obtain ⟨hk, e⟩ := List.getElem?_eq_some_iff.1 h
  unfold adT
  rw [List.set_append_right _ _ (by simp; omega)]
  simp only [List.length_map, List.length_take, Nat.min_eq_left (Nat.le_of_lt hk), Nat.sub_self]
  rw [List.drop_eq_getElem_cons hk, List.set_cons_zero, List.take_succ_eq_append_getElem hk, List.map_append, e]
  simp
end Go.Proofs.YtngondeaeipcfaaGreatDoor

namespace Go.Proofs.YtngondeaeipcfaaGreatDoor
open Go Go.RowKit

/-- Whether pieces can be told; their widths. -/
noncomputable def gpB (F : Fc) (L : List UInt8) (wd ov : Int) : Bool := vface F && vtext L && vsht wd ov
def pieL (F : Fc) (L : List UInt8) (ov : Int) : List Int := (lwL F L).map (fun x => x + 2 * ov)
noncomputable def gpC (F : Fc) (L : List UInt8) (wd ov : Int) : Int := if gpB F L wd ov = true then 0 else 1
noncomputable def gpR (F : Fc) (L : List UInt8) (wd ov : Int) : List Int := if gpB F L wd ov = true then pieL F L ov else []
theorem gp_no {F : Fc} {L : List UInt8} {wd ov : Int} (h : gpB F L wd ov = false) : gpC F L wd ov = 1 ∧ gpR F L wd ov = [] := by unfold gpC gpR; rw [h]; exact ⟨rfl, rfl⟩
theorem gp_ok {F : Fc} {L : List UInt8} {wd ov : Int} (h : gpB F L wd ov = true) : gpC F L wd ov = 0 ∧ gpR F L wd ov = pieL F L ov := by unfold gpC gpR; rw [h]; exact ⟨rfl, rfl⟩
theorem gp_parts {F : Fc} {L : List UInt8} {wd ov : Int} (h : gpB F L wd ov = true) : vface F = true ∧ vtext L = true ∧ (1 ≤ wd ∧ wd ≤ 400) ∧ 0 ≤ ov ∧ ov ≤ 5 := by
  unfold gpB at h
  simp only [Bool.and_eq_true] at h
  have := vsht_true.1 h.2
  exact ⟨h.1.1, h.1.2, this.1, this.2⟩
theorem pieL_len (F : Fc) (L : List UInt8) (ov : Int) : (pieL F L ov).length = (lwL F L).length := List.length_map _
theorem pieL_n {F : Fc} {L : List UInt8} {ov : Int} (ht : vtext L = true) : (pieL F L ov).length ≤ 60 := by rw [pieL_len]; exact lwL_n ht
theorem pieL_bd {F : Fc} (hF : F.ok) (h : vface F = true) {L : List UInt8} (ht : vtext L = true) {ov : Int} (ho : 0 ≤ ov ∧ ov ≤ 5) : ∀ x ∈ pieL F L ov, 1 ≤ x ∧ x ≤ 50 := fun x hx => by
  obtain ⟨y, hy, rfl⟩ := List.mem_map.1 hx
  have := lwL_bd hF h ht y hy
  omega
theorem gpR_len (F : Fc) (L : List UInt8) (wd ov : Int) : (gpR F L wd ov).length ≤ 1048577 := by
  cases h : gpB F L wd ov
  · rw [(gp_no h).2]; simp
  · rw [(gp_ok h).2]; have := pieL_n (F := F) (ov := ov) (gp_parts h).2.1; omega

set_option maxRecDepth 100000 in
set_option maxHeartbeats 8000000 in
theorem goldFor_gsh (F : Fc) (hF : F.ok) (A : Option Addr) (c : Nat) (s : ByteArray) (hs : s.size ≤ maxLen) (wd ov : Int) (hw : i16ok wd) (ho : i8ok ov) (w : World) (hG : Glob w) (hA : PairsAt w w.heap.size A F.ps) :
    Calls Tryz.prog 249 #[.iface 332 (.agg (gsh F (.slice A F.ps.length c) s wd ov).toArray)] w (IntsBack (gpR F s.data.toList wd ov) (gpC F s.data.toList wd ov) w) := by
  have HV := hide (sheetsValid_any F hF A c s hs wd ov hw ho w hA)
  have hm1 := fun w => meth_valid (.agg (gsh F (.slice A F.ps.length c) s wd ov).toArray) w
  have hm2 : ∀ w, (method 468 332 (.agg (gsh F (.slice A F.ps.length c) s wd ov).toArray) "loop.example/g01398/impl.letterWides").run Tryz.prog w = .ok (326, .agg (gln F (.slice A F.ps.length c) s).toArray) w := fun w => meth_wides' F.W hF.len F.sp F.gp F.ps _ s wd ov w
  have HO := hide (fun W => overOf_gsh F hF A c s wd ov ho W)
  change Hid (Calls _ _ _ _ fun e w' => e = .returned (.bool (gpB F s.data.toList wd ov)) ∧ Below w.heap.size w w') at HV
  cases hb : gpB F s.data.toList wd ov
  · obtain ⟨e1, e2⟩ := gp_no hb
    rw [e1, e2]
    rw [hb] at HV
    clear hA hG hw ho e1 e2 hb hs
    generalize (gsh F (.slice A F.ps.length c) s wd ov).toArray = cells at *
    go_enter Tryz.func249, Tryz.ntmps249
    go_wp2_with (go_at_call 343; refine HV.out.mono ?_; rintro e w1 ⟨rfl, hb1⟩)
    go_ret2
    exact ⟨none, 0, rfl, IntsIn.empty _ _ _, hb1⟩
  · obtain ⟨e1, e2⟩ := gp_ok hb
    obtain ⟨hv, ht, _, ho1, ho2⟩ := gp_parts hb
    rw [e1, e2]
    rw [hb] at HV
    have HLW := hide (fun W h => letterWides_any F hF A c s W ht h)
    have HG := hide hG
    have hn60 := lwL_n (F := F) ht
    have HBD := hide (lwL_bd hF hv ht)
    have HAA := hide (adT_all (2 * ov) (lwL F s.data.toList))
    have HAL := hide (adT_len (2 * ov) (lwL F s.data.toList))
    change Hid (_ = pieL F s.data.toList ov) at HAA
    have HPL := hide (pieL_len F s.data.toList ov)
    generalize pieL F s.data.toList ov = PP at *
    generalize lwL F s.data.toList = R at *
    clear hA hG hw ho e1 e2 hb hs hv ht
    generalize (gsh F (.slice A F.ps.length c) s wd ov).toArray = cells at *
    generalize (gln F (.slice A F.ps.length c) s).toArray = gcells at *
    obtain ⟨ad, had⟩ : ∃ ad, 2 * ov = ad := ⟨_, rfl⟩
    have hb1' : 0 ≤ ad ∧ ad ≤ 10 := by omega
    rw [had] at HO HAA HAL
    obtain ⟨ad1, ad2⟩ := hb1'
    clear had ho1 ho2
    obtain ⟨n, hN⟩ : ∃ n, R.length = n := ⟨_, rfl⟩
    have HN := hide hN
    rw [hN] at hn60 HAA HAL HPL
    unfold IntsB at HLW
    rw [hN] at HLW
    clear hN
    go_enter Tryz.func249, Tryz.ntmps249
    go_wp2_with (first | (go_at_call 343; refine HV.out.mono ?_; rintro e w1 ⟨rfl, hb1⟩) | (go_at_call 326; refine (HLW.out _ (HG.out.below hb1)).mono ?_; rintro e w2 ⟨A2, c2, rfl, hc2, hI2, hb2⟩) | (go_at_call 275; refine (HO.out _).mono ?_; rintro e w3 ⟨rfl, hb3⟩))
    have hI3 := hI2.go hb3
    have hB3 := hb1.trans ((hb2.trans (hb3.mono hb2.size)).mono hb1.size)
    clear hI2 hb2 hb3
    go_loopw [16] (fun i wr => ∃ k : Nat, k ≤ n ∧ i = .int .i64 k ∧ IntsIn wr w1.heap.size A2 (adT ad R k) ∧ Below w.heap.size w wr) (fun i _ => n - (intOf i).toNat)
    case atStart => exact ⟨0, Nat.zero_le _, rfl, by rw [adT_zero]; exact hI3, hB3⟩
    case round =>
      clear hI3 hB3
      obtain ⟨k, hk, rfl, hI, hB⟩ := hrel
      have hal := HAL.out k
      by_cases hlt : k < n
      · obtain ⟨b, o, rfl, hbl, hbl2, hxs, hth⟩ := hI (by intro e; rw [e] at hal; simp at hal; omega)
        obtain ⟨x, hx⟩ : ∃ x, R[k]? = some x := ⟨R[k]'(by rw [HN.out]; exact hlt), List.getElem?_eq_getElem _⟩
        obtain ⟨x1, x2⟩ := HBD.out x (List.mem_of_getElem? hx)
        have c0 := hxs k x (adT_get hx)
        have f0 := (hth k (by rw [hal]; exact hlt)).2
        have hi : (k : Int) < n := by omega
        have h0 : (0 : Int) ≤ k := by omega
        have HS := hide (adT_set (o := ad) hx)
        have hI4 := hI.put rfl (i := k) (by rw [hal]; exact hlt) (x + ad)
        rw [HS.out] at hI4
        have HI4 := hide hI4
        have hw1 := hb1.size
        clear hI hI4 hxs hth hx hal
        go_wp2
        exact ⟨⟨k + 1, by omega, by go_num, HI4.out, hB.setCell (p := ⟨b, o + k, none⟩) (by show w.heap.size ≤ b; omega) _⟩, by simp [intOf]; omega⟩
      · obtain rfl : k = n := by omega
        rw [HAA.out] at hI
        have HI := hide hI
        clear hI hal
        go_wp2
        go_ret2
        exact ⟨A2, c2, by rw [HPL.out]; rfl, HI.out.wider hb1.size, hB⟩

end Go.Proofs.YtngondeaeipcfaaGreatDoor
