/- LineWide of the model. -/
import Derived.Test.YtikndeloeeppaaaLineP
import Derived.Test.YtikndeloeeppaaaSpecWide
import Derived.Test.YtikndeloeeppaaaWordsOf
namespace Go.Proofs.Ytikndeloeeppaaa
open Go Go.RowKit

theorem bas_get {ws : List (List UInt8)} {k : Nat} (hk : k < ws.length) : (bas ws)[k]? = some ⟨(ws.getD k []).toArray⟩ := by
  rw [List.getElem?_map, List.getD_eq_getElem?_getD, List.getElem?_eq_getElem hk]; rfl

theorem lineTo_succ (F : Fc) (ws : List (List UInt8)) (k : Nat) : lineTo F ws (k + 1) = lineTo F ws k + wideL F (ws.getD k []) + (if k = 0 then 0 else F.sp) := rfl

set_option maxRecDepth 100000 in
set_option maxHeartbeats 4000000 in
theorem l01Line_any (F : Fc) (hF : F.ok) (b : Nat) (A : Option Addr) (c : Nat) (ws : List (List UInt8)) (A2 : Option Addr) (c2 : Nat) (w : World) (hv : vface F = true) (hw : ∀ x ∈ ws, x.length ≤ 60 ∧ allCap x) (hn : ws.length ≤ 61)
    (hr : w.rangeAt b 0 (fc F (.slice A F.ps.length c))) (hb : b < w.heap.size) (hA : PairsAt w w.heap.size A F.ps) (hS : StrsAt w w.heap.size A2 (bas ws)) :
    Calls Try.prog 104 #[.pointer (some ⟨b, 0, none⟩), .slice A2 ws.length c2] w fun e w' => e = .returned (.int .i64 (lineL F ws)) ∧ Below w.heap.size w w' := by
  have hW := hide hF.len
  have x26 := rangeAt_cell hr (fc_sp hW.out _)
  have HBD := hide (fun k hk => lineTo_bd hF hv hw k hk)
  obtain ⟨sp1, sp2⟩ := sp_bd hv
  have HWB := hide (fun (k : Nat) (hk : k < ws.length) => wideL_bd hF hv (hw _ (getD_mem hk)).2 (hw _ (getD_mem hk)).1)
  have HL1 := hide (fun (k : Nat) (hk : k < ws.length) (W : World) (hB : Below w.heap.size w W) => l01Wide_any F hF b A c ⟨(ws.getD k []).toArray⟩ W hv (hw _ (getD_mem hk)).2 (by simpa [ByteArray.size] using (hw _ (getD_mem hk)).1) (rangeAt_below hr hB hb) ((hA.below hB).mono hB.size))
  have HLL := hide (show lineL F ws = lineTo F ws ws.length from rfl)
  have HBG := hide (fun (k : Nat) (hk : k < ws.length) => bas_get hk)
  generalize hL : ws.length = n at *
  clear hA hw hL
  go_enter Try.func104, Try.ntmps104
  go_wp2
  go_loopw [5, 6] (fun t i wr => ∃ k : Nat, k ≤ n ∧ i = .int .i64 k ∧ t = .int .i64 (lineTo F ws k) ∧ Below w.heap.size w wr)
    (fun _ i _ => n - (intOf i).toNat)
  case atStart => exact ⟨0, by omega, rfl, rfl, Below.refl _ _⟩
  case round =>
    obtain ⟨k, hk, rfl, rfl, hB⟩ := hrel
    by_cases hlt : k < n
    · have hi : (k : Int) < n := by omega
      have h0 : (0 : Int) ≤ k := by omega
      have hne : bas ws ≠ [] := by intro e; have := HBG.out k hlt; rw [e] at this; cases this
      obtain ⟨b2, o2, rfl, hb2, hps⟩ := hS hne
      have cw : wr.cell? ⟨b2, o2 + k, none⟩ = some (.string ⟨(ws.getD k []).toArray⟩) := (hB.cell (p := ⟨b2, o2 + k, none⟩) hb2).trans (hps k _ (HBG.out k hlt))
      have cs : wr.cell? ⟨b, 0 + 26, none⟩ = some (.int .i8 F.sp) := (hB.cell (p := ⟨b, 0 + 26, none⟩) hb).trans x26
      obtain ⟨l1, l2⟩ := HWB.out k hlt
      obtain ⟨t1, t2⟩ := HBD.out k (by omega)
      have e2 := IntWalk.i64_in (lineTo F ws k + wideL F (ws.getD k [])) ⟨by omega, by omega⟩
      have e3 := IntWalk.i64_in (lineTo F ws k + wideL F (ws.getD k []) + F.sp) ⟨by omega, by omega⟩
      have e4 := IntWalk.i64_in F.sp ⟨by omega, by omega⟩
      have HW1 := hide (HL1.out k hlt wr hB)
      clear hps hne
      have hst := lineTo_succ F ws k
      generalize ws.getD k [] = x at cw l1 l2 e2 e3 HW1 hst
      by_cases hk0 : k = 0
      · have hd : decide ((0 : Int) < k) = false := by simp; omega
        have hd' : decide (0 < k) = false := by simp; omega
        rw [if_pos hk0, Int.add_zero] at hst
        have HT := hide hst
        clear hst hk0 l1 l2 t1 t2 e3 e4
        go_wp2_with (go_at_call 100; refine HW1.out.mono ?_; rintro e w1 ⟨rfl, hb1⟩)
        exact ⟨⟨k + 1, by omega, by go_num, by rw [HT.out], hB.trans (hb1.mono hB.size)⟩, by simp [intOf]; omega⟩
      · have hd : decide ((0 : Int) < k) = true := by simp; omega
        have hd' : decide (0 < k) = true := by simp; omega
        rw [if_neg hk0] at hst
        have HT := hide hst
        have hbs := hB.size
        clear hst hk0 l1 l2 t1 t2
        go_wp2_with (go_at_call 100; refine HW1.out.mono ?_; rintro e w1 ⟨rfl, hb1⟩; have cs1 := (hb1.cell (p := ⟨b, 0 + 26, none⟩) (Nat.lt_of_lt_of_le hb hbs)).trans cs; simp only [Nat.zero_add] at cs1)
        exact ⟨⟨k + 1, by omega, by go_num, by rw [HT.out], hB.trans (hb1.mono hB.size)⟩, by simp [intOf]; omega⟩
    · obtain rfl : k = n := by omega
      have hz := HLL.out
      have HZ := hide hz.symm
      clear hz
      go_wp2
      go_ret
      exact ⟨ret_int HZ.out, hB⟩

noncomputable def askC (F : Fc) (L : List UInt8) (fine : Bool) : Int := if vface F = true ∧ vtext L = true then (if fine = true then 0 else 2) else 1
theorem ask_no {F : Fc} {L : List UInt8} {fine : Bool} (h : ¬ (vface F = true ∧ vtext L = true)) : askC F L fine = 1 := by unfold askC; rw [if_neg h]
theorem ask_ok {F : Fc} {L : List UInt8} {fine : Bool} (h1 : vface F = true) (h2 : vtext L = true) : askC F L fine = if fine = true then 0 else 2 := by unfold askC; rw [if_pos ⟨h1, h2⟩]

set_option maxRecDepth 100000 in
set_option maxHeartbeats 4000000 in
theorem l01Asked_any (F : Fc) (hF : F.ok) (b : Nat) (A : Option Addr) (c : Nat) (s : ByteArray) (fine : Bool) (w : World) (hs : s.size ≤ maxLen) (hr : w.rangeAt b 0 (fc F (.slice A F.ps.length c))) (hA : PairsAt w w.heap.size A F.ps) :
    Calls Try.prog 95 #[.pointer (some ⟨b, 0, none⟩), .string s, .bool fine] w fun e w' => e = .returned (.int .i64 (askC F s.data.toList fine)) ∧ Below w.heap.size w w' := by
  have HC := hide (l01Face_any F hF _ A c _ hr hA)
  have HT := hide (fun w => l01Text_any s w hs)
  generalize hR : askC F s.data.toList fine = R
  have HR := hide hR
  clear hR hA hr
  cases hv : vface F
  · have HP := hide (ask_no (F := F) (L := s.data.toList) (fine := fine) (fun e => by rw [hv] at e; cases e.1))
    go_enter Try.func95, Try.ntmps95
    go_wp2_with (go_at_call 81; refine HC.out.mono ?_; rintro e w1 ⟨rfl, hb1⟩; simp only [hv])
    go_ret
    exact ⟨ret_int (HP.out.symm.trans HR.out), hb1⟩
  · cases ht : vtext s.data.toList
    · have HP := hide (ask_no (F := F) (L := s.data.toList) (fine := fine) (fun e => by rw [ht] at e; cases e.2))
      go_enter Try.func95, Try.ntmps95
      go_wp2_with (first | (go_at_call 81; refine HC.out.mono ?_; rintro e w1 ⟨rfl, hb1⟩; simp only [hv]) | (go_at_call 119; refine (HT.out _).mono ?_; rintro e w' ⟨rfl, rfl⟩; simp only [ht]))
      go_ret
      exact ⟨ret_int (HP.out.symm.trans HR.out), hb1⟩
    · have HP := hide (ask_ok (fine := fine) hv ht)
      cases fine
      · go_enter Try.func95, Try.ntmps95
        go_wp2_with (first | (go_at_call 81; refine HC.out.mono ?_; rintro e w1 ⟨rfl, hb1⟩; simp only [hv]) | (go_at_call 119; refine (HT.out _).mono ?_; rintro e w' ⟨rfl, rfl⟩; simp only [ht]))
        go_ret
        exact ⟨ret_int (HP.out.symm.trans HR.out), hb1⟩
      · go_enter Try.func95, Try.ntmps95
        go_wp2_with (first | (go_at_call 81; refine HC.out.mono ?_; rintro e w1 ⟨rfl, hb1⟩; simp only [hv]) | (go_at_call 119; refine (HT.out _).mono ?_; rintro e w' ⟨rfl, rfl⟩; simp only [ht]))
        go_ret
        exact ⟨ret_int (HP.out.symm.trans HR.out), hb1⟩

noncomputable def lnV (F : Fc) (L : List UInt8) : Int := if vface F = true ∧ vtext L = true then lineL F (wordsL L) else 0
noncomputable def lnC (F : Fc) (L : List UInt8) : Int := if vface F = true ∧ vtext L = true then 0 else 1
theorem ln_no {F : Fc} {L : List UInt8} (h : ¬ (vface F = true ∧ vtext L = true)) : lnV F L = 0 ∧ lnC F L = 1 ∧ askC F L true = 1 := by unfold lnV lnC askC; rw [if_neg h, if_neg h, if_neg h]; exact ⟨rfl, rfl, rfl⟩
theorem ln_ok {F : Fc} {L : List UInt8} (h1 : vface F = true) (h2 : vtext L = true) : lnV F L = lineL F (wordsL L) ∧ lnC F L = 0 ∧ askC F L true = 0 := by
  unfold lnV lnC askC; rw [if_pos ⟨h1, h2⟩, if_pos ⟨h1, h2⟩, if_pos ⟨h1, h2⟩]; exact ⟨rfl, rfl, rfl⟩

end Go.Proofs.Ytikndeloeeppaaa
