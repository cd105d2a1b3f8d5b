/- A face and two lines: what is asked of them. -/
import Derived.Test.YtngondeaeipcfaaDoorKpI
import Derived.Test.YtngondeaeipcfaaDoorLaP
namespace Go.Proofs.YtngondeaeipcfaaDoor
open Go Go.RowKit

noncomputable def ktB (F : Fc) (L M : List UInt8) : Bool := vface F && (vtext L && vtext M)
theorem kt_parts {F : Fc} {L M : List UInt8} (h : ktB F L M = true) : vface F = true ∧ vtext L = true ∧ vtext M = true := by
  unfold ktB at h; simp only [Bool.and_eq_true] at h; exact ⟨h.1, h.2.1, h.2.2⟩

set_option maxRecDepth 100000 in
set_option maxHeartbeats 4000000 in
theorem l06Lines_any (F : Fc) (hF : F.ok) (b : Nat) (A : Option Addr) (c : Nat) (s t : ByteArray) (hs : s.size ≤ maxLen) (ht : t.size ≤ maxLen) (fine : Bool) (w : World)
    (hr : w.rangeAt b 0 (fc F (.slice A F.ps.length c))) (hA : PairsAt w w.heap.size A F.ps) :
    Calls Tryd.prog 115 #[.pointer (some ⟨b, 0, none⟩), .string s, .string t, .bool fine] w fun e w' => e = .returned (.int .i64 (if ktB F s.data.toList t.data.toList = true then (if fine = true then 0 else 2) else 1)) ∧ Below w.heap.size w w' := by
  have HF := hide (l01Face_any F hF b A c w hr hA)
  have HS := hide (fun W => l01Text_any s W hs)
  have HT := hide (fun W => l01Text_any t W ht)
  have HG := hide (show ktB F s.data.toList t.data.toList = (vface F && (vtext s.data.toList && vtext t.data.toList)) from rfl)
  unfold maxLen at hs ht
  obtain ⟨C, hC⟩ : ∃ C : Int, (if ktB F s.data.toList t.data.toList = true then (if fine = true then 0 else 2) else 1) = C := ⟨_, rfl⟩
  have HC := hide hC
  rw [hC]
  clear hr hA hC
  cases h1 : vface F
  · rw [h1] at HF
    have HE : Hid (C = 1) := hide (by rw [← HC.out, HG.out, h1]; rfl)
    go_enter Tryd.func115, Tryd.ntmps115
    go_wp2_with (go_at_call 79; refine HF.out.mono ?_; rintro e w1 ⟨rfl, hb1⟩)
    go_ret
    exact ⟨ret_int HE.out.symm, hb1⟩
  rw [h1] at HF
  cases h2 : vtext s.data.toList
  · rw [h2] at HS
    have HE : Hid (C = 1) := hide (by rw [← HC.out, HG.out, h1, h2]; rfl)
    go_enter Tryd.func115, Tryd.ntmps115
    go_wp2_with fail
    refine HF.out.mono ?_
    rintro e w1 ⟨rfl, hb1⟩
    go_wp2_with (go_at_call 157; refine (HS.out _).mono ?_; rintro e w2 ⟨rfl, rfl⟩)
    go_ret
    exact ⟨ret_int HE.out.symm, hb1⟩
  rw [h2] at HS
  cases h3 : vtext t.data.toList
  · rw [h3] at HT
    have HE : Hid (C = 1) := hide (by rw [← HC.out, HG.out, h1, h2, h3]; rfl)
    go_enter Tryd.func115, Tryd.ntmps115
    go_wp2_with fail
    refine HF.out.mono ?_
    rintro e w1 ⟨rfl, hb1⟩
    go_wp2_with fail
    refine (HS.out _).mono ?_
    rintro e w2 ⟨rfl, rfl⟩
    go_wp2_with fail
    refine (HT.out _).mono ?_
    rintro e w2 ⟨rfl, rfl⟩
    go_wp2
    go_ret
    exact ⟨ret_int HE.out.symm, hb1⟩
  rw [h3] at HT
  cases fine
  · have HE : Hid (C = 2) := hide (by rw [← HC.out, HG.out, h1, h2, h3]; rfl)
    go_enter Tryd.func115, Tryd.ntmps115
    go_wp2_with fail
    refine HF.out.mono ?_
    rintro e w1 ⟨rfl, hb1⟩
    go_wp2_with fail
    refine (HS.out _).mono ?_
    rintro e w2 ⟨rfl, rfl⟩
    go_wp2_with fail
    refine (HT.out _).mono ?_
    rintro e w2 ⟨rfl, rfl⟩
    go_wp2
    go_ret
    exact ⟨ret_int HE.out.symm, hb1⟩
  · have HE : Hid (C = 0) := hide (by rw [← HC.out, HG.out, h1, h2, h3]; rfl)
    go_enter Tryd.func115, Tryd.ntmps115
    go_wp2_with fail
    refine HF.out.mono ?_
    rintro e w1 ⟨rfl, hb1⟩
    go_wp2_with fail
    refine (HS.out _).mono ?_
    rintro e w2 ⟨rfl, rfl⟩
    go_wp2_with fail
    refine (HT.out _).mono ?_
    rintro e w2 ⟨rfl, rfl⟩
    go_wp2
    go_ret
    exact ⟨ret_int HE.out.symm, hb1⟩

end Go.Proofs.YtngondeaeipcfaaDoor
