/- CutAgain, of both. -/
import Derived.Test.YtnanminbnfgcfaaDoorLcK
namespace Go.Proofs.YtnanminbnfgcfaaDoor
open Go Go.RowKit

theorem vt60 {s : ByteArray} (h : vtext s.data.toList = true) : s.size ≤ 60 := by have := (vtext_true.1 h).1; simpa using this

set_option maxRecDepth 100000 in
set_option maxHeartbeats 4000000 in
theorem specCutAgain_any (s : ByteArray) (hs : s.size ≤ maxLen) (s2 : ByteArray) (hs2 : s2.size ≤ maxLen) (w : World) :
    Calls Tryd.prog 17 #[.string s, .string s2] w fun e w' => e = .returned (.tuple #[.int .i64 (caV s.data.toList s2.data.toList), .int .i64 (caC s.data.toList s2.data.toList)]) ∧ Below w.heap.size w w' := by
  have HT1 := hide (fun W => l01Text_any s W hs)
  have HT2 := hide (fun W => l01Text_any s2 W hs2)
  have HCB := hide (show caB s.data.toList s2.data.toList = (vtext s.data.toList && vtext s2.data.toList) from rfl)
  cases h1 : vtext s.data.toList
  · obtain ⟨e1, e2⟩ := ca_no (L := s.data.toList) (M := s2.data.toList) (by rw [HCB.out, h1]; rfl)
    rw [e1, e2]
    rw [h1] at HT1
    go_enter Tryd.func17, Tryd.ntmps17
    go_wp2_with fail
    refine (HT1.out _).mono ?_
    rintro e w1 ⟨rfl, rfl⟩
    go_wp2
    go_ret2
    exact ⟨rfl, Below.refl _ _⟩
  · rw [h1] at HT1
    cases h2 : vtext s2.data.toList
    · obtain ⟨e1, e2⟩ := ca_no (L := s.data.toList) (M := s2.data.toList) (by rw [HCB.out, h1, h2]; rfl)
      rw [e1, e2]
      rw [h2] at HT2
      go_enter Tryd.func17, Tryd.ntmps17
      go_wp2_with fail
      refine (HT1.out _).mono ?_
      rintro e w1 ⟨rfl, rfl⟩
      go_wp2_with fail
      refine (HT2.out _).mono ?_
      rintro e w1 ⟨rfl, rfl⟩
      go_wp2
      go_ret2
      exact ⟨rfl, Below.refl _ _⟩
    · obtain ⟨e1, e2⟩ := ca_ok (L := s.data.toList) (M := s2.data.toList) (by rw [HCB.out, h1, h2]; rfl)
      rw [e1, e2]
      rw [h2] at HT2
      have HC := hide (fun W => l04Cut_any s s2 (vt60 h1) (vt60 h2) W)
      clear h1 h2 e1 e2
      go_enter Tryd.func17, Tryd.ntmps17
      go_wp2_with fail
      refine (HT1.out _).mono ?_
      rintro e w1 ⟨rfl, rfl⟩
      go_wp2_with fail
      refine (HT2.out _).mono ?_
      rintro e w1 ⟨rfl, rfl⟩
      go_wp2_with (go_at_call 43; refine (HC.out _).mono ?_; rintro e w3 ⟨rfl, hb3⟩)
      go_ret2
      exact ⟨rfl, hb3⟩

set_option maxRecDepth 100000 in
set_option maxHeartbeats 4000000 in
theorem implCutAgain_any (s : ByteArray) (hs : s.size ≤ maxLen) (s2 : ByteArray) (hs2 : s2.size ≤ maxLen) (w : World) (hG : Glob w) :
    Calls Tryd.prog 18 #[.string s, .string s2] w fun e w' => e = .returned (.tuple #[.int .i64 (caV s.data.toList s2.data.toList), .int .i64 (caC s.data.toList s2.data.toList)]) ∧ Below w.heap.size w w' := by
  have HT1 := hide (fun W => implValidText_any s W hs)
  have HT2 := hide (fun W => implValidText_any s2 W hs2)
  have HG := hide hG
  have HCB := hide (show caB s.data.toList s2.data.toList = (vtext s.data.toList && vtext s2.data.toList) from rfl)
  clear hG
  cases h1 : vtext s.data.toList
  · obtain ⟨e1, e2⟩ := ca_no (L := s.data.toList) (M := s2.data.toList) (by rw [HCB.out, h1]; rfl)
    rw [e1, e2]
    rw [h1] at HT1
    go_enter Tryd.func18, Tryd.ntmps18
    go_wp2_with fail
    refine (HT1.out _).mono ?_
    rintro e w1 ⟨rfl, hb1⟩
    go_wp2
    go_ret2
    exact ⟨rfl, hb1⟩
  · rw [h1] at HT1
    cases h2 : vtext s2.data.toList
    · obtain ⟨e1, e2⟩ := ca_no (L := s.data.toList) (M := s2.data.toList) (by rw [HCB.out, h1, h2]; rfl)
      rw [e1, e2]
      rw [h2] at HT2
      go_enter Tryd.func18, Tryd.ntmps18
      go_wp2_with fail
      refine (HT1.out _).mono ?_
      rintro e w1 ⟨rfl, hb1⟩
      go_wp2_with fail
      refine (HT2.out _).mono ?_
      rintro e w2 ⟨rfl, hb2⟩
      go_wp2
      go_ret2
      exact ⟨rfl, hb1.trans (hb2.mono hb1.size)⟩
    · obtain ⟨e1, e2⟩ := ca_ok (L := s.data.toList) (M := s2.data.toList) (by rw [HCB.out, h1, h2]; rfl)
      rw [e1, e2]
      rw [h2] at HT2
      have HC := hide (fun W hW => toCut_any s s2 (vt60 h1) (vt60 h2) W hW)
      clear h1 h2 e1 e2
      go_enter Tryd.func18, Tryd.ntmps18
      go_wp2_with fail
      refine (HT1.out _).mono ?_
      rintro e w1 ⟨rfl, hb1⟩
      go_wp2_with fail
      refine (HT2.out _).mono ?_
      rintro e w2 ⟨rfl, hb2⟩
      have hB2 := hb1.trans (hb2.mono hb1.size)
      go_wp2_with (go_at_call 44; refine (HC.out _ (HG.out.below hB2)).mono ?_; rintro e w3 ⟨rfl, hb3⟩)
      go_ret2
      exact ⟨rfl, hB2.trans (hb3.mono hB2.size)⟩
end Go.Proofs.YtnanminbnfgcfaaDoor
