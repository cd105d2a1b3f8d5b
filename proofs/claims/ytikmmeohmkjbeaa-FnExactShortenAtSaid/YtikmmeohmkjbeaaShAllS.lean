/- ShortenAll: the model's. -/
import Derived.Test.YtikmmeohmkjbeaaShAllW
namespace Go.Proofs.Ytikmmeohmkjbeaa
open Go Go.RowKit Go.Shelf Go.Sort Go.Maps

set_option maxHeartbeats 1000000 in
theorem l02Asked_any (s : ByteArray) (hs : s.size ≤ maxLen) (S : Option Addr) (ss : List Sh) (cs : Nat) (hsn : ss.length ≤ maxLen) (hsx : ∀ x ∈ ss, x.1.size ≤ maxLen ∧ x.2.size ≤ maxLen) (w : World) (hS : ShsAt w w.heap.size S ss) :
    Calls Try.prog 109 #[.string s, .slice S ss.length cs] w fun e w' => e = .returned (.int .i64 (tsC s.data.toList ss)) ∧ Below w.heap.size w w' := by
  have HT := hide (l01Text_any s w hs)
  have HV := hide (fun W (h : Below w.heap.size w W) => specShorts_any S ss cs hsn hsx W (hS.go h))
  have HC : Hid (tsC s.data.toList ss = if (vtext s.data.toList && vshorts ss) = true then 0 else 1) := hide rfl
  generalize tsC s.data.toList ss = C at *
  generalize vtext s.data.toList = T at *
  generalize vshorts ss = V at *
  clear hS hsn hsx
  generalize ss.length = n at *
  cases T
  · go_enter Try.func109, Try.ntmps109
    go_wp2_with (go_at_call 76; refine HT.out.mono ?_; rintro e w1 ⟨rfl, rfl⟩)
    go_ret
    exact ⟨ret_int HC.out.symm, Below.refl _ _⟩
  · cases V
    · go_enter Try.func109, Try.ntmps109
      go_wp2_with fail
      refine HT.out.mono ?_
      rintro e w1 ⟨rfl, rfl⟩
      go_wp2_with (go_at_call 105; refine (HV.out _ (Below.refl _ _)).mono ?_; rintro e w2 ⟨rfl, hb2⟩)
      go_ret
      exact ⟨ret_int HC.out.symm, hb2⟩
    · go_enter Try.func109, Try.ntmps109
      go_wp2_with fail
      refine HT.out.mono ?_
      rintro e w1 ⟨rfl, rfl⟩
      go_wp2_with (go_at_call 105; refine (HV.out _ (Below.refl _ _)).mono ?_; rintro e w2 ⟨rfl, hb2⟩)
      go_ret
      exact ⟨ret_int HC.out.symm, hb2⟩

set_option maxRecDepth 100000 in
set_option maxHeartbeats 4000000 in
theorem specShortenAll_any (s : ByteArray) (hs : s.size ≤ maxLen) (S : Option Addr) (ss : List Sh) (cs : Nat) (hsn : ss.length ≤ maxLen) (hsx : ∀ x ∈ ss, x.1.size ≤ maxLen ∧ x.2.size ≤ maxLen) (w : World) (hS : ShsAt w w.heap.size S ss) :
    Calls Try.prog 49 #[.string s, .slice S ss.length cs] w fun e w' => e = .returned (.tuple #[.string (saT s.data.toList ss), .int .i64 (saN s.data.toList ss), .int .i64 (tsC s.data.toList ss)]) ∧ Below w.heap.size w w' := by
  have HA := hide (l02Asked_any s hs S ss cs hsn hsx w hS)
  cases hok : okTS s.data.toList ss
  · obtain ⟨e1, e2, e3⟩ := sa_no hok
    rw [e3] at HA
    rw [e1, e2, e3]
    clear e1 e2 e3 hS hsn hsx hok
    generalize ss.length = n at *
    go_enter Try.func49, Try.ntmps49
    go_wp2_with (go_at_call 109; refine HA.out.mono ?_; rintro e w1 ⟨rfl, hb1⟩)
    go_ret3
    exact ⟨rfl, hb1⟩
  · obtain ⟨ht, hv⟩ := okTS_true.1 hok
    obtain ⟨e1, e2, e3⟩ := sa_ok hok
    rw [e3] at HA
    rw [e1, e2, e3]
    have hs60 : s.size ≤ 1048576 := by have := (vtext_true.1 ht).1; simp at this; omega
    have HC := hide (fun W => l01Words_any s W hs60)
    have hsm := small_words ht
    have hwl := words_len ht
    have hbl : (bas (wordsL s.data.toList)).length = (wordsL s.data.toList).length := List.length_map _
    rw [← hbl] at hwl
    generalize bas (wordsL s.data.toList) = xs at *
    have hcl := canL_len ss xs
    have HSB := hide (fun A2 c2 W (h : Below w.heap.size w W) (hX : StrsAt W W.heap.size A2 xs) => l02Which_any A2 xs c2 S ss cs W hsn (by omega) hX (hS.go h))
    have hidx := canL_idx ss xs
    have HSH := hide (fun A2 c2 B cb W (h : Below w.heap.size w W) (hX : StrsAt W W.heap.size A2 xs) (hB : IntsAt W W.heap.size B (canL ss xs)) =>
      l02At_any A2 xs c2 S ss cs B (canL ss xs) cb W hsn (by omega) (by unfold maxLen; omega) hidx hX (hS.go h) hB)
    have HJ := hide (fun A c W h => joinedB_any A (rpAll ss xs) c W (small_rp hsm hv _) (by unfold rpAll; rw [rp_len]; exact hwl) h)
    have hrl : (rpAll ss xs).length = xs.length := rp_len _ _ _ _
    have HRL := hide hrl
    change Hid (∀ A2 c2 B cb W, _ → _ → _ → Calls Try.prog 112 _ W (StrsBk (rpAll ss xs) W)) at HSH
    unfold StrsBk at HSH
    unfold IntsBk at HSB
    clear e1 e2 e3 ht hS hsn hsx hv hsm hidx hbl hrl hok
    generalize rpAll ss xs = RR at *
    generalize canL ss xs = CC at *
    obtain ⟨m, hm⟩ : ∃ m, CC.length = m := ⟨_, rfl⟩
    rw [hm] at hcl HSB HSH ⊢
    rw [HRL.out] at HJ HSH
    generalize xs.length = n at *
    generalize ss.length = r at *
    have HM := hide hm
    clear hm
    go_enter Try.func49, Try.ntmps49
    go_wp2_with fail
    refine HA.out.mono ?_
    rintro e w1 ⟨rfl, hb1⟩
    go_wp2_with fail
    refine (HC.out _).mono ?_
    rintro e w4 ⟨A, c, rfl, hP, hb4⟩
    have hB4 := hb1.trans (hb4.mono hb1.size)
    have hX4 := hide hP.at_
    clear hP hb1 hb4
    go_wp2_with fail
    refine (HSB.out _ _ _ hB4 hX4.out).mono ?_
    rintro e w5 ⟨A5, c5, rfl, hc5, hI, hb5⟩
    have hB5 := hB4.trans (hb5.mono hB4.size)
    have hI5 := hide hI.at_
    have hX5 := hide (hX4.out.go hb5)
    clear hI hb5
    go_wp2_with fail
    refine (HSH.out _ _ _ _ _ hB5 hX5.out hI5.out).mono ?_
    rintro e w6 ⟨A6, c6, rfl, hc6, hP6, hb6⟩
    have hB6 := hB5.trans (hb6.mono hB5.size)
    have hX6 := hide hP6.at_
    clear hP6 hb6
    go_wp2_with fail
    refine (HJ.out _ _ _ hX6.out).mono ?_
    rintro e w7 ⟨rfl, hb7⟩
    go_wp2
    go_ret3
    exact ⟨rfl, hB6.trans (hb7.mono hB6.size)⟩
end Go.Proofs.Ytikmmeohmkjbeaa
