/- ShortenAll: the program's, and the model's. -/
import Derived.Test.YtikmmeohmkjbeaaShorten
namespace Go.Proofs.Ytikmmeohmkjbeaa
open Go Go.RowKit Go.Shelf Go.Sort Go.Maps

def TJ (xs : List ByteArray) : ByteArray := ⟨(J (xs.map byts)).toArray⟩
def small (xs : List ByteArray) : Prop := ∀ x ∈ xs, x.size ≤ 60
theorem joinB_any (A : Option Addr) (xs : List ByteArray) (c : Nat) (w : World) (hw : small xs) (hn : xs.length ≤ 61) (hc : xs.length ≤ c) (hA : StrsAt w w.heap.size A xs) :
    Calls Try.prog 83 #[.slice A xs.length c, .string ⟨#[32]⟩] w fun e w' => e = .returned (.string (TJ xs)) ∧ Below w.heap.size w w' := by
  have h := joinW_any A (xs.map byts) c w (fun y hy => by
    obtain ⟨x, hx, rfl⟩ := List.mem_map.1 hy
    rw [byts_len]; exact hw x hx) (by rw [List.length_map]; exact hn) (by rw [List.length_map]; exact hc) (by rw [bas_of]; exact hA)
  rw [List.length_map] at h
  exact h
theorem joinedB_any (A : Option Addr) (xs : List ByteArray) (c : Nat) (w : World) (hw : small xs) (hn : xs.length ≤ 61) (hA : StrsAt w w.heap.size A xs) :
    Calls Try.prog 79 #[.slice A xs.length c] w fun e w' => e = .returned (.string (TJ xs)) ∧ Below w.heap.size w w' := by
  have h1 : sumL (xs.map byts) ≤ 60 * xs.length := by
    have := sumL_bd (xs.map byts) (fun y hy => by
      obtain ⟨x, hx, rfl⟩ := List.mem_map.1 hy
      rw [byts_len]; exact hw x hx)
    rwa [List.length_map] at this
  refine (l01Joined_any A xs c w (by omega) (by omega) hA).mono ?_
  rintro e w1 ⟨rfl, rfl⟩
  exact ⟨rfl, Below.refl _ _⟩
theorem small_words {L : List UInt8} (h : vtext L = true) : small (bas (wordsL L)) := fun x hx => by
  obtain ⟨y, hy, rfl⟩ := List.mem_map.1 hx
  have := (words_mem h hy).1
  show (List.toArray y).size ≤ 60
  simpa using this
theorem small_rp {ps : List Sh} {xs : List ByteArray} {bs : List Int} (hx : small xs) (hv : vshorts ps = true) (k : Nat) : small (rp ps xs bs k) :=
  rp_mem (P := fun x => x.size ≤ 60) hx (fun p hp => by
    obtain ⟨j, hj⟩ := List.getElem?_of_mem hp
    have := shB_sizes (vshorts_mem hv hj)
    omega) k
theorem canL_idx (ps : List Sh) (xs : List ByteArray) : idxOk xs.length (canL ps xs) := fun k v hv => by
  obtain ⟨i, hi, rfl, _⟩ := canTo_mem (List.mem_of_getElem? hv)
  omega
theorem idxNd_of {n : Nat} {bs : List Int} (h : idxOk n bs) (hn : bs.Nodup) : idxNd bs := fun j k hj hk e => by
  have h1 := h j bs[j] (List.getElem?_eq_getElem (by omega))
  have h2 := h k bs[k] (List.getElem?_eq_getElem hk)
  have e1 : bs.getD j 0 = bs[j] := by simp [List.getD, (show j < bs.length by omega)]
  have e2 : bs.getD k 0 = bs[k] := by simp [List.getD, hk]
  rw [e1, e2] at e
  have h3 : bs[j] = bs[k] := by omega
  have := List.pairwise_iff_getElem.1 hn j k (by omega) hk hj
  exact this h3
theorem canL_len (ps : List Sh) (xs : List ByteArray) : (canL ps xs).length ≤ xs.length := canTo_len ps xs _

noncomputable def okTS (L : List UInt8) (ps : List Sh) : Bool := vtext L && vshorts ps
theorem okTS_true {L : List UInt8} {ps : List Sh} : okTS L ps = true ↔ vtext L = true ∧ vshorts ps = true := by simp [okTS]
def rpAll (ps : List Sh) (xs : List ByteArray) : List ByteArray := rp ps xs (canL ps xs) (canL ps xs).length
noncomputable def saT (L : List UInt8) (ps : List Sh) : ByteArray := if okTS L ps = true then TJ (rpAll ps (bas (wordsL L))) else ⟨#[]⟩
noncomputable def saN (L : List UInt8) (ps : List Sh) : Int := if okTS L ps = true then (canL ps (bas (wordsL L))).length else 0
noncomputable def tsC (L : List UInt8) (ps : List Sh) : Int := if okTS L ps = true then 0 else 1
theorem sa_ok {L : List UInt8} {ps : List Sh} (h : okTS L ps = true) : saT L ps = TJ (rpAll ps (bas (wordsL L))) ∧ saN L ps = (canL ps (bas (wordsL L))).length ∧ tsC L ps = 0 := by
  unfold saT saN tsC; rw [if_pos h, if_pos h, if_pos h]; exact ⟨rfl, rfl, rfl⟩
theorem sa_no {L : List UInt8} {ps : List Sh} (h : okTS L ps = false) : saT L ps = ⟨#[]⟩ ∧ saN L ps = 0 ∧ tsC L ps = 1 := by
  unfold saT saN tsC; rw [h]; exact ⟨rfl, rfl, rfl⟩
theorem ret_sii {s t : ByteArray} {i j a b : Int} (h : s = t) (h1 : i = j) (h2 : a = b) : Ending.returned (.tuple #[.string s, .int .i64 i, .int .i64 a]) = .returned (.tuple #[.string t, .int .i64 j, .int .i64 b]) := by rw [h, h1, h2]

set_option maxRecDepth 100000 in
set_option maxHeartbeats 4000000 in
theorem implShortenAll_any (s : ByteArray) (hs : s.size ≤ maxLen) (S : Option Addr) (ss : List Sh) (cs : Nat) (hsn : ss.length ≤ maxLen) (hsx : ∀ x ∈ ss, x.1.size ≤ maxLen ∧ x.2.size ≤ maxLen) (w : World) (hS : ShsAt w w.heap.size S ss) :
    Calls Try.prog 50 #[.string s, .slice S ss.length cs] w fun e w' => e = .returned (.tuple #[.string (saT s.data.toList ss), .int .i64 (saN s.data.toList ss), .int .i64 (tsC s.data.toList ss)]) ∧ Below w.heap.size w w' := by
  have HT := hide (implValidText_any s w hs)
  have HV := hide (fun W (h : Below w.heap.size w W) => implValidShorts_any S ss cs hsn hsx W (hS.go h))
  cases ht : vtext s.data.toList
  · obtain ⟨e1, e2, e3⟩ := sa_no (L := s.data.toList) (ps := ss) (by simp [okTS, ht])
    rw [e1, e2, e3]
    rw [ht] at HT
    clear e1 e2 e3 ht hS hsn hsx
    generalize ss.length = n at *
    go_enter Try.func50, Try.ntmps50
    go_wp2_with (go_at_call 96; refine HT.out.mono ?_; rintro e w1 ⟨rfl, hb1⟩)
    go_ret3
    exact ⟨rfl, hb1⟩
  · cases hv : vshorts ss
    · obtain ⟨e1, e2, e3⟩ := sa_no (L := s.data.toList) (ps := ss) (by simp [okTS, hv])
      rw [e1, e2, e3]
      rw [ht] at HT
      rw [hv] at HV
      clear e1 e2 e3 ht hS hsn hsx hv
      generalize ss.length = n at *
      go_enter Try.func50, Try.ntmps50
      go_wp2_with fail
      refine HT.out.mono ?_
      rintro e w1 ⟨rfl, hb1⟩
      go_wp2_with (go_at_call 45; refine (HV.out _ hb1).mono ?_; rintro e w2 ⟨rfl, hb2⟩)
      go_ret3
      exact ⟨rfl, hb1.trans (hb2.mono hb1.size)⟩
    · obtain ⟨e1, e2, e3⟩ := sa_ok (L := s.data.toList) (ps := ss) (by simp [okTS, hv, ht])
      rw [e1, e2, e3]
      have hs60 : s.size ≤ 1048576 := by have := (vtext_true.1 ht).1; simp at this; omega
      have HC := hide (collect_wordsC s hs60)
      rw [itW_words ht] at HC
      have hsm := small_words ht
      have hwl := words_len ht
      have hbl : (bas (wordsL s.data.toList)).length = (wordsL s.data.toList).length := List.length_map _
      rw [← hbl] at hwl HC
      generalize bas (wordsL s.data.toList) = xs at *
      have hcl := canL_len ss xs
      have HSB := hide (fun A2 c2 W (h : Below w.heap.size w W) (hX : StrsAt W W.heap.size A2 xs) => shortable_any A2 xs c2 S ss cs W hsn (by omega) hX (hS.go h))
      have hidx := canL_idx ss xs
      have HSH := hide (fun A2 c2 B cb W (h : Below w.heap.size w W) (hX : StrsAt W W.heap.size A2 xs) (hB : IntsAt W W.heap.size B (canL ss xs)) =>
        shorten_any A2 xs c2 S ss cs B (canL ss xs) cb W hsn (by omega) (by unfold maxLen; omega) hidx (idxNd_of hidx (canTo_nodup _ _ _)) hX (hS.go h) hB)
      have HJ := hide (fun A c W (hc : (rpAll ss xs).length ≤ c) h => joinB_any A (rpAll ss xs) c W (small_rp hsm hv _) (by unfold rpAll; rw [rp_len]; exact hwl) hc h)
      have hrl : (rpAll ss xs).length = xs.length := rp_len _ _ _ _
      have HRL := hide hrl
      change Hid (∀ A2 c2 B cb W, _ → _ → _ → Calls Try.prog 117 _ W (StrsBk (rpAll ss xs) W)) at HSH
      unfold StrsBk at HSH
      unfold IntsBk at HSB
      rw [ht] at HT
      rw [hv] at HV
      clear e1 e2 e3 ht hS hsn hsx hv hsm hidx hbl hrl
      generalize rpAll ss xs = RR at *
      generalize canL ss xs = CC at *
      obtain ⟨m, hm⟩ : ∃ m, CC.length = m := ⟨_, rfl⟩
      rw [hm] at hcl HSB HSH ⊢
      rw [HRL.out] at HJ HSH
      generalize xs.length = n at *
      generalize ss.length = r at *
      have HM := hide hm
      clear hm
      go_enter Try.func50, Try.ntmps50
      go_wp2_with fail
      refine HT.out.mono ?_
      rintro e w1 ⟨rfl, hb1⟩
      go_wp2_with fail
      refine (HV.out _ hb1).mono ?_
      rintro e w2 ⟨rfl, hb2⟩
      have hB2 := hb1.trans (hb2.mono hb1.size)
      go_wp2_with fail
      refine (wordsIn_any s _).mono ?_
      rintro e w3 ⟨rfl, HB3, hb3⟩
      have hB3 := hB2.trans (hb3.mono hB2.size)
      go_wp2_with fail
      refine (HC.out _ _ HB3.out.1 HB3.out.2).mono ?_
      rintro e w4 ⟨A, c, rfl, hc, hP, hb4⟩
      have hB4 := hB3.trans (hb4.mono hB3.size)
      have hX4 := hide hP.at_
      clear hP hb1 hb2 hb3 hb4 hB2 hB3 HB3
      go_wp2_with fail
      refine (HSB.out _ _ _ hB4 hX4.out).mono ?_
      rintro e w5 ⟨A5, c5, rfl, hc5, hI, hb5⟩
      have hB5 := hB4.trans (hb5.mono hB4.size)
      have hI5 := hide hI.at_
      have hX5 := hide (hX4.out.go hb5)
      clear hI hb5
      go_wp2_with fail
      refine (HSH.out _ _ _ _ _ hB5 hX5.out hI5.out).mono ?_
      rintro e w6 ⟨A6, c6, rfl, hc6, hP6, hb6⟩
      have hB6 := hB5.trans (hb6.mono hB5.size)
      have hX6 := hide hP6.at_
      clear hP6 hb6
      go_wp2_with fail
      refine (HJ.out _ _ _ hc6 hX6.out).mono ?_
      rintro e w7 ⟨rfl, hb7⟩
      go_wp2
      go_ret3
      exact ⟨rfl, hB6.trans (hb7.mono hB6.size)⟩
end Go.Proofs.Ytikmmeohmkjbeaa
