/- The text of prices: the model's. -/
import Derived.Test.YtjmkbdghenjlaaaDoorPtB
namespace Go.Proofs.YtjmkbdghenjlaaaDoor
open Go Go.RowKit

def dgt (x : Int) : List UInt8 := Lib.decDigits x.toNat
theorem dgt_len {x : Int} (h : x ≤ 1000) : (dgt x).length ≤ 4 := dig_len 3 _ (by omega)
/-- The text of the first k numbers. -/
def tT (S : List Int) : Nat → List UInt8
  | 0 => []
  | k + 1 => (if k = 0 then tT S k else tT S k ++ [32]) ++ dgt (S.getD k 0)
theorem tT_len {S : List Int} (h : ∀ k, S.getD k 0 ≤ 1000) : ∀ k, (tT S k).length ≤ 5 * k
  | 0 => by simp [tT]
  | k + 1 => by
    have ih := tT_len h k
    have := dgt_len (h k)
    rw [tT]
    split <;> (simp only [List.length_append, List.length_cons, List.length_nil]; omega)
theorem join_snoc (xs : List (List UInt8)) (y sep : List UInt8) (h : xs ≠ []) : Lib.join (xs ++ [y]) sep = Lib.join xs sep ++ sep ++ y := by
  cases xs with
  | nil => exact absurd rfl h
  | cons x r =>
    rw [List.cons_append, Lib.join_cons, Lib.join_cons]
    unfold Lib.joinTail
    rw [List.map_append, List.flatten_append]
    simp
theorem tT_join (S : List Int) : ∀ k, k ≤ S.length → tT S k = Lib.join ((S.take k).map dgt) [32]
  | 0, _ => by simp [tT, Lib.join_nil]
  | k + 1, hk => by
    have ih := tT_join S k (by omega)
    have hx := List.getElem?_eq_getElem (show k < S.length by omega)
    have hg : S.getD k 0 = S[k] := by simp [List.getD, hx]
    rw [tT, hg, List.take_add_one, hx, Option.toList_some, List.map_append, List.map_cons, List.map_nil]
    split
    · rename_i h0
      subst h0
      rw [List.take_zero, List.map_nil, List.nil_append, Lib.join_one]; simp [tT]
    · rw [join_snoc _ _ _ (by intro e; have h2 := congrArg List.length e; rw [List.length_map, List.length_take, List.length_nil] at h2; omega), ih]
/-- The text of prices. -/
def ptx (P : List Int) : ByteArray := if vprc P = true then ⟨(tT P 29).toArray⟩ else ⟨#[]⟩

set_option maxRecDepth 100000 in
set_option maxHeartbeats 8000000 in
theorem l06Text_any (P : List Int) (hP : P.length = 29) (hPx : ∀ x ∈ P, i16ok x) (hv : vprc P = true) (b : Nat) (w : World) (hb : b < w.heap.size) (hr : w.rangeAt b 0 (pw P)) :
    Calls Tryd.prog 59 #[.pointer (some ⟨b, 0, none⟩)] w fun e w' => e = .returned (.string ⟨(tT P 29).toArray⟩) ∧ Below w.heap.size w w' := by
  have HLI := hide (l06List_any P hP hPx b w hb hr)
  have HV := hide (fun k (hk : k < 29) => vprc_at hv (k := k) (by rw [hP]; exact hk))
  have HTL := hide (tT_len (S := P) (fun k => by
    by_cases hk : k < 29
    · exact (vprc_at hv (k := k) (by rw [hP]; exact hk)).2
    · rw [List.getD_eq_getElem?_getD, List.getElem?_eq_none (by omega)]; simp))
  have HG := hide (fun (k : Nat) (h : k < 29) => show P[k]? = some (P.getD k 0) from by rw [List.getD_eq_getElem?_getD, List.getElem?_eq_getElem (by omega)]; rfl)
  unfold IntsB at HLI
  rw [hP] at HLI
  clear hv hr hPx hP
  go_enter Tryd.func59, Tryd.ntmps59
  go_wp2_with fail
  refine HLI.out.mono ?_
  rintro e w1 ⟨A1, c1, rfl, hc1, hI1, hb1⟩
  obtain ⟨b1, o1, rfl, _, hl1, hcell, _⟩ := hI1 (by intro e; have := HG.out 0 (by omega); rw [e] at this; simp at this)
  have HCE := hide hcell
  clear hI1 hcell
  go_wp2
  go_loopw [4, 5] (fun t i wr => ∃ k : Nat, k ≤ 29 ∧ i = .int .i64 k ∧ t = .string ⟨(tT P k).toArray⟩ ∧ Below w1.heap.size w1 wr) (fun _ i _ => 29 - (intOf i).toNat)
  case atStart => exact ⟨0, by omega, rfl, rfl, Below.refl _ _⟩
  case round =>
    obtain ⟨k, hk, rfl, rfl, hB⟩ := hrel
    by_cases hlt : k < 29
    · have hc : wr.cell? ⟨b1, o1 + k, none⟩ = some (.int .i64 (P.getD k 0)) := (hB.cell (p := ⟨b1, o1 + k, none⟩) hl1).trans (HCE.out k _ (HG.out k hlt))
      obtain ⟨x1, x2⟩ := HV.out k hlt
      obtain ⟨n, hn⟩ : ∃ n : Nat, P.getD k 0 = n := ⟨(P.getD k 0).toNat, by omega⟩
      have hl := HTL.out k
      have hsz : (⟨(tT P k).toArray⟩ : ByteArray).size ≤ 145 := by simp [ByteArray.size]; omega
      have HD := hide (fun W => decimalN_any n (by omega) W)
      have hdl : (dtx n).size ≤ 6 := dtx_len (by omega)
      have hi : (k : Int) < 29 := by omega
      have hk0 : (0 : Int) ≤ k := by omega
      have hw := hB.size
      rw [hn] at hc x1 x2
      by_cases hz : k = 0
      · have HE : Hid ((⟨(tT P k).toArray⟩ : ByteArray) ++ dtx n = ⟨(tT P (k + 1)).toArray⟩) := hide (by
          rw [tT, if_pos hz, hn]; apply ba_ext; rw [append_data]; simp [dtx, dgt])
        have hd : decide ((0 : Int) < k) = false := by simp; omega
        have hd' : decide (0 < k) = false := by simp; omega
        generalize (⟨(tT P k).toArray⟩ : ByteArray) = t at *
        generalize dtx n = y at *
        clear hz hn
        go_wp2_with (go_at_call 98; refine (HD.out _).mono ?_; rintro e w2 ⟨rfl, hb2⟩)
        exact ⟨⟨k + 1, by omega, by go_num, by rw [HE.out], hB.trans (hb2.mono hB.size)⟩, by simp [intOf]; omega⟩
      · have HE : Hid ((⟨(tT P k).toArray⟩ : ByteArray) ++ ⟨#[32]⟩ ++ dtx n = ⟨(tT P (k + 1)).toArray⟩) := hide (by
          rw [tT, if_neg hz, hn]; apply ba_ext; rw [append_data, append_data]; simp [dtx, dgt])
        have hd : decide ((0 : Int) < k) = true := by simp; omega
        have hd' : decide (0 < k) = true := by simp; omega
        generalize (⟨(tT P k).toArray⟩ : ByteArray) = t at *
        have hs3 : (t ++ (⟨#[32]⟩ : ByteArray)).size ≤ 146 := by rw [append_size]; show t.size + 1 ≤ 146; omega
        generalize dtx n = y at *
        clear hz hn
        go_wp2_with (go_at_call 98; refine (HD.out _).mono ?_; rintro e w2 ⟨rfl, hb2⟩)
        exact ⟨⟨k + 1, by omega, by go_num, by rw [HE.out], hB.trans (hb2.mono hB.size)⟩, by simp [intOf]; omega⟩
    · obtain rfl : k = 29 := by omega
      go_wp2
      go_ret
      exact ⟨rfl, hb1.trans (hB.mono hb1.size)⟩

set_option maxRecDepth 100000 in
set_option maxHeartbeats 8000000 in
theorem specPricesText_any (P : List Int) (hP : P.length = 29) (hPx : ∀ x ∈ P, i16ok x) (w : World) :
    Calls Tryd.prog 30 #[.agg (pw P).toArray] w fun e w' => e = .returned (.string (ptx P)) ∧ Below w.heap.size w w' := by
  have r0 := rangeAt_new w (pw P) 57
  have b0 : Below w.heap.size w (w.alloc (.cells (pw P).toArray 57)) := (Below.refl _ _).alloc (Nat.le_refl _) _
  have s0 : w.heap.size < (w.alloc (.cells (pw P).toArray 57)).heap.size := by simp
  have HC := hide (l06Prices_any P hP hPx _ _ r0)
  have HX := hide (show ptx P = if vprc P = true then ⟨(tT P 29).toArray⟩ else ⟨#[]⟩ from rfl)
  cases h1 : vprc P
  · rw [h1] at HC HX
    clear r0 s0 hP hPx
    go_enter Tryd.func30, Tryd.ntmps30
    go_wp2_with (go_at_call 58; refine HC.out.mono ?_; rintro e w1 ⟨rfl, rfl⟩)
    go_ret
    exact ⟨ret_st (by rw [HX.out]; rfl), b0⟩
  · rw [h1] at HC HX
    have HT := hide (l06Text_any P hP hPx h1 _ _ s0 r0)
    clear r0 s0 hP hPx
    go_enter Tryd.func30, Tryd.ntmps30
    go_wp2_with (first | (go_at_call 58; refine HC.out.mono ?_; rintro e w1 ⟨rfl, rfl⟩) | (go_at_call 59; refine HT.out.mono ?_; rintro e w1 ⟨rfl, hb1⟩))
    go_ret
    exact ⟨ret_st (by rw [HX.out]; rfl), b0.trans (hb1.mono b0.size)⟩
end Go.Proofs.YtjmkbdghenjlaaaDoor
