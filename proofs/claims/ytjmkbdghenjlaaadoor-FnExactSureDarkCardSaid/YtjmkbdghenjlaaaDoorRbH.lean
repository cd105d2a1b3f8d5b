/- Dots that are dark in some rubbings at least, of the program. -/
import Derived.Test.YtjmkbdghenjlaaaDoorRbG
import Derived.Test.YtjmkbdghenjlaaaDoorLay
namespace Go.Proofs.YtjmkbdghenjlaaaDoor
open Go Go.RowKit

abbrev RbsAt := RowsAt 8 rwc
abbrev RbsIn := RowsIn 8 rwc
/-- In how many of the first k rubbings a dot is dark. -/
def cntD (Rs : List (List Nat)) (x y : Nat) : Nat → Nat
  | 0 => 0
  | k + 1 => cntD Rs x y k + (((Rs.getD k []).getD y 0).testBit x).toNat
theorem cntD_le (Rs : List (List Nat)) (x y : Nat) : ∀ k, cntD Rs x y k ≤ k
  | 0 => Nat.le_refl _
  | k + 1 => by have := cntD_le Rs x y k; have := Bool.toNat_le (((Rs.getD k []).getD y 0).testBit x); rw [cntD]; omega
theorem cntD_on {Rs : List (List Nat)} {x y k : Nat} {R : List Nat} (h : Rs[k]? = some R) (hb : (R.getD y 0).testBit x = true) : cntD Rs x y (k + 1) = cntD Rs x y k + 1 := by
  have e : Rs.getD k [] = R := by rw [List.getD_eq_getElem?_getD, h]; rfl
  rw [cntD, e, hb]; rfl
theorem cntD_off {Rs : List (List Nat)} {x y k : Nat} {R : List Nat} (h : Rs[k]? = some R) (hb : (R.getD y 0).testBit x = false) : cntD Rs x y (k + 1) = cntD Rs x y k := by
  have e : Rs.getD k [] = R := by rw [List.getD_eq_getElem?_getD, h]; rfl
  rw [cntD, e, hb]; rfl
def dkB (Rs : List (List Nat)) (need : Int) (x y : Nat) : Bool := decide (need ≤ ((cntD Rs x y Rs.length : Nat) : Int))
def dkIn (Rs : List (List Nat)) (need : Int) : List Nat := rubF (dkB Rs need)
theorem dkIn_ok (Rs : List (List Nat)) (need : Int) : rok (dkIn Rs need) := rubF_ok _

set_option maxRecDepth 100000 in
set_option maxHeartbeats 8000000 in
theorem darkIn1_any (Q N : Nat) (A : Option Addr) (Rs : List (List Nat)) (c : Nat) (need : Int) (x y : Nat) (hx : x < 16) (hy : y < 8) (B : Nat) (w : World) (hB : B ≤ w.heap.size) (hn : Rs.length ≤ maxLen) (hR : ∀ R ∈ Rs, rok R)
    (hq : w.cell? ⟨Q, 0, none⟩ = some (.slice A Rs.length c)) (hm : w.cell? ⟨N, 0, none⟩ = some (.int .i64 need)) (hA : RbsAt w B A Rs) :
    Calls Tryd.prog 81 #[.int .i64 x, .int .i64 y, .pointer (some ⟨Q, 0, none⟩), .pointer (some ⟨N, 0, none⟩)] w fun e w' => e = .returned (.bool (dkB Rs need x y)) ∧ Below w.heap.size w w' := by
  unfold maxLen at hn
  have HD := hide (fun R (h : R ∈ Rs) W => isDark_any R (hR R h) x y hx hy W)
  have HLN := hide (fun R (h : R ∈ Rs) => (hR R h).1)
  have HON := hide (fun k R h hb => @cntD_on Rs x y k R h hb)
  have HOF := hide (fun k R h hb => @cntD_off Rs x y k R h hb)
  have HLE := hide (cntD_le Rs x y)
  have HV := hide (show dkB Rs need x y = decide (need ≤ ((cntD Rs x y Rs.length : Nat) : Int)) from rfl)
  have HA := hide hA
  have hql := World.block_lt_of_cell? w _ hq
  have hml := World.block_lt_of_cell? w _ hm
  obtain ⟨n, hN⟩ : ∃ n, Rs.length = n := ⟨_, rfl⟩
  have HN := hide hN
  rw [hN] at hn hq HV
  rw [HV.out]
  clear hN hA hR HV
  go_enter Tryd.func81, Tryd.ntmps81
  go_wp2
  go_loopw [7, 12] (fun v i wr => ∃ k : Nat, k ≤ n ∧ i = .int .i64 k ∧ v = .int .i64 (cntD Rs x y k) ∧ Below w.heap.size w wr) (fun _ i _ => n - (intOf i).toNat)
  case atStart => exact ⟨0, Nat.zero_le _, rfl, rfl, Below.refl _ _⟩
  case round =>
    obtain ⟨k, hk, rfl, rfl, hBw⟩ := hrel
    have hbs := hBw.size
    by_cases hlt : k < n
    · obtain ⟨b, o, rfl, hb, hxs⟩ := HA.out (by intro e; rw [e] at HN; have := HN.out; simp at this; omega)
      obtain ⟨R, hRk⟩ : ∃ R, Rs[k]? = some R := ⟨Rs[k]'(by rw [HN.out]; exact hlt), List.getElem?_eq_getElem _⟩
      have hr := rangeAt_below (hxs k R hRk) hBw (by omega)
      have hmem := List.mem_of_getElem? hRk
      have HL := hide (HLN.out R hmem)
      have HC := hide (HD.out R hmem)
      obtain ⟨w2, hW2, r2, b2, s2, t20⟩ := stored_rub wr R HL.out
      have HW2 := hide hW2
      have hi : (k : Int) < n := by omega
      have h0 : (0 : Int) ≤ k := by omega
      have hle := HLE.out k
      have hB2 := hBw.trans (b2.mono hbs)
      clear hxs hW2 b2
      cases hbt : (R.getD y 0).testBit x
      · have HE := hide (HOF.out k R hRk hbt)
        rw [hbt] at HC
        clear hbt hRk hmem
        generalize cntD Rs x y k = q at *
        go_wp2_with (first | (refine wpList_load_mid rfl 26 (.tmp 14) rfl b (o + k * 8) rfl (rwc R) _ hr Tryd.underlying26 rfl (rub_info' HL.out) ?_) | (refine wpList_store_mid rfl 26 (.tmp 9) (.tmp 15) rfl wr.heap.size 0 _ rfl rfl t20 (rub_info HL.out) (rwc_one _) ?_; rw [← HW2.out]) | (refine wpList_load_mid rfl 26 (.tmp 9) rfl _ 0 rfl (rwc R) _ r2 Tryd.underlying26 rfl (rub_info' HL.out) ?_))
        refine (HC.out _).mono ?_
        rintro e w3 ⟨rfl, hb3⟩
        go_wp2
        exact ⟨⟨k + 1, by omega, by go_num, by rw [HE.out], hB2.trans (hb3.mono hB2.size)⟩, by simp [intOf]; omega⟩
      · have HE := hide (HON.out k R hRk hbt)
        rw [hbt] at HC
        clear hbt hRk hmem
        generalize cntD Rs x y k = q at *
        go_wp2_with (first | (refine wpList_load_mid rfl 26 (.tmp 14) rfl b (o + k * 8) rfl (rwc R) _ hr Tryd.underlying26 rfl (rub_info' HL.out) ?_) | (refine wpList_store_mid rfl 26 (.tmp 9) (.tmp 15) rfl wr.heap.size 0 _ rfl rfl t20 (rub_info HL.out) (rwc_one _) ?_; rw [← HW2.out]) | (refine wpList_load_mid rfl 26 (.tmp 9) rfl _ 0 rfl (rwc R) _ r2 Tryd.underlying26 rfl (rub_info' HL.out) ?_))
        refine (HC.out _).mono ?_
        rintro e w3 ⟨rfl, hb3⟩
        have hwq := IntWalk.i64_in ((q : Int) + 1) ⟨by omega, by omega⟩
        go_wp2
        exact ⟨⟨k + 1, by omega, by go_num, by rw [HE.out]; rfl, hB2.trans (hb3.mono hB2.size)⟩, by simp [intOf]; omega⟩
    · obtain rfl : k = n := by omega
      have hm2 := (hBw.cell (p := ⟨N, 0, none⟩) hml).trans hm
      go_wp2
      go_ret
      exact ⟨rfl, hBw⟩

set_option maxRecDepth 100000 in
set_option maxHeartbeats 4000000 in
theorem darkIn_any (A : Option Addr) (Rs : List (List Nat)) (c : Nat) (need : Int) (w : World) (hn : Rs.length ≤ maxLen) (hR : ∀ R ∈ Rs, rok R) (hA : RbsAt w w.heap.size A Rs) :
    Calls Tryd.prog 43 #[.slice A Rs.length c, .int .i64 need] w fun e w' => e = .returned (.agg (rwc (dkIn Rs need)).toArray) ∧ Below w.heap.size w w' := by
  have hb0 : Below w.heap.size w (((w.alloc (.cells #[.slice A Rs.length c] 29)).alloc (.cells #[.int .i64 need] 2)).alloc (.cells #[.int .u16 0, .int .u16 0, .int .u16 0, .int .u16 0, .int .u16 0, .int .u16 0, .int .u16 0, .int .u16 0] 26)) := (((Below.refl _ _).alloc (Nat.le_refl _) _).alloc (by simp) _).alloc (by simp <;> omega) _
  have s0 : (((w.alloc (.cells #[.slice A Rs.length c] 29)).alloc (.cells #[.int .i64 need] 2)).alloc (.cells #[.int .u16 0, .int .u16 0, .int .u16 0, .int .u16 0, .int .u16 0, .int .u16 0, .int .u16 0, .int .u16 0] 26)).heap.size = w.heap.size + 1 + 1 + 1 := by simp
  have q0 : (((w.alloc (.cells #[.slice A Rs.length c] 29)).alloc (.cells #[.int .i64 need] 2)).alloc (.cells #[.int .u16 0, .int .u16 0, .int .u16 0, .int .u16 0, .int .u16 0, .int .u16 0, .int .u16 0, .int .u16 0] 26)).cell? ⟨w.heap.size, 0, none⟩ = some (.slice A Rs.length c) := (World.rangeAt_alloc (World.rangeAt_alloc (rangeAt_new' w #[.slice A Rs.length c] 29) _) _) 0 _ rfl
  have m0 : (((w.alloc (.cells #[.slice A Rs.length c] 29)).alloc (.cells #[.int .i64 need] 2)).alloc (.cells #[.int .u16 0, .int .u16 0, .int .u16 0, .int .u16 0, .int .u16 0, .int .u16 0, .int .u16 0, .int .u16 0] 26)).cell? ⟨w.heap.size + 1, 0, none⟩ = some (.int .i64 need) := (World.rangeAt_alloc (rangeAt_newg (cs := #[.int .i64 need]) (l := [.int .i64 need]) (by simp) rfl) _) 0 _ rfl
  have t0 : (((w.alloc (.cells #[.slice A Rs.length c] 29)).alloc (.cells #[.int .i64 need] 2)).alloc (.cells #[.int .u16 0, .int .u16 0, .int .u16 0, .int .u16 0, .int .u16 0, .int .u16 0, .int .u16 0, .int .u16 0] 26)).there (w.heap.size + 1 + 1) 0 8 := there_newg (by simp) rfl
  have HD := hide (fun x y hx hy W hW hq hm hA => darkIn1_any w.heap.size (w.heap.size + 1) A Rs c need x y hx hy w.heap.size W hW hn hR hq hm hA)
  have HB0 := hide hb0
  have HA := hide hA
  have HOK := hide (dkIn_ok Rs need).1
  have HEQ := hide (show dkIn Rs need = rubF (dkB Rs need) from rfl)
  generalize dkB Rs need = f at *
  generalize dkIn Rs need = T at *
  clear hA hR hb0
  go_enter Tryd.func43, Tryd.ntmps43
  go_wp2_with fail
  generalize (((w.alloc (.cells #[.slice A Rs.length c] 29)).alloc (.cells #[.int .i64 need] 2)).alloc (.cells #[.int .u16 0, .int .u16 0, .int .u16 0, .int .u16 0, .int .u16 0, .int .u16 0, .int .u16 0, .int .u16 0] 26)) = W0 at *
  refine (rubbingOf_any 81 (enters_of Tryd.func81 (by kernel_rfl) rfl) #[.pointer (some ⟨w.heap.size, 0, none⟩), .pointer (some ⟨w.heap.size + 1, 0, none⟩)] f W0 (fun x y hx hy W hW => HD.out x y hx hy W (by have := hW.size; omega) ((hW.cell (p := ⟨w.heap.size, 0, none⟩) (show w.heap.size < W0.heap.size by omega)).trans q0) ((hW.cell (p := ⟨w.heap.size + 1, 0, none⟩) (show w.heap.size + 1 < W0.heap.size by omega)).trans m0) ((HA.out.below HB0.out).below (hW.mono (by omega))))).mono ?_
  rintro e w1 ⟨rfl, hb1⟩
  rw [← HEQ.out]
  have t1 : w1.there (w.heap.size + 1 + 1) 0 (rwc T).toArray.size := by simp only [List.size_toArray]; rw [rwc_length, HOK.out]; exact there_below t0 hb1 (by omega)
  have hB := HB0.out.trans (hb1.mono HB0.out.size)
  clear hb1 t0 q0 m0 HD
  go_wp2_with (refine wpList_store_mid rfl 26 (.tmp 4) (.tmp 6) rfl (w.heap.size + 1 + 1) 0 (rwc T).toArray rfl rfl t1 (rub_info HOK.out) (rwc_one _) ?_)
  refine bodyPost_ret (results_mid rfl _ _ (w.heap.size + 1 + 1) 0 (rwc T) _ rfl (World.rangeAt_setCells_same _ _ _ _ t1) Tryd.underlying26 rfl (rub_info' HOK.out)) rfl ⟨rfl, ?_⟩
  exact below_setCells _ _ _ _ hB (by omega)
end Go.Proofs.YtjmkbdghenjlaaaDoor
