/- JoinRubbings and SureDark, of both. -/
import Derived.Test.YtjmkbdghenjlaaaDoorSuS
import Derived.Test.YtjmkbdghenjlaaaDoorRbE
namespace Go.Proofs.YtjmkbdghenjlaaaDoor
open Go Go.RowKit

def jrC (n : Nat) : Int := if 8 < n then 3 else if n = 0 then 6 else 0
def jrR (Rs : List (List Nat)) : List Nat := if jrC Rs.length = 0 then dkIn Rs 1 else zR
def sdC (n : Nat) (need : Int) : Int := if 8 < n then 3 else if inB need 1 n = true then 0 else 2
def sdR (Rs : List (List Nat)) (need : Int) : List Nat := if sdC Rs.length need = 0 then dkIn Rs need else zR
theorem jrR_ok (Rs : List (List Nat)) : rok (jrR Rs) := by
  unfold jrR; split
  · exact dkIn_ok _ _
  · exact zR_ok
theorem sdR_ok (Rs : List (List Nat)) (need : Int) : rok (sdR Rs need) := by
  unfold sdR; split
  · exact dkIn_ok _ _
  · exact zR_ok
theorem jr_many {Rs : List (List Nat)} (h : 8 < Rs.length) : jrR Rs = zR ∧ jrC Rs.length = 3 := by
  have e : jrC Rs.length = 3 := if_pos h
  exact ⟨if_neg (by rw [e]; decide), e⟩
theorem jr_none {Rs : List (List Nat)} (h : Rs.length = 0) : jrR Rs = zR ∧ jrC Rs.length = 6 := by
  have e : jrC Rs.length = 6 := by unfold jrC; rw [if_neg (by omega), if_pos h]
  exact ⟨if_neg (by rw [e]; decide), e⟩
theorem jr_ok {Rs : List (List Nat)} (h : ¬ 8 < Rs.length) (h' : Rs.length ≠ 0) : jrR Rs = dkIn Rs 1 ∧ jrC Rs.length = 0 := by
  have e : jrC Rs.length = 0 := by unfold jrC; rw [if_neg h, if_neg h']
  exact ⟨if_pos e, e⟩
theorem sd_many {Rs : List (List Nat)} {need : Int} (h : 8 < Rs.length) : sdR Rs need = zR ∧ sdC Rs.length need = 3 := by
  have e : sdC Rs.length need = 3 := if_pos h
  exact ⟨if_neg (by rw [e]; decide), e⟩
theorem sd_out {Rs : List (List Nat)} {need : Int} (h : ¬ 8 < Rs.length) (h' : inB need 1 Rs.length = false) : sdR Rs need = zR ∧ sdC Rs.length need = 2 := by
  have e : sdC Rs.length need = 2 := by unfold sdC; rw [if_neg h, if_neg (by rw [h']; decide)]
  exact ⟨if_neg (by rw [e]; decide), e⟩
theorem sd_ok {Rs : List (List Nat)} {need : Int} (h : ¬ 8 < Rs.length) (h' : inB need 1 Rs.length = true) : sdR Rs need = dkIn Rs need ∧ sdC Rs.length need = 0 := by
  have e : sdC Rs.length need = 0 := by unfold sdC; rw [if_neg h, if_pos h']
  exact ⟨if_pos e, e⟩
theorem countError_in (x : Int) (h : ¬ 8 < x) (w : World) :
    Calls Tryd.prog 41 #[.int .i64 x] w fun e w' => e = .returned .nilIface ∧ w = w' := by
  have := countError_any x w
  rw [show mnE x = .none from if_neg h] at this
  exact this
theorem countError_out (x : Int) (h : 8 < x) (w : World) :
    Calls Tryd.prog 41 #[.int .i64 x] w fun e w' => e = .returned (.iface 131 (.int .i64 x)) ∧ w = w' := by
  have := countError_any x w
  rw [show mnE x = .M x from if_pos h] at this
  exact this
theorem ersAt_o1 {w : World} {t : TypeId} (a : Er) : ErsAt (w.alloc (.cells #[erV a] t)) (w.alloc (.cells #[erV a] t)).heap.size (some ⟨w.heap.size, 0, none⟩) [a] := fun _ => by
  refine ⟨w.heap.size, 0, rfl, by simp, fun k x hx => ?_⟩
  have hr := rangeAt_new' w #[erV a] t
  match k with
  | 0 => obtain rfl : a = x := by simpa using hx
         exact hr 0 _ rfl
  | k + 1 => simp at hx

set_option maxRecDepth 100000 in
set_option maxHeartbeats 8000000 in
theorem specSureDark_any (A : Option Addr) (Rs : List (List Nat)) (c : Nat) (hn : Rs.length ≤ maxLen) (hR : ∀ R ∈ Rs, rok R) (need : Int) (w : World) (hA : RbsAt w w.heap.size A Rs) :
    Calls Tryd.prog 10 #[.slice A Rs.length c, .int .i64 need] w (RubBack (sdR Rs need) (sdC Rs.length need) w) := by
  have ht : (w.alloc (.cells #[.int .u16 0, .int .u16 0, .int .u16 0, .int .u16 0, .int .u16 0, .int .u16 0, .int .u16 0, .int .u16 0] 26)).there w.heap.size 0 8 := there_newg rfl rfl
  have hb : Below w.heap.size w (w.alloc (.cells #[.int .u16 0, .int .u16 0, .int .u16 0, .int .u16 0, .int .u16 0, .int .u16 0, .int .u16 0, .int .u16 0] 26)) := (Below.refl _ _).alloc (Nat.le_refl _) _
  have s1 : w.heap.size < (w.alloc (.cells #[.int .u16 0, .int .u16 0, .int .u16 0, .int .u16 0, .int .u16 0, .int .u16 0, .int .u16 0, .int .u16 0] 26)).heap.size := by simp
  unfold maxLen at hn
  by_cases h8 : 8 < Rs.length
  · rw [(sd_many h8).1, (sd_many h8).2]
    have hd : decide ((8 : Int) < (Rs.length : Int)) = true := by simp; omega
    have hd' : decide (8 < Rs.length) = true := by simpa using h8
    clear hR hA
    go_enter Tryd.func10, Tryd.ntmps10
    go_wp2_with (refine wpList_store_mid rfl 26 (.tmp 4) (.tmp 9) rfl w.heap.size 0 (rwc zR).toArray rfl rfl ht (rub_info zR_ok.1) (rwc_one _) ?_)
    refine bodyPost_ret (results_midR rfl _ _ w.heap.size 0 (rwc zR) _ rfl (World.rangeAt_setCells_same _ _ _ _ ht) Tryd.underlying26 rfl (rub_info' zR_ok.1)) rfl ⟨rfl, ?_⟩
    exact below_setCells _ _ _ _ hb (Nat.le_refl _)
  · have hd : decide ((8 : Int) < (Rs.length : Int)) = false := by simp; omega
    have hd' : decide (8 < Rs.length) = false := by simpa using h8
    cases h1 : inB need 1 Rs.length
    · rw [(sd_out h8 h1).1, (sd_out h8 h1).2]
      clear hR hA h8
      generalize Rs.length = n at *
      go_enter Tryd.func10, Tryd.ntmps10
      go_wp2_with fail
      generalize (w.alloc (.cells #[.int .u16 0, .int .u16 0, .int .u16 0, .int .u16 0, .int .u16 0, .int .u16 0, .int .u16 0, .int .u16 0] 26)) = W0 at *
      refine (l00In_any _ _ _ _).mono ?_
      rintro e w' ⟨rfl, rfl⟩
      simp only [h1]
      go_wp2_with (refine wpList_store_mid rfl 26 (.tmp 4) (.tmp 15) rfl w.heap.size 0 (rwc zR).toArray rfl rfl ht (rub_info zR_ok.1) (rwc_one _) ?_)
      refine bodyPost_ret (results_midR rfl _ _ w.heap.size 0 (rwc zR) _ rfl (World.rangeAt_setCells_same _ _ _ _ ht) Tryd.underlying26 rfl (rub_info' zR_ok.1)) rfl ⟨rfl, ?_⟩
      exact below_setCells _ _ _ _ hb (Nat.le_refl _)
    · rw [(sd_ok h8 h1).1, (sd_ok h8 h1).2]
      have HC := hide (l07Sure_any A Rs c need (w.alloc (.cells #[.int .u16 0, .int .u16 0, .int .u16 0, .int .u16 0, .int .u16 0, .int .u16 0, .int .u16 0, .int .u16 0] 26)) (by unfold maxLen; omega) hR (hA.go hb))
      have HL := hide (dkIn_ok Rs need).1
      clear hR hA h8
      generalize dkIn Rs need = T at *
      generalize Rs.length = n at *
      go_enter Tryd.func10, Tryd.ntmps10
      go_wp2_with fail
      generalize (w.alloc (.cells #[.int .u16 0, .int .u16 0, .int .u16 0, .int .u16 0, .int .u16 0, .int .u16 0, .int .u16 0, .int .u16 0] 26)) = W0 at *
      refine (l00In_any _ _ _ _).mono ?_
      rintro e w' ⟨rfl, rfl⟩
      simp only [h1]
      go_wp2_with fail
      refine HC.out.mono ?_
      rintro e w2 ⟨rfl, hb2⟩
      have ht2 : w2.there w.heap.size 0 (rwc T).toArray.size := by simp only [List.size_toArray]; rw [rwc_length, HL.out]; exact there_below ht hb2 s1
      have hB := hb.trans (hb2.mono hb.size)
      clear ht hb2 hb HC
      go_wp2_with (refine wpList_store_mid rfl 26 (.tmp 4) (.tmp 18) rfl w.heap.size 0 (rwc T).toArray rfl rfl ht2 (rub_info HL.out) (rwc_one _) ?_)
      refine bodyPost_ret (results_midR rfl _ _ w.heap.size 0 (rwc T) _ rfl (World.rangeAt_setCells_same _ _ _ _ ht2) Tryd.underlying26 rfl (rub_info' HL.out)) rfl ⟨rfl, ?_⟩
      exact below_setCells _ _ _ _ hB (Nat.le_refl _)

set_option maxRecDepth 100000 in
set_option maxHeartbeats 8000000 in
theorem implSureDark_any (A : Option Addr) (Rs : List (List Nat)) (c : Nat) (hn : Rs.length ≤ maxLen) (hR : ∀ R ∈ Rs, rok R) (need : Int) (w : World) (hg : ErrT w) (hA : RbsAt w w.heap.size A Rs) :
    Calls Tryd.prog 12 #[.slice A Rs.length c, .int .i64 need] w (RubBack (sdR Rs need) (sdC Rs.length need) w) := by
  have ht : (w.alloc (.cells #[.int .u16 0, .int .u16 0, .int .u16 0, .int .u16 0, .int .u16 0, .int .u16 0, .int .u16 0, .int .u16 0] 26)).there w.heap.size 0 8 := there_newg rfl rfl
  have hb : Below w.heap.size w (w.alloc (.cells #[.int .u16 0, .int .u16 0, .int .u16 0, .int .u16 0, .int .u16 0, .int .u16 0, .int .u16 0, .int .u16 0] 26)) := (Below.refl _ _).alloc (Nat.le_refl _) _
  have s1 : w.heap.size < (w.alloc (.cells #[.int .u16 0, .int .u16 0, .int .u16 0, .int .u16 0, .int .u16 0, .int .u16 0, .int .u16 0, .int .u16 0] 26)).heap.size := by simp
  have hg0 := hg.below hb
  have HA := hide hA
  unfold maxLen at hn
  by_cases h8 : 8 < Rs.length
  · have h8i : (8 : Int) < (Rs.length : Int) := by omega
    cases h1 : inB need 1 (Rs.length : Int)
    · rw [(sd_many h8).1, (sd_many h8).2]
      have HCD := hide (show erC [Er.M (Rs.length : Int), Er.R need] = 3 from rfl)
      have HCE := hide (fun W => countError_out (Rs.length : Int) h8i W)
      have HRE := hide (fun W => rangeError_out need 1 (Rs.length : Int) h1 W)
      clear hR hA HA hg h8 h8i h1
      generalize Rs.length = n at *
      go_enter Tryd.func12, Tryd.ntmps12
      go_wp2_with fail
      generalize (w.alloc (.cells #[.int .u16 0, .int .u16 0, .int .u16 0, .int .u16 0, .int .u16 0, .int .u16 0, .int .u16 0, .int .u16 0] 26)) = W0 at *
      refine (HCE.out _).mono ?_
      rintro e w' ⟨rfl, rfl⟩
      go_wp2_with fail
      refine (HRE.out _).mono ?_
      rintro e w' ⟨rfl, rfl⟩
      go_wp2_with fail
      have hb2 : Below W0.heap.size W0 (W0.alloc (.cells #[.iface 131 (.int .i64 n), .iface 130 (.int .i64 need)] 77)) := (Below.refl _ _).alloc (Nat.le_refl _) _
      have HC := hide (codeOf_any (some ⟨W0.heap.size, 0, none⟩) [Er.M (n : Int), Er.R need] 2 (W0.alloc (.cells #[.iface 131 (.int .i64 n), .iface 130 (.int .i64 need)] 77)) (by simp) (ersAt_new2 (Er.M (n : Int)) (Er.R need)) (hg0.below hb2))
      rw [HCD.out] at HC
      refine HC.out.mono ?_
      rintro e w1 ⟨rfl, hb1⟩
      have hB1 := hb2.trans (hb1.mono hb2.size)
      have ht1 := there_below ht hB1 s1
      have hBB := hb.trans (hB1.mono hb.size)
      have hz1 := hB1.size
      go_wp2_with (refine wpList_store_mid rfl 26 (.tmp 4) (.tmp 19) rfl w.heap.size 0 (rwc zR).toArray rfl rfl ht1 (rub_info zR_ok.1) (rwc_one _) ?_)
      refine bodyPost_ret (results_midR rfl _ _ w.heap.size 0 (rwc zR) _ rfl (World.rangeAt_setCells_same _ _ _ _ ht1) Tryd.underlying26 rfl (rub_info' zR_ok.1)) rfl ⟨rfl, ?_⟩
      exact below_setCells _ _ _ _ hBB (Nat.le_refl _)
    · rw [(sd_many h8).1, (sd_many h8).2]
      have HCD := hide (show erC [Er.M (Rs.length : Int), Er.none] = 3 from rfl)
      have HCE := hide (fun W => countError_out (Rs.length : Int) h8i W)
      have HRE := hide (fun W => rangeError_in need 1 (Rs.length : Int) h1 W)
      clear hR hA HA hg h8 h8i h1
      generalize Rs.length = n at *
      go_enter Tryd.func12, Tryd.ntmps12
      go_wp2_with fail
      generalize (w.alloc (.cells #[.int .u16 0, .int .u16 0, .int .u16 0, .int .u16 0, .int .u16 0, .int .u16 0, .int .u16 0, .int .u16 0] 26)) = W0 at *
      refine (HCE.out _).mono ?_
      rintro e w' ⟨rfl, rfl⟩
      go_wp2_with fail
      refine (HRE.out _).mono ?_
      rintro e w' ⟨rfl, rfl⟩
      go_wp2_with fail
      have hb2 : Below W0.heap.size W0 (W0.alloc (.cells #[.iface 131 (.int .i64 n), .nilIface] 77)) := (Below.refl _ _).alloc (Nat.le_refl _) _
      have HC := hide (codeOf_any (some ⟨W0.heap.size, 0, none⟩) [Er.M (n : Int), Er.none] 2 (W0.alloc (.cells #[.iface 131 (.int .i64 n), .nilIface] 77)) (by simp) (ersAt_new2 (Er.M (n : Int)) (Er.none)) (hg0.below hb2))
      rw [HCD.out] at HC
      refine HC.out.mono ?_
      rintro e w1 ⟨rfl, hb1⟩
      have hB1 := hb2.trans (hb1.mono hb2.size)
      have ht1 := there_below ht hB1 s1
      have hBB := hb.trans (hB1.mono hb.size)
      have hz1 := hB1.size
      go_wp2_with (refine wpList_store_mid rfl 26 (.tmp 4) (.tmp 19) rfl w.heap.size 0 (rwc zR).toArray rfl rfl ht1 (rub_info zR_ok.1) (rwc_one _) ?_)
      refine bodyPost_ret (results_midR rfl _ _ w.heap.size 0 (rwc zR) _ rfl (World.rangeAt_setCells_same _ _ _ _ ht1) Tryd.underlying26 rfl (rub_info' zR_ok.1)) rfl ⟨rfl, ?_⟩
      exact below_setCells _ _ _ _ hBB (Nat.le_refl _)
  · have h8i : ¬ (8 : Int) < (Rs.length : Int) := by omega
    cases h1 : inB need 1 (Rs.length : Int)
    · rw [(sd_out h8 h1).1, (sd_out h8 h1).2]
      have HCD := hide (show erC [Er.none, Er.R need] = 2 from rfl)
      have HCE := hide (fun W => countError_in (Rs.length : Int) h8i W)
      have HRE := hide (fun W => rangeError_out need 1 (Rs.length : Int) h1 W)
      clear hR hA HA hg h8 h8i h1
      generalize Rs.length = n at *
      go_enter Tryd.func12, Tryd.ntmps12
      go_wp2_with fail
      generalize (w.alloc (.cells #[.int .u16 0, .int .u16 0, .int .u16 0, .int .u16 0, .int .u16 0, .int .u16 0, .int .u16 0, .int .u16 0] 26)) = W0 at *
      refine (HCE.out _).mono ?_
      rintro e w' ⟨rfl, rfl⟩
      go_wp2_with fail
      refine (HRE.out _).mono ?_
      rintro e w' ⟨rfl, rfl⟩
      go_wp2_with fail
      have hb2 : Below W0.heap.size W0 (W0.alloc (.cells #[.nilIface, .iface 130 (.int .i64 need)] 77)) := (Below.refl _ _).alloc (Nat.le_refl _) _
      have HC := hide (codeOf_any (some ⟨W0.heap.size, 0, none⟩) [Er.none, Er.R need] 2 (W0.alloc (.cells #[.nilIface, .iface 130 (.int .i64 need)] 77)) (by simp) (ersAt_new2 (Er.none) (Er.R need)) (hg0.below hb2))
      rw [HCD.out] at HC
      refine HC.out.mono ?_
      rintro e w1 ⟨rfl, hb1⟩
      have hB1 := hb2.trans (hb1.mono hb2.size)
      have ht1 := there_below ht hB1 s1
      have hBB := hb.trans (hB1.mono hb.size)
      have hz1 := hB1.size
      go_wp2_with (refine wpList_store_mid rfl 26 (.tmp 4) (.tmp 19) rfl w.heap.size 0 (rwc zR).toArray rfl rfl ht1 (rub_info zR_ok.1) (rwc_one _) ?_)
      refine bodyPost_ret (results_midR rfl _ _ w.heap.size 0 (rwc zR) _ rfl (World.rangeAt_setCells_same _ _ _ _ ht1) Tryd.underlying26 rfl (rub_info' zR_ok.1)) rfl ⟨rfl, ?_⟩
      exact below_setCells _ _ _ _ hBB (Nat.le_refl _)
    · rw [(sd_ok h8 h1).1, (sd_ok h8 h1).2]
      have HCD := hide (show erC [Er.none, Er.none] = 0 from rfl)
      have HCE := hide (fun W => countError_in (Rs.length : Int) h8i W)
      have HRE := hide (fun W => rangeError_in need 1 (Rs.length : Int) h1 W)
      have HDI := hide (fun W hA => darkIn_any A Rs c need W (by unfold maxLen; omega) hR hA)
      have HL := hide (dkIn_ok Rs need).1
      clear hR hA hg h8 h8i h1
      generalize dkIn Rs need = T at *
      obtain ⟨n, hnn⟩ : ∃ n, Rs.length = n := ⟨_, rfl⟩
      rw [hnn] at hn HCE HRE HDI ⊢
      clear hnn
      go_enter Tryd.func12, Tryd.ntmps12
      go_wp2_with fail
      generalize (w.alloc (.cells #[.int .u16 0, .int .u16 0, .int .u16 0, .int .u16 0, .int .u16 0, .int .u16 0, .int .u16 0, .int .u16 0] 26)) = W0 at *
      refine (HCE.out _).mono ?_
      rintro e w' ⟨rfl, rfl⟩
      go_wp2_with fail
      refine (HRE.out _).mono ?_
      rintro e w' ⟨rfl, rfl⟩
      go_wp2_with fail
      have hb2 : Below W0.heap.size W0 (W0.alloc (.cells #[.nilIface, .nilIface] 77)) := (Below.refl _ _).alloc (Nat.le_refl _) _
      have HC := hide (codeOf_any (some ⟨W0.heap.size, 0, none⟩) [Er.none, Er.none] 2 (W0.alloc (.cells #[.nilIface, .nilIface] 77)) (by simp) (ersAt_new2 (Er.none) (Er.none)) (hg0.below hb2))
      rw [HCD.out] at HC
      refine HC.out.mono ?_
      rintro e w1 ⟨rfl, hb1⟩
      have hB1 := hb2.trans (hb1.mono hb2.size)
      have ht1 := there_below ht hB1 s1
      have hBB := hb.trans (hB1.mono hb.size)
      have hz1 := hB1.size
      have HDD := hide (HDI.out w1 (HA.out.go hBB))
      clear hb2 HC hg0 ht hB1 hb1 HCD
      go_wp2_with fail
      refine HDD.out.mono ?_
      rintro e w2 ⟨rfl, hb3⟩
      have ht2 : w2.there w.heap.size 0 (rwc T).toArray.size := by simp only [List.size_toArray]; rw [rwc_length, HL.out]; exact there_below ht1 hb3 (by omega)
      have hB := hBB.trans (hb3.mono (by omega))
      go_wp2_with (refine wpList_store_mid rfl 26 (.tmp 4) (.tmp 23) rfl w.heap.size 0 (rwc T).toArray rfl rfl ht2 (rub_info HL.out) (rwc_one _) ?_)
      refine bodyPost_ret (results_midR rfl _ _ w.heap.size 0 (rwc T) _ rfl (World.rangeAt_setCells_same _ _ _ _ ht2) Tryd.underlying26 rfl (rub_info' HL.out)) rfl ⟨rfl, ?_⟩
      exact below_setCells _ _ _ _ hB (Nat.le_refl _)
end Go.Proofs.YtjmkbdghenjlaaaDoor
