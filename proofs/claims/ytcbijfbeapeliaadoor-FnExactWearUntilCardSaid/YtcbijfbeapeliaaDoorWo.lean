/- Rubbings worn once, with the code, of both. -/
import Derived.Test.YtcbijfbeapeliaaDoorWoI
import Derived.Test.YtcbijfbeapeliaaDoorWoS
namespace Go.Proofs.YtcbijfbeapeliaaDoor
open Go Go.RowKit

theorem mv_dot {R : List Nat} {dx dy : Int} {x y : Nat} (hx : x < 16) (hy : y < 8) : ((mvR R dx dy).getD y 0).testBit x = dk R ((x : Int) - dx) ((y : Int) - dy) := by
  unfold mvR
  rw [rubF_get _ hy, rowF_bit]; simp [hx]
theorem arL9 (R : List Nat) : arL R 9 = [mvR R (-1) (-1), mvR R 0 (-1), mvR R 1 (-1), mvR R (-1) 0, mvR R 1 0, mvR R (-1) 1, mvR R 0 1, mvR R 1 1] := by
  have e : (mvL 1 9).filter aroP = [(-1, -1), (0, -1), (1, -1), (-1, 0), (1, 0), (-1, 1), (0, 1), (1, 1)] := by decide
  unfold arL; rw [e]; rfl
theorem around_cnt {R : List Nat} {x y : Nat} (hx : x < 16) (hy : y < 8) (h : dk R (x : Int) (y : Int) = true) : ((cntD (arL R 9) x y (arL R 9).length : Nat) : Int) = ((nbN R (x : Int) (y : Int) 9 : Nat) : Int) - 1 := by
  rw [arL9]
  simp only [List.length_cons, List.length_nil, cntD, List.getD_cons_zero, List.getD_cons_succ, Nat.zero_add, mv_dot hx hy]
  have a1 : (x : Int) - -1 = x + 1 := by omega
  have a2 : (y : Int) - -1 = y + 1 := by omega
  simp only [nbN, Nat.reduceMod, Nat.reduceDiv]
  have b0 : ∀ z : Int, z + (((0 : Nat) : Int) - 1) = z - 1 := fun z => by omega
  have b1 : ∀ z : Int, z + (((1 : Nat) : Int) - 1) = z := fun z => by omega
  have b2 : ∀ z : Int, z + (((2 : Nat) : Int) - 1) = z + 1 := fun z => by omega
  simp only [b0, b1, b2, a1, a2, Int.sub_zero, h]
  generalize (dk R ((x : Int) + 1) ((y : Int) + 1)).toNat = c1
  generalize (dk R (x : Int) ((y : Int) + 1)).toNat = c2
  generalize (dk R ((x : Int) - 1) ((y : Int) + 1)).toNat = c3
  generalize (dk R ((x : Int) + 1) (y : Int)).toNat = c4
  generalize (dk R ((x : Int) - 1) (y : Int)).toNat = c5
  generalize (dk R ((x : Int) + 1) ((y : Int) - 1)).toNat = c6
  generalize (dk R (x : Int) ((y : Int) - 1)).toNat = c7
  generalize (dk R ((x : Int) - 1) ((y : Int) - 1)).toNat = c8
  simp only [Bool.toNat_true]
  omega
theorem wo_same {R : List Nat} (hR : rok R) (need : Int) : woR R need = wsR R need := by
  unfold wsR
  refine rub_eq (woR_ok hR need) fun x y hx hy => ?_
  unfold woR dkIn
  rw [cmnL_get _ _ hy, Nat.testBit_and, rubF_get _ hy, rowF_bit]
  have hd := dk_in (R := R) hx hy
  unfold wsF dkB
  rw [hd]
  cases hb : (R.getD y 0).testBit x
  · simp
  · rw [around_cnt hx hy (by rw [hd, hb])]; simp [hx]

def weR (R : List Nat) (need : Int) : List Nat := if inB need 0 8 = true then wsR R need else zR
def weC (need : Int) : Int := if inB need 0 8 = true then 0 else 2
theorem we_yes {need : Int} (h : inB need 0 8 = true) (R : List Nat) : weR R need = wsR R need ∧ weC need = 0 := ⟨if_pos h, if_pos h⟩
theorem we_no {need : Int} (h : inB need 0 8 = false) (R : List Nat) : weR R need = zR ∧ weC need = 2 := ⟨if_neg (by rw [h]; decide), if_neg (by rw [h]; decide)⟩
theorem wsR_ok (R : List Nat) (need : Int) : rok (wsR R need) := rubF_ok _
theorem weR_ok (R : List Nat) (need : Int) : rok (weR R need) := by
  unfold weR; split
  · exact wsR_ok R need
  · exact zR_ok

set_option maxHeartbeats 1000000 in
theorem l07Need_any (x : Int) (w : World) :
    Calls Tryd.prog 60 #[.int .i64 x] w fun e w' => e = .returned (.bool (inB x 0 8)) ∧ w = w' := by
  go_enter Tryd.func60, Tryd.ntmps60
  go_wp2_with (go_at_call 68; refine (l00In_any _ _ _ _).mono ?_; rintro e w' ⟨rfl, rfl⟩)
  go_ret
  exact ⟨rfl, rfl⟩

set_option maxRecDepth 100000 in
set_option maxHeartbeats 4000000 in
theorem specWearOnce_any (R : List Nat) (hR : rok R) (x : Int) (w : World) :
    Calls Tryd.prog 20 #[.agg (rwc R).toArray, .int .i64 x] w (RubBack (weR R x) (weC x) w) := by
  have hr := World.rangeAt_alloc (rangeAt_new w (rwc R) 24) (.cells #[.int .u16 0, .int .u16 0, .int .u16 0, .int .u16 0, .int .u16 0, .int .u16 0, .int .u16 0, .int .u16 0] 24)
  have ht : ((w.alloc (.cells (rwc R).toArray 24)).alloc (.cells #[.int .u16 0, .int .u16 0, .int .u16 0, .int .u16 0, .int .u16 0, .int .u16 0, .int .u16 0, .int .u16 0] 24)).there (w.heap.size + 1) 0 8 := there_newg (by simp) rfl
  have hb : Below w.heap.size w ((w.alloc (.cells (rwc R).toArray 24)).alloc (.cells #[.int .u16 0, .int .u16 0, .int .u16 0, .int .u16 0, .int .u16 0, .int .u16 0, .int .u16 0, .int .u16 0] 24)) := ((Below.refl _ _).alloc (Nat.le_refl _) _).alloc (by simp) _
  have s1 : w.heap.size + 1 < ((w.alloc (.cells (rwc R).toArray 24)).alloc (.cells #[.int .u16 0, .int .u16 0, .int .u16 0, .int .u16 0, .int .u16 0, .int .u16 0, .int .u16 0, .int .u16 0] 24)).heap.size := by simp
  have HM := hide (fun W h => l07Wear_any R hR w.heap.size x W h)
  cases h : inB x 0 8
  · rw [(we_no h R).1, (we_no h R).2]
    clear HM hr
    go_enter Tryd.func20, Tryd.ntmps20
    go_wp2_with fail
    generalize ((w.alloc (.cells (rwc R).toArray 24)).alloc (.cells #[.int .u16 0, .int .u16 0, .int .u16 0, .int .u16 0, .int .u16 0, .int .u16 0, .int .u16 0, .int .u16 0] 24)) = W0 at *
    refine (l07Need_any _ _).mono ?_
    rintro e w1 ⟨rfl, rfl⟩
    simp only [h]
    go_wp2_with (refine wpList_store_mid rfl 24 (.tmp 4) (.tmp 9) rfl (w.heap.size + 1) 0 (rwc zR).toArray rfl rfl ht (rub_info zR_ok.1) (rwc_one _) ?_)
    refine bodyPost_ret (results_midR rfl _ _ (w.heap.size + 1) 0 (rwc zR) _ rfl (World.rangeAt_setCells_same _ _ _ _ ht) Tryd.underlying24 rfl (rub_info' zR_ok.1)) rfl ⟨rfl, ?_⟩
    exact below_setCells _ _ _ _ hb (by omega)
  · rw [(we_yes h R).1, (we_yes h R).2]
    have HL := hide (wsR_ok R x).1
    go_enter Tryd.func20, Tryd.ntmps20
    go_wp2_with fail
    generalize ((w.alloc (.cells (rwc R).toArray 24)).alloc (.cells #[.int .u16 0, .int .u16 0, .int .u16 0, .int .u16 0, .int .u16 0, .int .u16 0, .int .u16 0, .int .u16 0] 24)) = W0 at *
    refine (l07Need_any _ _).mono ?_
    rintro e w1 ⟨rfl, rfl⟩
    simp only [h]
    generalize wsR R x = T at *
    go_wp2_with fail
    refine (HM.out _ hr).mono ?_
    rintro e w2 ⟨rfl, hb2⟩
    have ht2 : w2.there (w.heap.size + 1) 0 (rwc T).toArray.size := by simp only [List.size_toArray]; rw [rwc_length, HL.out]; exact there_below ht hb2 s1
    have hB := hb.trans (hb2.mono hb.size)
    clear hr ht hb2 hb
    go_wp2_with (refine wpList_store_mid rfl 24 (.tmp 4) (.tmp 11) rfl (w.heap.size + 1) 0 (rwc T).toArray rfl rfl ht2 (rub_info HL.out) (rwc_one _) ?_)
    refine bodyPost_ret (results_midR rfl _ _ (w.heap.size + 1) 0 (rwc T) _ rfl (World.rangeAt_setCells_same _ _ _ _ ht2) Tryd.underlying24 rfl (rub_info' HL.out)) rfl ⟨rfl, ?_⟩
    exact below_setCells _ _ _ _ hB (by omega)

theorem ersAt_one {w : World} {t : TypeId} (a : Er) : ErsAt (w.alloc (.cells #[erV a] t)) (w.alloc (.cells #[erV a] t)).heap.size (some ⟨w.heap.size, 0, none⟩) [a] := fun _ => by
  refine ⟨w.heap.size, 0, rfl, by simp, fun k x hx => ?_⟩
  have hr := rangeAt_new' w #[erV a] t
  match k with
  | 0 => obtain rfl : a = x := by simpa using hx
         exact hr 0 _ rfl
  | k + 1 => simp at hx

set_option maxRecDepth 100000 in
set_option maxHeartbeats 8000000 in
theorem implWearOnce_any (R : List Nat) (hR : rok R) (x : Int) (w : World) (hg : ErrT w) :
    Calls Tryd.prog 21 #[.agg (rwc R).toArray, .int .i64 x] w (RubBack (weR R x) (weC x) w) := by
  have HI := hide (rw_info hR.1)
  have hr := World.rangeAt_alloc (rangeAt_new w (rwc R) 24) (.cells #[.int .u16 0, .int .u16 0, .int .u16 0, .int .u16 0, .int .u16 0, .int .u16 0, .int .u16 0, .int .u16 0] 24)
  have ht : ((w.alloc (.cells (rwc R).toArray 24)).alloc (.cells #[.int .u16 0, .int .u16 0, .int .u16 0, .int .u16 0, .int .u16 0, .int .u16 0, .int .u16 0, .int .u16 0] 24)).there (w.heap.size + 1) 0 8 := there_newg (by simp) rfl
  have hb : Below w.heap.size w ((w.alloc (.cells (rwc R).toArray 24)).alloc (.cells #[.int .u16 0, .int .u16 0, .int .u16 0, .int .u16 0, .int .u16 0, .int .u16 0, .int .u16 0, .int .u16 0] 24)) := ((Below.refl _ _).alloc (Nat.le_refl _) _).alloc (by simp) _
  have s1 : w.heap.size + 1 < ((w.alloc (.cells (rwc R).toArray 24)).alloc (.cells #[.int .u16 0, .int .u16 0, .int .u16 0, .int .u16 0, .int .u16 0, .int .u16 0, .int .u16 0, .int .u16 0] 24)).heap.size := by simp
  have hg0 := hg.below hb
  have HM := hide (fun W => worn_any R hR x W)
  rw [wo_same hR] at HM
  clear hg hR
  cases h1 : inB x 0 8
  · rw [(we_no h1 R).1, (we_no h1 R).2]
    have HCD := hide (show erC [Er.R x] = 2 from rfl)
    go_enter Tryd.func21, Tryd.ntmps21
    go_wp2_with fail
    generalize ((w.alloc (.cells (rwc R).toArray 24)).alloc (.cells #[.int .u16 0, .int .u16 0, .int .u16 0, .int .u16 0, .int .u16 0, .int .u16 0, .int .u16 0, .int .u16 0] 24)) = W0 at *
    refine (rangeError_out x 0 8 h1 _).mono ?_
    rintro e w' ⟨rfl, rfl⟩
    go_wp2_with fail
    have hb2 : Below W0.heap.size W0 (W0.alloc (.cells #[.iface 147 (.int .i64 x)] 86)) := (Below.refl _ _).alloc (Nat.le_refl _) _
    have HC := hide (codeOf_any (some ⟨W0.heap.size, 0, none⟩) [Er.R x] 1 (W0.alloc (.cells #[.iface 147 (.int .i64 x)] 86)) (by simp) (ersAt_one (Er.R x)) (hg0.below hb2))
    rw [HCD.out] at HC
    refine HC.out.mono ?_
    rintro e w1 ⟨rfl, hb1⟩
    have hB1 := hb2.trans (hb1.mono hb2.size)
    have ht1 := there_below ht hB1 s1
    have hBB := hb.trans (hB1.mono hb.size)
    clear hb2 HC hg0 hr ht hB1 hb1 HCD
    go_wp2_with (refine wpList_store_mid rfl 24 (.tmp 4) (.tmp 13) rfl (w.heap.size + 1) 0 (rwc zR).toArray rfl rfl ht1 (rub_info zR_ok.1) (rwc_one _) ?_)
    refine bodyPost_ret (results_midR rfl _ _ (w.heap.size + 1) 0 (rwc zR) _ rfl (World.rangeAt_setCells_same _ _ _ _ ht1) Tryd.underlying24 rfl (rub_info' zR_ok.1)) rfl ⟨rfl, ?_⟩
    exact below_setCells _ _ _ _ hBB (by omega)
  · rw [(we_yes h1 R).1, (we_yes h1 R).2]
    have HCD := hide (show erC [Er.none] = 0 from rfl)
    have HL := hide (wsR_ok R x).1
    generalize wsR R x = T at *
    go_enter Tryd.func21, Tryd.ntmps21
    go_wp2_with fail
    generalize ((w.alloc (.cells (rwc R).toArray 24)).alloc (.cells #[.int .u16 0, .int .u16 0, .int .u16 0, .int .u16 0, .int .u16 0, .int .u16 0, .int .u16 0, .int .u16 0] 24)) = W0 at *
    refine (rangeError_in x 0 8 h1 _).mono ?_
    rintro e w' ⟨rfl, rfl⟩
    go_wp2_with fail
    have hb2 : Below W0.heap.size W0 (W0.alloc (.cells #[.nilIface] 86)) := (Below.refl _ _).alloc (Nat.le_refl _) _
    have HC := hide (codeOf_any (some ⟨W0.heap.size, 0, none⟩) [Er.none] 1 (W0.alloc (.cells #[.nilIface] 86)) (by simp) (ersAt_one Er.none) (hg0.below hb2))
    rw [HCD.out] at HC
    refine HC.out.mono ?_
    rintro e w1 ⟨rfl, hb1⟩
    have hB1 := hb2.trans (hb1.mono hb2.size)
    have hr1 := rangeAt_below hr hB1 (by omega)
    have ht1 := there_below ht hB1 s1
    have hBB := hb.trans (hB1.mono hb.size)
    have hz1 := hB1.size
    clear hb2 HC hg0 hr ht hB1 hb1 HCD
    go_wp2_with (refine wpList_load_mid rfl 24 (.tmp 2) rfl _ 0 rfl (rwc R) _ hr1 Tryd.underlying24 rfl HI.out ?_)
    refine (HM.out _).mono ?_
    rintro e w2 ⟨rfl, hb3⟩
    have ht2 : w2.there (w.heap.size + 1) 0 (rwc T).toArray.size := by simp only [List.size_toArray]; rw [rwc_length, HL.out]; exact there_below ht1 hb3 (by omega)
    have hB := hBB.trans (hb3.mono (by omega))
    clear hr1 ht1 hb3
    go_wp2_with (refine wpList_store_mid rfl 24 (.tmp 4) (.tmp 17) rfl (w.heap.size + 1) 0 (rwc T).toArray rfl rfl ht2 (rub_info HL.out) (rwc_one _) ?_)
    refine bodyPost_ret (results_midR rfl _ _ (w.heap.size + 1) 0 (rwc T) _ rfl (World.rangeAt_setCells_same _ _ _ _ ht2) Tryd.underlying24 rfl (rub_info' HL.out)) rfl ⟨rfl, ?_⟩
    exact below_setCells _ _ _ _ hB (by omega)
end Go.Proofs.YtcbijfbeapeliaaDoor
