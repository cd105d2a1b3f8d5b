/- Rubbings worn once, of the program. -/
import Derived.Test.YtjmkbdghenjlaaaDoorRbE
import Derived.Test.YtjmkbdghenjlaaaDoorRbH
import Derived.Test.YtjmkbdghenjlaaaDoorMvW
import Derived.Test.YtjmkbdghenjlaaaDoorFlat
namespace Go.Proofs.YtjmkbdghenjlaaaDoor
open Go Go.RowKit

theorem neq_move (a b : Int) (w : World) : (binOp .neq 144 (.agg #[.int .i64 a, .int .i64 b]) (.agg #[.int .i64 0, .int .i64 0])).run Tryd.prog w = .ok (.bool (!(a == 0 && b == 0))) w := by
  rw [run_neq_struct, run_equalIn_struct w 9999 _ _ _ (by kernel_rfl) (by kernel_rfl)]
  go_simp
  by_cases h1 : a = 0
  · by_cases h2 : b = 0
    · simp [h1, h2]
    · simp [h1, h2]
  · simp [h1]
def aroP (p : Pr) : Bool := !(p.1 == 0 && p.2 == 0)
def arL (R : List Nat) (k : Nat) : List (List Nat) := ((mvL 1 k).filter aroP).map (fun p => mvR R p.1 p.2)
theorem mvL1_succ {k : Nat} {p : Pr} (h : (mvL 1 9)[k]? = some p) : mvL 1 (k + 1) = mvL 1 k ++ [p] := by
  have hk : k < 9 := by have := (List.getElem?_eq_some_iff.1 h).1; rwa [mvL_len] at this
  rw [mvL_get hk] at h
  injection h with h
  unfold mvL
  rw [List.range_succ, List.map_append]
  simp only [List.map_cons, List.map_nil]
  rw [← h]
theorem arL_on {R : List Nat} {k : Nat} {p : Pr} (h : (mvL 1 9)[k]? = some p) (hp : aroP p = true) : arL R (k + 1) = arL R k ++ [mvR R p.1 p.2] := by
  unfold arL; rw [mvL1_succ h, List.filter_append]; simp [hp]
theorem arL_off {R : List Nat} {k : Nat} {p : Pr} (h : (mvL 1 9)[k]? = some p) (hp : aroP p = false) : arL R (k + 1) = arL R k := by
  unfold arL; rw [mvL1_succ h, List.filter_append]; simp [hp]
theorem arL_le (R : List Nat) (k : Nat) : (arL R k).length ≤ k := by
  unfold arL; rw [List.length_map]; exact Nat.le_trans (List.length_filter_le _ _) (by rw [mvL_len]; exact Nat.le_refl _)
theorem arL_ok (R : List Nat) (k : Nat) : ∀ T ∈ arL R k, rok T := fun T h => by
  obtain ⟨p, _, rfl⟩ := List.mem_map.1 h
  exact mvR_ok R p.1 p.2
theorem mvL1_bd {k : Nat} {p : Pr} (h : (mvL 1 9)[k]? = some p) : (-5 ≤ p.1 ∧ p.1 ≤ 5) ∧ -5 ≤ p.2 ∧ p.2 ≤ 5 := by
  have hk : k < 9 := by have := (List.getElem?_eq_some_iff.1 h).1; rwa [mvL_len] at this
  rw [mvL_get hk] at h
  injection h with h
  rw [← h]
  have h1 : k % 3 < 3 := Nat.mod_lt _ (by decide)
  have h2 : k / 3 < 3 := by omega
  simp only [Nat.reduceMul, Nat.reduceAdd]
  omega
theorem eight {T : List Nat} (h : T.length = 8) : ∃ t0 t1 t2 t3 t4 t5 t6 t7 : Nat, T = [t0, t1, t2, t3, t4, t5, t6, t7] := by
  match T, h with
  | [a, b, c, d, e, f, g, i], _ => exact ⟨a, b, c, d, e, f, g, i, rfl⟩
def rwc8 (R : List Nat) : List Value := (List.range 8).map (fun y => .int .u16 ((R.getD y 0 : Nat) : Int))
theorem rwc8_eq {R : List Nat} (h : R.length = 8) : rwc8 R = rwc R := by
  obtain ⟨t0, t1, t2, t3, t4, t5, t6, t7, rfl⟩ := eight h
  rfl
theorem rbs_of8 {w : World} {B : Nat} {A : Option Addr} {Rs : List (List Nat)} (hR : ∀ R ∈ Rs, rok R) (h : RowsAt 8 rwc8 w B A Rs) : RbsAt w B A Rs := fun hn => by
  obtain ⟨b, o, e, hb, hx⟩ := h hn
  exact ⟨b, o, e, hb, fun k x hk => by rw [← rwc8_eq (hR x (List.mem_of_getElem? hk)).1]; exact hx k x hk⟩
theorem flat8 {Rs : List (List Nat)} (hR : ∀ R ∈ Rs, rok R) : Rs.flatMap rwc = Rs.flatMap rwc8 := by
  induction Rs with
  | nil => rfl
  | cons a l ih =>
    rw [List.flatMap_cons, List.flatMap_cons, ih (fun R h => hR R (by simp [h])), rwc8_eq (hR a (by simp)).1]
theorem Tryd.infoRub : (Tryd.prog.info? 26).map (fun i => (i.zero, i.size, i.bytes)) = some (some (.agg #[.int .u16 0, .int .u16 0, .int .u16 0, .int .u16 0, .int .u16 0, .int .u16 0, .int .u16 0, .int .u16 0]), 8, 16) := by kernel_rfl
def woR (R : List Nat) (need : Int) : List Nat := cmnL R (dkIn (arL R 9) need)
theorem woR_ok {R : List Nat} (h : rok R) (need : Int) : rok (woR R need) := cmnL_ok h _

set_option maxRecDepth 100000 in
set_option maxHeartbeats 16000000 in
theorem worn_any (R : List Nat) (hR : rok R) (need : Int) (w : World) :
    Calls Tryd.prog 48 #[.agg (rwc R).toArray, .int .i64 need] w fun e w' => e = .returned (.agg (rwc (woR R need)).toArray) ∧ Below w.heap.size w w' := by
  obtain ⟨i0, hi0, hz0, hz1, hz2⟩ := info_parts Tryd.infoRub
  have HI := hide (rw_info hR.1)
  have hb0 : Below w.heap.size w ((w.alloc (.cells (rwc R).toArray 26)).alloc (.cells #[.int .u16 0, .int .u16 0, .int .u16 0, .int .u16 0, .int .u16 0, .int .u16 0, .int .u16 0, .int .u16 0] 26)) := ((Below.refl _ _).alloc (Nat.le_refl _) _).alloc (by simp) _
  have s0 : ((w.alloc (.cells (rwc R).toArray 26)).alloc (.cells #[.int .u16 0, .int .u16 0, .int .u16 0, .int .u16 0, .int .u16 0, .int .u16 0, .int .u16 0, .int .u16 0] 26)).heap.size = w.heap.size + 1 + 1 := by simp
  have r0 : ((w.alloc (.cells (rwc R).toArray 26)).alloc (.cells #[.int .u16 0, .int .u16 0, .int .u16 0, .int .u16 0, .int .u16 0, .int .u16 0, .int .u16 0, .int .u16 0] 26)).rangeAt w.heap.size 0 (rwc R) := World.rangeAt_alloc (rangeAt_new _ _ _) _
  have t0 : ((w.alloc (.cells (rwc R).toArray 26)).alloc (.cells #[.int .u16 0, .int .u16 0, .int .u16 0, .int .u16 0, .int .u16 0, .int .u16 0, .int .u16 0, .int .u16 0] 26)).there (w.heap.size + 1) 0 8 := there_newg (by simp) rfl
  have HM := hide (fun x y hx hy P W h => mover1_any R hR P x y hx hy W h)
  have HCM := hide (fun S hS W => common_any R S hR hS W)
  have HOK := hide (fun x y => (mvR_ok R x y).1)
  have HON := hide (fun (k : Nat) (p : Pr) h hp => @arL_on R k p h hp)
  have HOF := hide (fun (k : Nat) (p : Pr) h hp => @arL_off R k p h hp)
  have HLE := hide (arL_le R)
  have HAO := hide (arL_ok R 9)
  have HWO := hide (show woR R need = cmnL R (dkIn (arL R 9) need) from rfl)
  have HWK := hide (woR_ok hR need).1
  have HB0 := hide hb0
  clear hR hb0
  go_enter Tryd.func48, Tryd.ntmps48
  go_wp2_with fail
  generalize ((w.alloc (.cells (rwc R).toArray 26)).alloc (.cells #[.int .u16 0, .int .u16 0, .int .u16 0, .int .u16 0, .int .u16 0, .int .u16 0, .int .u16 0, .int .u16 0] 26)) = W0 at *
  refine (movesWithin_any 1 (by omega) W0).mono ?_
  rintro e w1 ⟨Am, cm, rfl, hIm, hb1⟩
  have HIM := hide hIm.at_
  have hr1 := rangeAt_below r0 hb1 (by omega)
  have ht1 := there_below t0 hb1 (by omega)
  have hB1 := HB0.out.trans (hb1.mono HB0.out.size)
  have z1 := hb1.size
  have hown0 := World.ownsRow_nil w1 w1.heap.size 26 8
  clear hIm hb1 r0 t0
  go_wp2
  go_loopw [5, 10] (fun br i wr => ∃ k : Nat, k ≤ 9 ∧ i = .int .i64 k ∧ wr.ownsRow w1.heap.size 26 8 br (arL R k).length ((arL R k).flatMap rwc) ∧ Below w1.heap.size w1 wr)
    (fun _ i _ => 9 - (intOf i).toNat)
  case atStart => exact ⟨0, by omega, rfl, hown0, Below.refl _ _⟩
  case round =>
    obtain ⟨k, hk, rfl, hown, hBw⟩ := hrel
    obtain ⟨Ab, cbb, rfl, hcap, _⟩ := cellsIn_of_own hown (by omega)
    have HOWN := hide hown
    clear hown
    have hbs := hBw.size
    have hln := HLE.out k
    by_cases hlt : k < 9
    · obtain ⟨p, hp⟩ : ∃ p, (mvL 1 9)[k]? = some p := ⟨(mvL 1 9)[k]'(by rw [mvL_len]; exact hlt), List.getElem?_eq_getElem _⟩
      obtain ⟨x, y⟩ := p
      obtain ⟨b, oo, rfl, hb, e0, e1⟩ := P2At.row HIM.out hp
      have c0 : wr.cell? ⟨b, oo + k * 2, none⟩ = some (.int .i64 x) := (hBw.cell (p := ⟨b, oo + k * 2, none⟩) hb).trans e0
      have c1 : wr.cell? ⟨b, oo + k * 2 + 1, none⟩ = some (.int .i64 y) := (hBw.cell (p := ⟨b, oo + k * 2 + 1, none⟩) hb).trans e1
      have HBD := hide (mvL1_bd hp)
      have hi : (k : Int) < 9 := by omega
      have h0 : (0 : Int) ≤ k := by omega
      have hq := neq_move x y
      have rA := rangeAt_new' wr #[.int .i64 x, .int .i64 y] 144
      have d0 : (wr.alloc (.cells #[.int .i64 x, .int .i64 y] 144)).cell? ⟨wr.heap.size, 0, none⟩ = some (.int .i64 x) := rA 0 _ rfl
      have d1 : (wr.alloc (.cells #[.int .i64 x, .int .i64 y] 144)).cell? ⟨wr.heap.size, 1, none⟩ = some (.int .i64 y) := rA 1 _ rfl
      have hBA : Below w1.heap.size w1 (wr.alloc (.cells #[.int .i64 x, .int .i64 y] 144)) := hBw.alloc hbs _
      cases ha : aroP (x, y)
      · have HE := hide (HOF.out k (x, y) hp ha)
        have hnq : (!(x == 0 && y == 0)) = false := ha
        simp only [hnq] at hq
        clear hp e0 e1 rA ha hnq
        go_wp2
        refine ⟨⟨k + 1, by omega, by go_num, ?_, hBA⟩, by simp [intOf]; omega⟩
        rw [HE.out]
        exact HOWN.out.alloc _
      · have HE := hide (HON.out k (x, y) hp ha)
        have hnq : (!(x == 0 && y == 0)) = true := ha
        simp only [hnq] at hq
        have HRA := hide rA
        have HMM := hide (HM.out x y HBD.out.1 HBD.out.2)
        have HL := hide (HOK.out x y)
        clear hp e0 e1 rA ha hnq HBD
        generalize mvR R x y = T at *
        obtain ⟨t0, t1, t2, t3, t4, t5, t6, t7, rfl⟩ := eight HL.out
        have hrwc : rwc [t0, t1, t2, t3, t4, t5, t6, t7] = [.int .u16 (t0 : Int), .int .u16 (t1 : Int), .int .u16 (t2 : Int), .int .u16 (t3 : Int), .int .u16 (t4 : Int), .int .u16 (t5 : Int), .int .u16 (t6 : Int), .int .u16 (t7 : Int)] := rfl
        have HRW8 := hide hrwc
        clear hrwc
        rw [HRW8.out] at HMM
        go_wp2
        have HS7 := hide (show (wr.alloc (.cells #[.int .i64 x, .int .i64 y] 144)).heap.size = wr.heap.size + 1 by simp)
        have HRW := hide (fun w' (h : Below w1.heap.size w1 w') => rangeAt_below hr1 h (by omega))
        have hown7 := HOWN.out.alloc (.cells #[.int .i64 x, .int .i64 y] 144)
        have HOWN7 := hide hown7
        clear d0 d1 hown7 hq
        generalize (wr.alloc (.cells #[.int .i64 x, .int .i64 y] 144)) = W7 at *
        refine wp_region_script [(0, true), (1, true), (3, true), (2, false), (4, false), (5, false), (6, false), (7, false)]
          (fun w' => Below w1.heap.size w1 w' ∧ w'.rangeAt wr.heap.size 0 [.int .i64 x, .int .i64 y]) (by kernel_rfl) (by kernel_rfl) (of_decide_eq_true (by kernel_rfl)) (by kernel_rfl) (fun _ _ d _ _ h => by cases d <;> exact h) (⟨hBA.drew, HRA.out⟩) ?_
        refine sc_take (.slice Ab (arL R k).length cbb) rfl (.inl ⟨rfl, fun w' h => rfl⟩) ?_
        simp only [List.getElem_toArray, List.getElem_cons_succ, List.getElem_cons_zero, Act.put, List.setIfInBounds_toArray, List.set_cons_zero, List.set_cons_succ]
        refine sc_take (.agg #[.int .i64 x, .int .i64 y]) rfl (yieldsIf_load_mid (by rfl) _ (.tmp 7) rfl _ 0 rfl [.int .i64 x, .int .i64 y] _ (fun w h => h.2) Tryd.underlying144 rfl (by kernel_rfl)) ?_
        simp only [List.getElem_toArray, List.getElem_cons_succ, List.getElem_cons_zero, Act.put, List.setIfInBounds_toArray, List.set_cons_zero, List.set_cons_succ]
        refine sc_take (.agg (rwc R).toArray) rfl (yieldsIf_load_mid (by rfl) _ (.tmp 2) rfl _ 0 rfl _ _ (fun w h => HRW.out w h.1) Tryd.underlying26 rfl HI.out) ?_
        simp only [List.getElem_toArray, List.getElem_cons_succ, List.getElem_cons_zero, Act.put, List.setIfInBounds_toArray, List.set_cons_zero, List.set_cons_succ]
        have hSd : Below W7.heap.size W7 W7.drew := (Below.refl _ _).drew
        refine sc_step rfl ?_
        go_wp2_with fail
        refine (mover_any _ _ _).mono ?_
        rintro e w2 ⟨rfl, hw2⟩
        have hx2 : Below W7.heap.size W7 w2 := by rw [hw2]; exact hSd.alloc (Nat.le_refl _) _
        have hp2 : w2.rangeAt W7.heap.size 0 [.int .i64 x, .int .i64 y] := by rw [hw2]; exact rangeAt_new' W7.drew #[.int .i64 x, .int .i64 y] 144
        have HCC := hide (HMM.out W7.heap.size w2 hp2)
        have hs2 : Below w1.heap.size w1 w2 ∧ w2.rangeAt wr.heap.size 0 [.int .i64 x, .int .i64 y] := ⟨hBA.trans (hx2.mono hBA.size), rangeAt_below HRA.out hx2 (by have := HS7.out; omega)⟩
        clear hw2 hp2
        go_wp2_with fail
        refine ⟨hs2, sc_step rfl ?_⟩
        go_wp2_with fail
        refine HCC.out.mono ?_
        rintro e w3 ⟨rfl, hb3⟩
        have hx3 := hx2.trans (hb3.mono hx2.size)
        have hs3 : Below w1.heap.size w1 w3 ∧ w3.rangeAt wr.heap.size 0 [.int .i64 x, .int .i64 y] := ⟨hBA.trans (hx3.mono hBA.size), rangeAt_below HRA.out hx3 (by have := HS7.out; omega)⟩
        clear hb3 HCC
        go_wp2_with fail
        refine ⟨hs3, sc_step rfl ?_⟩
        go_wp2_with fail
        have hx4 : Below W7.heap.size W7 (w3.alloc (.cells #[.int .u16 (t0 : Int), .int .u16 (t1 : Int), .int .u16 (t2 : Int), .int .u16 (t3 : Int), .int .u16 (t4 : Int), .int .u16 (t5 : Int), .int .u16 (t6 : Int), .int .u16 (t7 : Int)] 26)) := hx3.alloc hx3.size _
        have hs4 : Below w1.heap.size w1 (w3.alloc (.cells #[.int .u16 (t0 : Int), .int .u16 (t1 : Int), .int .u16 (t2 : Int), .int .u16 (t3 : Int), .int .u16 (t4 : Int), .int .u16 (t5 : Int), .int .u16 (t6 : Int), .int .u16 (t7 : Int)] 26)) ∧ (w3.alloc (.cells #[.int .u16 (t0 : Int), .int .u16 (t1 : Int), .int .u16 (t2 : Int), .int .u16 (t3 : Int), .int .u16 (t4 : Int), .int .u16 (t5 : Int), .int .u16 (t6 : Int), .int .u16 (t7 : Int)] 26)).rangeAt wr.heap.size 0 [.int .i64 x, .int .i64 y] := ⟨hBA.trans (hx4.mono hBA.size), rangeAt_below HRA.out hx4 (by have := HS7.out; omega)⟩
        refine ⟨hs4, sc_step rfl ?_⟩
        have hownd := own_go HOWN7.out hx4
        have hnews : ∀ (j : Nat) (u : Value), ([.int .u16 (t0 : Int), .int .u16 (t1 : Int), .int .u16 (t2 : Int), .int .u16 (t3 : Int), .int .u16 (t4 : Int), .int .u16 (t5 : Int), .int .u16 (t6 : Int), .int .u16 (t7 : Int)] : List Value)[j]? = some u → (w3.alloc (.cells #[.int .u16 (t0 : Int), .int .u16 (t1 : Int), .int .u16 (t2 : Int), .int .u16 (t3 : Int), .int .u16 (t4 : Int), .int .u16 (t5 : Int), .int .u16 (t6 : Int), .int .u16 (t7 : Int)] 26)).cell? ((⟨w3.heap.size, 0, none⟩ : Addr).add j) = some u := fun j u hu => by
          have := rangeAt_new' w3 #[.int .u16 (t0 : Int), .int .u16 (t1 : Int), .int .u16 (t2 : Int), .int .u16 (t3 : Int), .int .u16 (t4 : Int), .int .u16 (t5 : Int), .int .u16 (t6 : Int), .int .u16 (t7 : Int)] 26 j u hu
          rw [addr_add]; exact this
        have hone : ∀ u ∈ ([.int .u16 (t0 : Int), .int .u16 (t1 : Int), .int .u16 (t2 : Int), .int .u16 (t3 : Int), .int .u16 (t4 : Int), .int .u16 (t5 : Int), .int .u16 (t6 : Int), .int .u16 (t7 : Int)] : List Value), u.oneCell' = true := by
          intro u hu
          simp only [List.mem_cons, List.not_mem_nil, or_false] at hu
          rcases hu with rfl | rfl | rfl | rfl | rfl | rfl | rfl | rfl <;> rfl
        have hz3 := hx3.size
        have hz7 := HS7.out
        refine wpList_append_own _ rfl (.tmp 17) (.tmp 22) 29 rfl w1.heap.size 26 i0 (.agg #[.int .u16 0, .int .u16 0, .int .u16 0, .int .u16 0, .int .u16 0, .int .u16 0, .int .u16 0, .int .u16 0]) 8 16 Tryd.underlying29 hi0 hz0 hz1 hz2 rfl (by decide) _ (arL R k).length _ rfl hownd ⟨w3.heap.size, 0, none⟩ 1 1 [.int .u16 (t0 : Int), .int .u16 (t1 : Int), .int .u16 (t2 : Int), .int .u16 (t3 : Int), .int .u16 (t4 : Int), .int .u16 (t5 : Int), .int .u16 (t6 : Int), .int .u16 (t7 : Int)] rfl rfl hnews hone ?h1 ?h2 ?h3 ?_
        case h1 => unfold maxLen; omega
        case h2 => omega
        case h3 => exact hs4.1.size
        intro v' w4 hown4 hg4 _
        obtain ⟨A4, c4, rfl, _, _⟩ := cellsIn_of_own hown4 (by omega)
        have H4 := hide hown4
        have hlt9 : wr.heap.size < (w3.alloc (.cells #[.int .u16 (t0 : Int), .int .u16 (t1 : Int), .int .u16 (t2 : Int), .int .u16 (t3 : Int), .int .u16 (t4 : Int), .int .u16 (t5 : Int), .int .u16 (t6 : Int), .int .u16 (t7 : Int)] 26)).heap.size := by simp; omega
        have hS5 : Below w1.heap.size w1 w4 ∧ w4.rangeAt wr.heap.size 0 [.int .i64 x, .int .i64 y] := ⟨hs4.1.trans (grown_toBelow hg4 hs4.1.size (fun k hk => (hownd.lt k hk).1)), grown_row hg4 hs4.2 hlt9 (fun e => by have := (HOWN.out.lt _ e.symm).2; omega)⟩
        clear hown4 hg4
        go_wp2_with fail
        refine ⟨hS5, sc_step rfl ?_⟩
        go_wp2_with fail
        refine ⟨hS5, sc_nil ?_⟩
        go_wp2
        refine ⟨⟨k + 1, by omega, by go_num, ?_, hS5.1⟩, by simp [intOf]; omega⟩
        rw [HE.out, List.length_append, List.flatMap_append]
        exact H4.out
    · obtain rfl : k = 9 := by omega
      have hr9 := rangeAt_below hr1 hBw (by omega)
      have ht9 := there_below ht1 hBw (by omega)
      have hB9 := hB1.trans (hBw.mono (by omega))
      have hown8 := HOWN.out
      rw [flat8 HAO.out] at hown8
      obtain ⟨Ag, cg, ee, _, hI⟩ := rowsIn_of_own (c := rwc8) (z := 8) (fun a => by simp [rwc8]) (by omega) hown8 rfl
      injection ee with ee1 ee2 ee3
      subst ee1 ee3
      have HRB := hide (rbs_of8 HAO.out hI.at_)
      have HDI := hide (fun W h => darkIn_any Ab (arL R 9) cbb need W (by unfold maxLen; omega) HAO.out h)
      have HCO := hide (HCM.out (dkIn (arL R 9) need) (dkIn_ok _ _))
      rw [← HWO.out] at HCO
      have HRW := hide (fun w' (h : Below (w.heap.size + 1) wr w') => rangeAt_below hr9 h (by omega))
      clear hown8 hI hr1 ht1 hBw HCM HM HOK HON HOF
      generalize (arL R 9).length = n9 at *
      generalize dkIn (arL R 9) need = DK at *
      obtain ⟨WR, hWR⟩ : ∃ WR, woR R need = WR := ⟨_, rfl⟩
      have HWR := hide hWR
      rw [hWR] at HCO HWK
      clear hWR HWO
      go_wp2
      refine wp_region_script [(0, true), (1, true), (2, true), (3, false), (4, false), (5, false)]
        (fun w' => Below (w.heap.size + 1) wr w') (by kernel_rfl) (by kernel_rfl) (of_decide_eq_true (by kernel_rfl)) (by kernel_rfl) (fun _ _ d _ _ h => by cases d <;> exact h) ((Below.refl _ _).drew) ?_
      refine sc_take (.agg (rwc R).toArray) rfl (yieldsIf_load_mid (by rfl) _ (.tmp 2) rfl _ 0 rfl _ _ (fun w h => HRW.out w h) Tryd.underlying26 rfl HI.out) ?_
      simp only [List.getElem_toArray, List.getElem_cons_succ, List.getElem_cons_zero, Act.put, List.setIfInBounds_toArray, List.set_cons_zero, List.set_cons_succ]
      refine sc_take (.slice Ab n9 cbb) rfl (.inl ⟨rfl, fun w' h => rfl⟩) ?_
      simp only [List.getElem_toArray, List.getElem_cons_succ, List.getElem_cons_zero, Act.put, List.setIfInBounds_toArray, List.set_cons_zero, List.set_cons_succ]
      refine sc_take (.int .i64 need) rfl (.inl ⟨rfl, fun w' h => rfl⟩) ?_
      simp only [List.getElem_toArray, List.getElem_cons_succ, List.getElem_cons_zero, Act.put, List.setIfInBounds_toArray, List.set_cons_zero, List.set_cons_succ]
      refine sc_step rfl ?_
      go_wp2_with fail
      refine (HDI.out _ (HRB.out.go ((Below.refl _ _).drew))).mono ?_
      rintro e w2 ⟨rfl, hb2⟩
      have hx2 : Below wr.heap.size wr w2 := (Below.refl _ _).drew.trans hb2
      have hS2 : Below (w.heap.size + 1) wr w2 := hx2.mono (by omega)
      go_wp2_with fail
      refine ⟨hS2, sc_step rfl ?_⟩
      go_wp2_with fail
      refine (HCO.out _).mono ?_
      rintro e w3 ⟨rfl, hb3⟩
      have hx3 := hx2.trans (hb3.mono hx2.size)
      have hS3 : Below (w.heap.size + 1) wr w3 := hx3.mono (by omega)
      have ht3 : w3.there (w.heap.size + 1) 0 (rwc WR).toArray.size := by simp only [List.size_toArray]; rw [rwc_length, HWK.out]; exact there_below ht9 hx3 (by omega)
      have hB3 := hB9.trans (hx3.mono (by omega))
      clear hb2 hb3 hx2 hx3
      go_wp2_with fail
      refine ⟨hS3, sc_step rfl ?_⟩
      refine wpList_store_mid rfl 26 (.tmp 4) (.tmp 29) rfl (w.heap.size + 1) 0 (rwc WR).toArray rfl rfl ht3 (rub_info HWK.out) (rwc_one _) ?_
      go_wp2_with fail
      refine ⟨below_setCells _ _ _ _ hS3 (Nat.le_refl _), sc_nil ?_⟩
      go_wp2_with fail
      refine bodyPost_ret (results_mid rfl _ _ (w.heap.size + 1) 0 (rwc WR) _ rfl (World.rangeAt_setCells_same _ _ _ _ ht3) Tryd.underlying26 rfl (rub_info' HWK.out)) rfl ⟨by rw [HWR.out], ?_⟩
      exact below_setCells _ _ _ _ hB3 (by omega)
end Go.Proofs.YtjmkbdghenjlaaaDoor
