/- Rubbings worn once, with the code, of both. -/
import Derived.Test.YtjmkbdghenjlaaaDoorWoI
import Derived.Test.YtjmkbdghenjlaaaDoorWoS
namespace Go.Proofs.YtjmkbdghenjlaaaDoor
open Go Go.RowKit

theorem mv_dot {R : List Nat} {dx dy : Int} {x y : Nat} (hx : x < 16) (hy : y < 8) : ((mvR R dx dy).getD y 0).testBit x = dk R ((x : Int) - dx) ((y : Int) - dy) := by
  unfold mvR
  rw [rubF_get _ hy, rowF_bit]; simp [hx]
theorem arL9 (R : List Nat) : arL R 9 = [mvR R (-1) (-1), mvR R 0 (-1), mvR R 1 (-1), mvR R (-1) 0, mvR R 1 0, mvR R (-1) 1, mvR R 0 1, mvR R 1 1] := by
  have e : (mvL 1 9).filter aroP = [(-1, -1), (0, -1), (1, -1), (-1, 0), (1, 0), (-1, 1), (0, 1), (1, 1)] := by decide
  unfold arL; rw [e]; rfl
theorem around_cnt {R : List Nat} {x y : Nat} (hx : x < 16) (hy : y < 8) (h : dk R (x : Int) (y : Int) = true) : ((cntD (arL R 9) x y (arL R 9).length : Nat) : Int) = ((nbN R (x : Int) (y : Int) 9 : Nat) : Int) - 1 := by
  rw [arL9]
  simp only [List.length_cons, List.length_nil, cntD, List.getD_cons_zero, List.getD_cons_succ, Nat.zero_add, mv_dot hx hy]
  have a1 : (x : Int) - -1 = x + 1 := by omega
  have a2 : (y : Int) - -1 = y + 1 := by omega
  simp only [nbN, Nat.reduceMod, Nat.reduceDiv]
  have b0 : ∀ z : Int, z + (((0 : Nat) : Int) - 1) = z - 1 := fun z => by omega
  have b1 : ∀ z : Int, z + (((1 : Nat) : Int) - 1) = z := fun z => by omega
  have b2 : ∀ z : Int, z + (((2 : Nat) : Int) - 1) = z + 1 := fun z => by omega
  simp only [b0, b1, b2, a1, a2, Int.sub_zero, h]
  generalize (dk R ((x : Int) + 1) ((y : Int) + 1)).toNat = c1
  generalize (dk R (x : Int) ((y : Int) + 1)).toNat = c2
  generalize (dk R ((x : Int) - 1) ((y : Int) + 1)).toNat = c3
  generalize (dk R ((x : Int) + 1) (y : Int)).toNat = c4
  generalize (dk R ((x : Int) - 1) (y : Int)).toNat = c5
  generalize (dk R ((x : Int) + 1) ((y : Int) - 1)).toNat = c6
  generalize (dk R (x : Int) ((y : Int) - 1)).toNat = c7
  generalize (dk R ((x : Int) - 1) ((y : Int) - 1)).toNat = c8
  simp only [Bool.toNat_true]
  omega
theorem wo_same {R : List Nat} (hR : rok R) (need : Int) : woR R need = wsR R need := by
  unfold wsR
  refine rub_eq (woR_ok hR need) fun x y hx hy => ?_
  unfold woR dkIn
  rw [cmnL_get _ _ hy, Nat.testBit_and, rubF_get _ hy, rowF_bit]
  have hd := dk_in (R := R) hx hy
  unfold wsF dkB
  rw [hd]
  cases hb : (R.getD y 0).testBit x
  · simp
  · rw [around_cnt hx hy (by rw [hd, hb])]; simp [hx]

def weR (R : List Nat) (need : Int) : List Nat := if inB need 0 8 = true then wsR R need else zR
def weC (need : Int) : Int := if inB need 0 8 = true then 0 else 2
theorem we_yes {need : Int} (h : inB need 0 8 = true) (R : List Nat) : weR R need = wsR R need ∧ weC need = 0 := ⟨if_pos h, if_pos h⟩
theorem we_no {need : Int} (h : inB need 0 8 = false) (R : List Nat) : weR R need = zR ∧ weC need = 2 := ⟨if_neg (by rw [h]; decide), if_neg (by rw [h]; decide)⟩
theorem wsR_ok (R : List Nat) (need : Int) : rok (wsR R need) := rubF_ok _
theorem weR_ok (R : List Nat) (need : Int) : rok (weR R need) := by
  unfold weR; split
  · exact wsR_ok R need
  · exact zR_ok

set_option maxHeartbeats 1000000 in
theorem l07Need_any (x : Int) (w : World) :
    Calls Tryd.prog 44 #[.int .i64 x] w fun e w' => e = .returned (.bool (inB x 0 8)) ∧ w = w' := by
  go_enter Tryd.func44, Tryd.ntmps44
  go_wp2_with (go_at_call 38; refine (l00In_any _ _ _ _).mono ?_; rintro e w' ⟨rfl, rfl⟩)
  go_ret
  exact ⟨rfl, rfl⟩

theorem ersAt_one {w : World} {t : TypeId} (a : Er) : ErsAt (w.alloc (.cells #[erV a] t)) (w.alloc (.cells #[erV a] t)).heap.size (some ⟨w.heap.size, 0, none⟩) [a] := fun _ => by
  refine ⟨w.heap.size, 0, rfl, by simp, fun k x hx => ?_⟩
  have hr := rangeAt_new' w #[erV a] t
  match k with
  | 0 => obtain rfl : a = x := by simpa using hx
         exact hr 0 _ rfl
  | k + 1 => simp at hx

end Go.Proofs.YtjmkbdghenjlaaaDoor
