/- What holds of rubbings that are moved, mirrored, counted and read: data for FnRubbings. -/
import Derived.Test.YtngondeaeipcfaaDoorBmS
import Derived.Test.YtngondeaeipcfaaDoorRbF
import Derived.Test.YtngondeaeipcfaaDoorRdP
namespace Go.Proofs.YtngondeaeipcfaaDoor
open Go Go.RowKit

theorem length_le_of_nodup_sub : ∀ {l1 l2 : List Nat}, l1.Nodup → (∀ x ∈ l1, x ∈ l2) → l1.length ≤ l2.length
  | [], _, _, _ => Nat.zero_le _
  | a :: l, l2, hn, hs => by
    have ha := hs a (by simp)
    obtain ⟨h1, h2⟩ := List.nodup_cons.1 hn
    have hl : l.length ≤ (l2.erase a).length := length_le_of_nodup_sub h2 fun x hx => (List.mem_erase_of_ne (by intro e; subst e; exact h1 hx)).2 (hs x (by simp [hx]))
    rw [List.length_erase_of_mem ha] at hl
    have : 0 < l2.length := List.length_pos_of_mem ha
    simp only [List.length_cons]; omega
theorem countP_inj {n : Nat} {p q : Nat → Bool} (g : Nat → Nat) (h : ∀ i, i < n → p i = true → g i < n ∧ q (g i) = true)
    (hi : ∀ i j, i < n → j < n → p i = true → p j = true → g i = g j → i = j) : (List.range n).countP p ≤ (List.range n).countP q := by
  rw [List.countP_eq_length_filter, List.countP_eq_length_filter, ← List.length_map (f := g)]
  refine length_le_of_nodup_sub ?_ ?_
  · rw [List.nodup_iff_pairwise_ne, List.pairwise_map]
    have hnd : ((List.range n).filter p).Pairwise (· ≠ ·) := (List.nodup_range.filter p)
    refine hnd.imp_of_mem ?_
    intro a b ha hb hab e
    obtain ⟨ha1, ha2⟩ := List.mem_filter.1 ha
    obtain ⟨hb1, hb2⟩ := List.mem_filter.1 hb
    exact hab (hi a b (List.mem_range.1 ha1) (List.mem_range.1 hb1) ha2 hb2 e)
  · intro x hx
    obtain ⟨i, hi1, rfl⟩ := List.mem_map.1 hx
    obtain ⟨h1, h2⟩ := List.mem_filter.1 hi1
    obtain ⟨h3, h4⟩ := h i (List.mem_range.1 h1) h2
    exact List.mem_filter.2 ⟨List.mem_range.2 h3, h4⟩
theorem countP_same {p q : Nat → Bool} : ∀ {l : List Nat}, (∀ x ∈ l, p x = true → q x = true) → l.countP p = l.countP q → ∀ x ∈ l, p x = q x
  | [], _, _, x, hx => by simp at hx
  | a :: l, h, e, x, hx => by
    have hle : l.countP p ≤ l.countP q := List.countP_mono_left fun y hy => h y (by simp [hy])
    have ha := h a (by simp)
    rw [List.countP_cons, List.countP_cons] at e
    have h1 : l.countP p = l.countP q ∧ p a = q a := by
      cases hp : p a <;> cases hq : q a <;> simp [hp, hq] at e ha <;> first | exact ⟨e, rfl⟩ | omega
    rcases List.mem_cons.1 hx with rfl | hx
    · exact h1.2
    · exact countP_same (fun y hy => h y (by simp [hy])) h1.1 x hx
/-- The i-th dot of a rubbing. -/
def dkI (R : List Nat) (i : Nat) : Bool := (R.getD (i / 16) 0).testBit (i % 16)
theorem bitN_countP (n : Nat) : ∀ k, bitN n k = (List.range k).countP (fun i => n.testBit i)
  | 0 => rfl
  | k + 1 => by rw [bitN, bitN_countP n k, List.range_succ, List.countP_append]; cases h : n.testBit k <;> simp [h]
theorem cntN_countP (R : List Nat) : ∀ y, cntN R y = (List.range (16 * y)).countP (dkI R)
  | 0 => rfl
  | y + 1 => by
    rw [cntN, cntN_countP R y, bitN_countP, Nat.mul_succ, List.range_add, List.countP_append, List.countP_map]
    congr 1
    refine List.countP_congr fun x hx => ?_
    have hx := List.mem_range.1 hx
    simp only [Function.comp, dkI]
    rw [show (16 * y + x) / 16 = y by omega, show (16 * y + x) % 16 = x by omega]
theorem dkI_dk (R : List Nat) {i : Nat} (hi : i < 128) : dkI R i = dk R ((i % 16 : Nat) : Int) ((i / 16 : Nat) : Int) :=
  (dk_in (Nat.mod_lt _ (by decide)) (by omega)).symm
theorem dk_true {R : List Nat} {x y : Int} (h : dk R x y = true) : (0 ≤ x ∧ x ≤ 15) ∧ 0 ≤ y ∧ y ≤ 7 := by
  unfold dk at h
  simp only [Bool.and_eq_true] at h
  exact ⟨inB_true.1 h.1.1, inB_true.1 h.1.2⟩
theorem dk_dkI {R : List Nat} {x y : Int} (h : dk R x y = true) : 16 * y.toNat + x.toNat < 128 ∧ dkI R (16 * y.toNat + x.toNat) = true := by
  obtain ⟨h1, h2⟩ := dk_true h
  have hi : 16 * y.toNat + x.toNat < 128 := by omega
  refine ⟨hi, ?_⟩
  rw [dkI_dk _ hi, show (16 * y.toNat + x.toNat) % 16 = x.toNat by omega, show (16 * y.toNat + x.toNat) / 16 = y.toNat by omega]
  rw [show ((x.toNat : Nat) : Int) = x by omega, show ((y.toNat : Nat) : Int) = y by omega]
  exact h
/-- More dark dots, if each one has its own. -/
theorem cnt_inj {R S : List Nat} (gx gy : Int → Int) (h : ∀ x y, dk R x y = true → dk S (gx x) (gy y) = true) (hx : ∀ a b, gx a = gx b → a = b) (hy : ∀ a b, gy a = gy b → a = b) : cntN R 8 ≤ cntN S 8 := by
  rw [cntN_countP, cntN_countP]
  refine countP_inj (fun i => 16 * (gy ((i / 16 : Nat) : Int)).toNat + (gx ((i % 16 : Nat) : Int)).toNat) ?_ ?_
  · intro i hi hp
    rw [dkI_dk _ hi] at hp
    exact dk_dkI (h _ _ hp)
  · intro i j hi hj hp hq e
    rw [dkI_dk _ hi] at hp
    rw [dkI_dk _ hj] at hq
    obtain ⟨a1, a2⟩ := dk_true (h _ _ hp)
    obtain ⟨b1, b2⟩ := dk_true (h _ _ hq)
    have ex := hx ((i % 16 : Nat) : Int) ((j % 16 : Nat) : Int) (by omega)
    have ey := hy ((i / 16 : Nat) : Int) ((j / 16 : Nat) : Int) (by omega)
    omega
theorem dk_all {R S : List Nat} (hR : rok R) (hS : rok S) (h : ∀ x y, dk R x y = dk S x y) : R = S := by
  rw [rub_dk hR, rub_dk hS]
  exact rubF_congr fun x y _ _ => h x y
theorem dk_rub (f : Nat → Nat → Bool) (x y : Int) : dk (rubF f) x y = (inB x 0 15 && (inB y 0 7 && f x.toNat y.toNat)) := by
  cases h1 : inB x 0 15
  · rw [dk_offx h1]; rfl
  cases h2 : inB y 0 7
  · rw [dk_offy h2]; rfl
  have a1 := inB_true.1 h1
  have a2 := inB_true.1 h2
  have := dk_rubF (f := f) (x := x.toNat) (y := y.toNat) (by omega) (by omega)
  rw [show ((x.toNat : Nat) : Int) = x by omega, show ((y.toNat : Nat) : Int) = y by omega] at this
  rw [this]; simp
theorem dk_mv (R : List Nat) (dx dy x y : Int) : dk (mvR R dx dy) x y = (inB x 0 15 && (inB y 0 7 && dk R (x - dx) (y - dy))) := by
  unfold mvR
  rw [dk_rub]
  cases h1 : inB x 0 15
  · rfl
  cases h2 : inB y 0 7
  · rfl
  have a1 := inB_true.1 h1
  have a2 := inB_true.1 h2
  rw [show ((x.toNat : Nat) : Int) = x by omega, show ((y.toNat : Nat) : Int) = y by omega]
theorem dk_mir (R : List Nat) (x y : Int) : dk (mirR R) x y = (inB x 0 15 && (inB y 0 7 && dk R (15 - x) y)) := by
  unfold mirR
  rw [dk_rub]
  cases h1 : inB x 0 15
  · rfl
  cases h2 : inB y 0 7
  · rfl
  have a1 := inB_true.1 h1
  have a2 := inB_true.1 h2
  rw [show ((x.toNat : Nat) : Int) = x by omega, show ((y.toNat : Nat) : Int) = y by omega]
theorem cnt_mv (R : List Nat) (dx dy : Int) : cntN (mvR R dx dy) 8 ≤ cntN R 8 := by
  refine cnt_inj (fun x => x - dx) (fun y => y - dy) ?_ (fun a b h => by omega) (fun a b h => by omega)
  intro x y h
  rw [dk_mv] at h
  simp only [Bool.and_eq_true] at h
  exact h.2.2
theorem mirR_ok (R : List Nat) : rok (mirR R) := rubF_ok _
theorem mir_mir {R : List Nat} (h : rok R) : mirR (mirR R) = R := by
  refine dk_all (mirR_ok _) h fun x y => ?_
  rw [dk_mir, dk_mir]
  rw [show (15 : Int) - (15 - x) = x by omega]
  cases hd : dk R x y
  · simp
  · obtain ⟨h1, h2⟩ := dk_true hd
    rw [inB_true.2 h1, inB_true.2 h2, inB_true.2 (show 0 ≤ 15 - x ∧ 15 - x ≤ 15 by omega)]; rfl
theorem cnt_mir_le (R : List Nat) : cntN (mirR R) 8 ≤ cntN R 8 := by
  refine cnt_inj (fun x => 15 - x) (fun y => y) ?_ (fun a b h => by omega) (fun a b h => h)
  intro x y h
  rw [dk_mir] at h
  simp only [Bool.and_eq_true] at h
  exact h.2.2
theorem cnt_mir {R : List Nat} (h : rok R) : cntN (mirR R) 8 = cntN R 8 := by
  have h1 := cnt_mir_le R
  have h2 := cnt_mir_le (mirR R)
  rw [mir_mir h] at h2
  omega
theorem cmn_self {R : List Nat} (h : rok R) : cmnL R R = R := by
  apply List.ext_getElem
  · rw [cmnL_len, h.1]
  · intro i h1 h2
    simp only [cmnL, List.getElem_map, List.getElem_range, Nat.and_self]
    rw [List.getD_eq_getElem?_getD, List.getElem?_eq_getElem h2, Option.getD_some]
theorem mt_self {R : List Nat} (h : rok R) : mtN R R = cntN R 8 := by unfold mtN; rw [cmn_self h]
theorem dk_cmn (R S : List Nat) (x y : Int) : dk (cmnL R S) x y = (dk R x y && dk S x y) := by
  unfold dk
  cases h1 : inB x 0 15
  · rfl
  cases h2 : inB y 0 7
  · rfl
  have a2 := inB_true.1 h2
  rw [cmnL_get R S (by omega), Nat.testBit_and]; rfl
/-- Dark dots of one that are dark in the other. -/
theorem cmn_sub {R S : List Nat} (hR : rok R) (hS : rok S) (h : ∀ x y, dk S x y = true → dk R x y = true) : cmnL R S = S := by
  refine dk_all (cmnL_ok hR S) hS fun x y => ?_
  rw [dk_cmn]
  cases hd : dk S x y
  · simp
  · rw [h x y hd]; rfl
/-- Moved there and back. -/
def bkR (R : List Nat) (dx dy : Int) : List Nat := mvR (mvR R dx dy) (-dx) (-dy)
theorem mvR_ok' (R : List Nat) (dx dy : Int) : rok (mvR R dx dy) := rubF_ok _
theorem bkR_ok (R : List Nat) (dx dy : Int) : rok (bkR R dx dy) := rubF_ok _
theorem dk_bk (R : List Nat) (dx dy x y : Int) : dk (bkR R dx dy) x y = (dk R x y && (inB (x + dx) 0 15 && inB (y + dy) 0 7)) := by
  unfold bkR
  rw [dk_mv, dk_mv, show x - -dx = x + dx by omega, show y - -dy = y + dy by omega, show x + dx - dx = x by omega, show y + dy - dy = y by omega]
  cases hd : dk R x y
  · simp
  · obtain ⟨h1, h2⟩ := dk_true hd
    rw [inB_true.2 h1, inB_true.2 h2]; simp
theorem bk_worn {R : List Nat} (h : rok R) (dx dy : Int) : cmnL R (bkR R dx dy) = bkR R dx dy :=
  cmn_sub h (bkR_ok _ _ _) fun x y hd => by rw [dk_bk] at hd; simp only [Bool.and_eq_true] at hd; exact hd.1
theorem bk_mv (R : List Nat) (dx dy : Int) : mvR (bkR R dx dy) dx dy = mvR R dx dy := by
  refine dk_all (mvR_ok' _ _ _) (mvR_ok' _ _ _) fun x y => ?_
  rw [dk_mv, dk_mv, dk_bk, show x - dx + dx = x by omega, show y - dy + dy = y by omega]
  cases inB x 0 15 <;> cases inB y 0 7 <;> cases dk R (x - dx) (y - dy) <;> rfl
theorem bk_eq {R : List Nat} (h : rok R) (dx dy : Int) (hc : cntN (mvR R dx dy) 8 = cntN R 8) : bkR R dx dy = R := by
  have h1 := cnt_mv (bkR R dx dy) dx dy
  rw [bk_mv, hc] at h1
  have h2 : cntN (bkR R dx dy) 8 ≤ cntN R 8 := cnt_inj (fun x => x) (fun y => y) (fun x y hd => by rw [dk_bk] at hd; simp only [Bool.and_eq_true] at hd; exact hd.1) (fun _ _ h => h) (fun _ _ h => h)
  have h3 : cntN (bkR R dx dy) 8 = cntN R 8 := by omega
  rw [cntN_countP, cntN_countP] at h3
  have h4 := countP_same (p := dkI (bkR R dx dy)) (q := dkI R) (fun i hi hp => by
    have hi := List.mem_range.1 hi
    rw [dkI_dk _ hi, dk_bk] at hp
    rw [dkI_dk _ hi]
    simp only [Bool.and_eq_true] at hp; exact hp.1) h3
  refine dk_all (bkR_ok _ _ _) h fun x y => ?_
  cases hd : dk R x y
  · rw [dk_bk, hd]; rfl
  · obtain ⟨h5, h6⟩ := dk_dkI hd
    have h7 := h4 _ (List.mem_range.2 h5)
    rw [h6, dkI_dk _ h5] at h7
    obtain ⟨h8, h9⟩ := dk_true hd
    rw [show (16 * y.toNat + x.toNat) % 16 = x.toNat by omega, show (16 * y.toNat + x.toNat) / 16 = y.toNat by omega, show ((x.toNat : Nat) : Int) = x by omega, show ((y.toNat : Nat) : Int) = y by omega] at h7
    exact h7
theorem bitN_zero {n : Nat} (hn : n < 65536) : bitN n 16 = 0 ↔ n = 0 := by
  constructor
  · intro h
    rw [bitN_countP, List.countP_eq_zero] at h
    refine Nat.eq_of_testBit_eq fun j => ?_
    by_cases hj : j < 16
    · have := h j (List.mem_range.2 hj)
      simpa using this
    · rw [bit_lt hn (by omega)]; simp
  · rintro rfl
    rw [bitN_countP, List.countP_eq_zero]
    intro i _; simp
/-- What is read from a rubbing's text is the rubbing. -/
theorem rd_text {R : List Nat} (h : rok R) : rdR (rtT R 8) = R := by
  refine Eq.symm (rub_eq h fun x y hx hy => ?_)
  unfold rdF
  have hg : ∀ m, y < m → m ≤ 8 → (rtT R m)[y * 17 + x]? = some (rtD R x y) := by
    intro m
    induction m with
    | zero => intro h; omega
    | succ m ih =>
      intro h1 h2
      rw [rtT, List.append_assoc]
      by_cases e : y < m
      · rw [List.getElem?_append_left (by rw [rtT_len]; omega)]; exact ih e (by omega)
      · obtain rfl : y = m := by omega
        rw [List.getElem?_append_right (by rw [rtT_len]; omega), rtT_len, show y * 17 + x - 17 * y = x by omega, List.getElem?_append_left (by rw [rtW_len]; exact hx)]
        exact rtW_get R y 16 x hx
  rw [hg 8 hy (Nat.le_refl _)]
  unfold rtD
  cases (R.getD y 0).testBit x <;> rfl
/-- The best move is the first of the best. -/
theorem bm_best (f : Int → Int → Int) (hf : ∀ x y, 0 ≤ f x y ∧ f x y ≤ 128) : inM (bmV f).1 (bmV f).2.1 ∧ (bmV f).2.2 = f (bmV f).1 (bmV f).2.1 ∧
    ∀ x y, inM x y → f x y ≤ (bmV f).2.2 ∧ (f x y = (bmV f).2.2 → rkM (bmV f).1 (bmV f).2.1 ≤ rkM x y) := by
  rcases msO_best (mmL f 121) with ⟨e, _⟩ | ⟨q, hq, hm, hb⟩
  · have := mmL_len f 121; rw [e] at this; simp at this
  · have hv : bmV f = q := by unfold bmV; rw [hq]; rfl
    rw [hv]
    unfold mmL at hm
    obtain ⟨p, hp, rfl⟩ := List.mem_map.1 hm
    obtain ⟨k, hk⟩ := List.getElem?_of_mem hp
    have hin := mv5_bd hk
    refine ⟨hin, rfl, fun x y hxy => ?_⟩
    have h6 := hb (x, y, f x y) (by unfold mmL; exact List.mem_map.2 ⟨(x, y), mv5_mem hxy, rfl⟩)
    have h7 := rkM_bd hin
    have h8 := rkM_bd hxy
    unfold kyM at h6
    simp only at h6 ⊢
    omega
end Go.Proofs.YtngondeaeipcfaaDoor
