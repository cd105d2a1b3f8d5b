/- All moves within so much, of the program. · The best move: the data. -/
import Derived.Test.YtngondeaeipcfaaDoorPrD
import Derived.Test.YtngondeaeipcfaaDoorRbP

namespace Go.Proofs.YtngondeaeipcfaaDoor
open Go Go.RowKit

def mvL (m t : Nat) : List Pr := (List.range t).map (fun t => (((t % (2 * m + 1) : Nat) : Int) - m, ((t / (2 * m + 1) : Nat) : Int) - m))
theorem mvL_len (m t : Nat) : (mvL m t).length = t := by simp [mvL]
theorem mvL_next {m j i : Nat} (hi : i < 2 * m + 1) : mvL m (j * (2 * m + 1) + i + 1) = mvL m (j * (2 * m + 1) + i) ++ [((i : Int) - m, (j : Int) - m)] := by
  unfold mvL
  rw [List.range_succ, List.map_append]
  have e1 : (j * (2 * m + 1) + i) % (2 * m + 1) = i := by rw [Nat.mul_comm, Nat.mul_add_mod]; exact Nat.mod_eq_of_lt hi
  have e2 : (j * (2 * m + 1) + i) / (2 * m + 1) = j := by
    rw [Nat.mul_comm, Nat.mul_add_div (by omega), Nat.div_eq_of_lt hi]; rfl
  simp only [List.map_cons, List.map_nil, e1, e2]
theorem mvL_get {m t k : Nat} (h : k < t) : (mvL m t)[k]? = some (((k % (2 * m + 1) : Nat) : Int) - m, ((k / (2 * m + 1) : Nat) : Int) - m) := by
  simp [mvL, List.getElem?_range h]

theorem Tryd.infoMove : (Tryd.prog.info? 95).map (fun i => (i.zero, i.size, i.bytes)) = some (some (.agg #[.int .i64 0, .int .i64 0]), 2, 16) := by kernel_rfl

set_option maxRecDepth 100000 in
set_option maxHeartbeats 8000000 in
theorem movesWithin_any (m : Nat) (hm : m ≤ 5) (w : World) :
    Calls Tryd.prog 56 #[.int .i64 m] w fun e w' => ∃ A' c', e = .returned (.slice A' ((2 * m + 1) * (2 * m + 1)) c') ∧ P2In w' w.heap.size A' (mvL m ((2 * m + 1) * (2 * m + 1))) ∧ Below w.heap.size w w' := by
  obtain ⟨i0, hi0, hz0, hz1, hz2⟩ := info_parts Tryd.infoMove
  have HNX := hide (fun j i (hi : i < 2 * m + 1) => mvL_next (j := j) hi)
  have hw0 := IntWalk.i64_in (-(m : Int)) ⟨by omega, by omega⟩
  have HMU : Hid (∀ j, j < 2 * m + 1 → j * (2 * m + 1) + (2 * m + 1) ≤ 1000000) := hide (fun k hk => by
    have h1 : k ≤ 11 := by omega
    have h2 : k * (2 * m + 1) ≤ 11 * 11 := Nat.mul_le_mul h1 (by omega)
    omega)
  have HD : Hid (∀ j, (j + 1) * (2 * m + 1) = j * (2 * m + 1) + (2 * m + 1)) := hide (fun j => by rw [Nat.add_mul, Nat.one_mul])
  obtain ⟨D, hD⟩ : ∃ D, 2 * m + 1 = D := ⟨_, rfl⟩
  rw [hD] at HNX HMU HD ⊢
  have hD1 : (D : Int) = 2 * m + 1 := by omega
  clear hD
  go_enter Tryd.func56, Tryd.ntmps56
  go_wp2
  go_loopw [3, 4] (fun br i wr => ∃ j : Nat, j ≤ D ∧ i = .int .i64 ((j : Int) - m) ∧ wr.ownsRow w.heap.size 95 2 br (j * D) ((fl (mvL m (j * D))).map (.int .i64)) ∧ Below w.heap.size w wr)
    (fun _ i _ => D - (intOf i + m).toNat)
  case atStart => exact ⟨0, by omega, by simp, by rw [Nat.zero_mul]; exact World.ownsRow_nil _ _ _ _, Below.refl _ _⟩
  case round =>
    obtain ⟨j, hj, rfl, hown, hB⟩ := hrel
    obtain ⟨W1, hW1⟩ : ∃ W1, W1 = wr := ⟨_, rfl⟩
    subst hW1
    obtain ⟨Ab, cbb, rfl, hcap, _⟩ := cellsIn_of_own hown (by omega)
    have HOWN := hide hown
    clear hown
    have hbs := hB.size
    by_cases hlt : j < D
    · have hd : decide ((j : Int) - m ≤ (m : Int)) = true := by simp; omega
      have hd' : (j : Int) - m ≤ (m : Int) := by omega
      have hmu := HMU.out j hlt
      have hwj := IntWalk.i64_in ((j : Int) - m + 1) ⟨by omega, by omega⟩
      go_wp2
      go_loopw [3, 5] (fun br i wr => ∃ i' : Nat, i' ≤ D ∧ i = .int .i64 ((i' : Int) - m) ∧ wr.ownsRow w.heap.size 95 2 br (j * D + i') ((fl (mvL m (j * D + i'))).map (.int .i64)) ∧ Below w.heap.size w wr)
        (fun _ i _ => D - (intOf i + m).toNat)
      case atStart => exact ⟨0, by omega, by simp, HOWN.out, hB⟩
      case round =>
        clear HOWN hB hbs hcap
        obtain ⟨i', hi', rfl, hown, hB⟩ := hrel
        obtain ⟨Ac, ccc, rfl, hcap, _⟩ := cellsIn_of_own hown (by omega)
        have HOWN := hide hown
        clear hown
        have hbs := hB.size
        by_cases hlt2 : i' < D
        · have he : decide ((i' : Int) - m ≤ (m : Int)) = true := by simp; omega
          have he' : (i' : Int) - m ≤ (m : Int) := by omega
          have HPS := hide (HNX.out j i' hlt2)
          have hwi := IntWalk.i64_in ((i' : Int) - m + 1) ⟨by omega, by omega⟩
          go_wp2_with (at_builtin; refine wpList_append_own _ rfl (.tmp 20) (.tmp 24) 92 rfl w.heap.size 95 i0 (.agg #[.int .i64 0, .int .i64 0]) 2 16 Tryd.underlying92 hi0 hz0 hz1 hz2 rfl (by decide) _ (j * D + i') _ rfl (HOWN.out.alloc _) ⟨wr.heap.size, 0, none⟩ 1 1 [.int .i64 ((i' : Int) - m), .int .i64 ((j : Int) - m)] rfl rfl (two_cell _ _) (two_one rfl rfl) ?h1 ?h2 ?h3 ?_)
          case h1 => unfold maxLen; omega
          case h2 => omega
          case h3 => first | omega | (simp; omega) | simp
          intro v' w4 hown4 hg4 _
          obtain ⟨A4, c4, rfl, _, _⟩ := cellsIn_of_own hown4 (by omega)
          have H4 := hide hown4
          have hg34 : wr.grownBy w4 _ := grown_trans (World.grownBy_alloc wr _ _) hg4
          have hB4 := hB.trans (grown_toBelow hg34 (by omega) (fun k hk => (HOWN.out.lt k hk).1))
          clear hown4 hg4 hg34
          go_wp2
          refine ⟨⟨i' + 1, by omega, ?_, ?_, hB4⟩, ?_⟩
          · first | rfl | (congr 1; omega)
          · rw [← Nat.add_assoc, HPS.out, fl_app, List.map_append]
            exact H4.out
          · simp [intOf]; omega
        · obtain rfl : i' = D := by omega
          have he : decide ((i' : Int) - m ≤ (m : Int)) = false := by simp; omega
          have he' : ¬ ((i' : Int) - m ≤ (m : Int)) := by omega
          have HDD := hide (HD.out j)
          go_wp2
          refine ⟨⟨j + 1, by omega, ?_, ?_, hB⟩, ?_⟩
          · first | rfl | (congr 1; omega)
          · rw [HDD.out]; exact HOWN.out
          · simp [intOf]; omega
    · obtain rfl : j = D := by omega
      have hd : decide ((j : Int) - m ≤ (m : Int)) = false := by simp; omega
      have hd' : ¬ ((j : Int) - m ≤ (m : Int)) := by omega
      obtain ⟨Ag, cg, e, _, hI⟩ := p2In_of_own HOWN.out
      injection e with e1 e2 e3
      subst e1 e3
      have HI := hide hI
      clear hI
      go_wp2
      go_ret
      exact ⟨Ab, ⟨cbb, rfl⟩, HI.out, hB⟩
end Go.Proofs.YtngondeaeipcfaaDoor

namespace Go.Proofs.YtngondeaeipcfaaDoor
open Go Go.RowKit

def absM (d : Int) : Int := max d (-d)
abbrev Mm := Int × Int × Int
def inM (x y : Int) : Prop := (-5 ≤ x ∧ x ≤ 5) ∧ -5 ≤ y ∧ y ≤ 5
/-- Where a move stands: the smaller ones first, then by how much down, then by how much to the right. -/
def rkM (x y : Int) : Int := (absM x + absM y) * 121 + (y + 5) * 11 + (x + 5)
theorem absM_bd {x : Int} (h : -5 ≤ x ∧ x ≤ 5) : 0 ≤ absM x ∧ absM x ≤ 5 := by unfold absM; omega
theorem rkM_bd {x y : Int} (h : inM x y) : 0 ≤ rkM x y ∧ rkM x y < 1331 := by
  have h1 := absM_bd h.1
  have h2 := absM_bd h.2
  unfold rkM
  have := h.1; have := h.2
  omega
theorem rkM_at {x y : Int} (h : inM x y) {s y' x' : Int} (hs : 0 ≤ s) (hy : -5 ≤ y' ∧ y' ≤ 5) (hx : -5 ≤ x' ∧ x' ≤ 5) (e : rkM x y = s * 121 + (y' + 5) * 11 + (x' + 5)) : absM x + absM y = s ∧ y = y' ∧ x = x' := by
  have h1 := absM_bd h.1
  have h2 := absM_bd h.2
  have h3 := h.1; have h4 := h.2
  unfold rkM at e
  generalize absM x + absM y = q at *
  omega
def kyM (p : Mm) : Int := rkM p.1 p.2.1 - 2000 * p.2.2
def okM (p : Mm) : Prop := inM p.1 p.2.1 ∧ 0 ≤ p.2.2 ∧ p.2.2 ≤ 128
/-- One step to the first of the least. -/
def msS (o : Option Mm) (p : Mm) : Option Mm := match o with
  | none => some p
  | some q => if kyM p < kyM q then some p else some q
def msO (xs : List Mm) : Option Mm := xs.foldl msS none
theorem msO_app (xs : List Mm) (p : Mm) : msO (xs ++ [p]) = msS (msO xs) p := by simp [msO]
theorem msO_take {xs : List Mm} {k : Nat} {p : Mm} (h : xs[k]? = some p) : msO (xs.take (k + 1)) = msS (msO (xs.take k)) p := by
  rw [List.take_add_one, h]
  exact msO_app _ _
theorem msF (xs : List Mm) : ∀ q, ∃ b, xs.foldl msS (some q) = some b ∧ (b = q ∨ b ∈ xs) ∧ kyM b ≤ kyM q ∧ ∀ p ∈ xs, kyM b ≤ kyM p := by
  induction xs with
  | nil => exact fun q => ⟨q, rfl, .inl rfl, Int.le_refl _, by simp⟩
  | cons a l ih =>
    intro q
    rw [List.foldl_cons]
    by_cases hlt : kyM a < kyM q
    · obtain ⟨b, h1, h2, h3, h4⟩ := ih a
      have e : msS (some q) a = some a := by unfold msS; simp only [hlt, if_true]
      rw [e]
      refine ⟨b, h1, .inr ?_, by omega, fun p hp => ?_⟩
      · rcases h2 with rfl | h2
        · simp
        · simp [h2]
      · rcases List.mem_cons.1 hp with rfl | hp
        · exact h3
        · exact h4 p hp
    · obtain ⟨b, h1, h2, h3, h4⟩ := ih q
      have e : msS (some q) a = some q := by unfold msS; simp only [hlt, if_false]
      rw [e]
      refine ⟨b, h1, ?_, h3, fun p hp => ?_⟩
      · rcases h2 with rfl | h2
        · exact .inl rfl
        · exact .inr (by simp [h2])
      · rcases List.mem_cons.1 hp with rfl | hp
        · omega
        · exact h4 p hp
theorem msO_best (xs : List Mm) : (xs = [] ∧ msO xs = none) ∨ ∃ b, msO xs = some b ∧ b ∈ xs ∧ ∀ p ∈ xs, kyM b ≤ kyM p := by
  cases xs with
  | nil => exact .inl ⟨rfl, rfl⟩
  | cons a l =>
    obtain ⟨b, h1, h2, h3, h4⟩ := msF l a
    refine .inr ⟨b, h1, ?_, fun p hp => ?_⟩
    · rcases h2 with rfl | h2
      · simp
      · simp [h2]
    · rcases List.mem_cons.1 hp with rfl | hp
      · exact h3
      · exact h4 p hp
def mmL (f : Int → Int → Int) (k : Nat) : List Mm := (mvL 5 k).map (fun p => (p.1, p.2, f p.1 p.2))
theorem mmL_len (f : Int → Int → Int) (k : Nat) : (mmL f k).length = k := by unfold mmL; rw [List.length_map, mvL_len]
theorem mv5_bd {k : Nat} {p : Pr} (h : (mvL 5 121)[k]? = some p) : inM p.1 p.2 := by
  have hk : k < 121 := by have := (List.getElem?_eq_some_iff.1 h).1; rwa [mvL_len] at this
  rw [mvL_get hk] at h
  injection h with h
  rw [← h]
  have h1 : k % 11 < 11 := Nat.mod_lt _ (by decide)
  have h2 : k / 11 < 11 := by omega
  unfold inM
  simp only [Nat.reduceMul, Nat.reduceAdd]
  omega
theorem mv5_mem {x y : Int} (h : inM x y) : (x, y) ∈ mvL 5 121 := by
  obtain ⟨⟨h1, h2⟩, h3, h4⟩ := h
  have hk : (y + 5).toNat * 11 + (x + 5).toNat < 121 := by omega
  refine List.mem_of_getElem? (i := (y + 5).toNat * 11 + (x + 5).toNat) ?_
  rw [mvL_get hk]
  have e1 : ((y + 5).toNat * 11 + (x + 5).toNat) % 11 = (x + 5).toNat := by omega
  have e2 : ((y + 5).toNat * 11 + (x + 5).toNat) / 11 = (y + 5).toNat := by omega
  simp only [Nat.reduceMul, Nat.reduceAdd, e1, e2]
  congr 2 <;> omega
theorem mmL_succ (f : Int → Int → Int) {k : Nat} {p : Pr} (h : (mvL 5 121)[k]? = some p) : mmL f (k + 1) = mmL f k ++ [(p.1, p.2, f p.1 p.2)] := by
  have hk : k < 121 := by have := (List.getElem?_eq_some_iff.1 h).1; rwa [mvL_len] at this
  rw [mvL_get hk] at h
  injection h with h
  unfold mmL mvL
  rw [List.range_succ, List.map_append, List.map_append]
  simp only [List.map_cons, List.map_nil]
  rw [← h]
/-- The best move, and how many dots match. -/
def bmV (f : Int → Int → Int) : Mm := (msO (mmL f 121)).getD (0, 0, 0)
/-- What the search knows once it has seen all moves before the p-th. -/
def bmI (f : Int → Int → Int) (p : Int) (b : Mm) : Prop :=
  (b.2.2 = -1 ∧ ∀ x y, inM x y → p ≤ rkM x y) ∨ (inM b.1 b.2.1 ∧ rkM b.1 b.2.1 < p ∧ b.2.2 = f b.1 b.2.1 ∧ ∀ x y, inM x y → rkM x y < p → kyM b ≤ kyM (x, y, f x y))
theorem bmI_start (f : Int → Int → Int) (x y : Int) : bmI f 0 (x, y, -1) := .inl ⟨rfl, fun x y h => (rkM_bd h).1⟩
theorem bmI_pass {f : Int → Int → Int} {p : Int} {b : Mm} (h : bmI f p b) (hno : ∀ x y, inM x y → rkM x y ≠ p) : bmI f (p + 1) b := by
  rcases h with ⟨h1, h2⟩ | ⟨h1, h2, h3, h4⟩
  · exact .inl ⟨h1, fun x y hm => by have := h2 x y hm; have := hno x y hm; omega⟩
  · exact .inr ⟨h1, by omega, h3, fun x y hm hr => h4 x y hm (by have := hno x y hm; omega)⟩
theorem rkM_inj {x y x' y' : Int} (h : inM x y) (h' : inM x' y') (e : rkM x y = rkM x' y') : x = x' ∧ y = y' := by
  have h1 := absM_bd h'.1
  have h2 := absM_bd h'.2
  have := rkM_at h (s := absM x' + absM y') (by omega) h'.2 h'.1 (by rw [e]; rfl)
  exact ⟨this.2.2, this.2.1⟩
theorem bmI_take {f : Int → Int → Int} (hf : ∀ x y, 0 ≤ f x y ∧ f x y ≤ 128) {x y : Int} {b : Mm} (hm : inM x y) (h : bmI f (rkM x y) b) (hgt : b.2.2 < f x y) : bmI f (rkM x y + 1) (x, y, f x y) := by
  refine .inr ⟨hm, by show rkM x y < _; omega, rfl, fun x' y' hm' hr => ?_⟩
  have hb := rkM_bd hm
  have hb' := rkM_bd hm'
  by_cases e : rkM x' y' = rkM x y
  · obtain ⟨rfl, rfl⟩ := rkM_inj hm' hm e
    exact Int.le_refl _
  · rcases h with ⟨h1, h2⟩ | ⟨h1, h2, h3, h4⟩
    · have := h2 x' y' hm'; omega
    · have h5 := h4 x' y' hm' (by omega)
      have h6 := rkM_bd h1
      unfold kyM at h5 ⊢
      simp only at h5 ⊢
      omega
theorem bmI_keep {f : Int → Int → Int} (hf : ∀ x y, 0 ≤ f x y ∧ f x y ≤ 128) {x y : Int} {b : Mm} (hm : inM x y) (h : bmI f (rkM x y) b) (hgt : ¬ b.2.2 < f x y) : bmI f (rkM x y + 1) b := by
  rcases h with ⟨h1, h2⟩ | ⟨h1, h2, h3, h4⟩
  · have := (hf x y).1; omega
  · refine .inr ⟨h1, by omega, h3, fun x' y' hm' hr => ?_⟩
    by_cases e : rkM x' y' = rkM x y
    · obtain ⟨rfl, rfl⟩ := rkM_inj hm' hm e
      unfold kyM
      simp only
      omega
    · exact h4 x' y' hm' (by omega)
theorem bmI_end {f : Int → Int → Int} (hf : ∀ x y, 0 ≤ f x y ∧ f x y ≤ 128) {b : Mm} (h : bmI f 1331 b) : bmV f = b := by
  rcases msO_best (mmL f 121) with ⟨e, _⟩ | ⟨q, hq, hm, hb⟩
  · have := mmL_len f 121; rw [e] at this; simp at this
  · unfold bmV
    rw [hq]
    show q = b
    unfold mmL at hm
    obtain ⟨p, hp, rfl⟩ := List.mem_map.1 hm
    obtain ⟨k, hk⟩ := List.getElem?_of_mem hp
    have hin := mv5_bd hk
    rcases h with ⟨h1, h2⟩ | ⟨h1, h2, h3, h4⟩
    · have := h2 _ _ hin; have := rkM_bd hin; omega
    · have h5 := h4 _ _ hin (rkM_bd hin).2
      have h6 := hb (b.1, b.2.1, f b.1 b.2.1) (by unfold mmL; exact List.mem_map.2 ⟨(b.1, b.2.1), mv5_mem h1, rfl⟩)
      have h7 := rkM_bd hin
      have h8 := rkM_bd h1
      obtain ⟨b1, b2, b3⟩ := b
      simp only at h1 h3 h5 h6 h8
      subst h3
      unfold kyM at h5 h6
      simp only at h5 h6
      have e1 : rkM p.1 p.2 = rkM b1 b2 := by omega
      obtain ⟨e2, e3⟩ := rkM_inj hin h1 e1
      rw [← e2, ← e3]
end Go.Proofs.YtngondeaeipcfaaDoor
