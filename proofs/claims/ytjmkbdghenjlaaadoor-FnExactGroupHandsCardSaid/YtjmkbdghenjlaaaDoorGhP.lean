/- Groups of hands: the data. -/
import Derived.Test.YtjmkbdghenjlaaaDoorHnP
namespace Go.Proofs.YtjmkbdghenjlaaaDoor
open Go Go.RowKit

section
variable (near : Nat → Nat → Bool)
/-- What is reached from i through hands that have no group. -/
inductive RU (out : List Int) (i : Nat) : Nat → Prop where
  | base : RU out i i
  | step {a b : Nat} : RU out i a → b < out.length → out.getD b 0 = -1 → near a b = true → RU out i b
open Classical in
/-- They are put into group c. -/
noncomputable def sprd (out : List Int) (i : Nat) (c : Int) : List Int := (List.range out.length).map (fun j => if RU near out i j then c else out.getD j 0)
theorem sprd_len (out : List Int) (i : Nat) (c : Int) : (sprd near out i c).length = out.length := by simp [sprd]
theorem sprd_in {out : List Int} {i j : Nat} {c : Int} (hj : j < out.length) (h : RU near out i j) : (sprd near out i c).getD j 0 = c := by
  rw [List.getD_eq_getElem?_getD, sprd, List.getElem?_map, List.getElem?_range hj]
  simp [h]
theorem sprd_out {out : List Int} {i j : Nat} {c : Int} (hj : j < out.length) (h : ¬ RU near out i j) : (sprd near out i c).getD j 0 = out.getD j 0 := by
  rw [List.getD_eq_getElem?_getD, sprd, List.getElem?_map, List.getElem?_range hj]
  simp [h]
/-- Some of them have been put into it. -/
def Mid (out : List Int) (i : Nat) (c : Int) (cur : List Int) : Prop :=
  cur.length = out.length ∧ cur.getD i 0 = c ∧ ∀ j, j < out.length → cur.getD j 0 = out.getD j 0 ∨ (cur.getD j 0 = c ∧ RU near out i j)
theorem getD_set_same {xs : List Int} {i : Nat} {c : Int} (h : i < xs.length) : (xs.set i c).getD i 0 = c := by
  rw [List.getD_eq_getElem?_getD, List.getElem?_set_self h]; rfl
theorem getD_set_ne {xs : List Int} {i j : Nat} {c : Int} (h : i ≠ j) : (xs.set i c).getD j 0 = xs.getD j 0 := by
  rw [List.getD_eq_getElem?_getD, List.getElem?_set_ne h, List.getD_eq_getElem?_getD]
theorem mid_start {out : List Int} {i : Nat} {c : Int} (hi : i < out.length) : Mid near out i c (out.set i c) := by
  refine ⟨by simp, getD_set_same hi, fun j hj => ?_⟩
  by_cases e : i = j
  · subst e; exact .inr ⟨getD_set_same hi, .base⟩
  · exact .inl (getD_set_ne e)
theorem list_ext {xs ys : List Int} (hl : xs.length = ys.length) (h : ∀ j, j < xs.length → xs.getD j 0 = ys.getD j 0) : xs = ys := by
  refine List.ext_getElem hl fun j h1 h2 => ?_
  have := h j h1
  rw [List.getD_eq_getElem?_getD, List.getD_eq_getElem?_getD, List.getElem?_eq_getElem h1, List.getElem?_eq_getElem h2] at this
  exact this
theorem mid_end {out : List Int} {i : Nat} {c : Int} {cur : List Int} (hc : 0 ≤ c) (h : Mid near out i c cur) (hcl : ∀ a b, a < out.length → b < out.length → cur.getD a 0 = c → cur.getD b 0 = -1 → near a b = false) (hi : i < out.length) : cur = sprd near out i c := by
  obtain ⟨h1, h2, h3⟩ := h
  have hin : ∀ j, RU near out i j → j < out.length ∧ cur.getD j 0 = c := by
    intro j hj
    induction hj with
    | base => exact ⟨hi, h2⟩
    | @step a b _ hb ho hn ih =>
      refine ⟨hb, ?_⟩
      rcases h3 b hb with h | h
      · have := hcl a b ih.1 hb ih.2 (h.trans ho)
        rw [hn] at this; cases this
      · exact h.1
  refine list_ext (by rw [sprd_len, h1]) fun j hj => ?_
  rw [h1] at hj
  by_cases hr : RU near out i j
  · rw [sprd_in near hj hr, (hin j hr).2]
  · rw [sprd_out near hj hr]
    rcases h3 j hj with h | h
    · exact h
    · exact (hr h.2).elim
/-- How many have no group. -/
def noG (xs : List Int) : Nat := xs.countP (fun x => x == -1)
theorem noG_set {xs : List Int} {i : Nat} {c : Int} (hi : i < xs.length) (h : xs.getD i 0 = -1) (hc : 0 ≤ c) : noG (xs.set i c) < noG xs := by
  unfold noG
  induction xs generalizing i with
  | nil => simp at hi
  | cons a t ih =>
    cases i with
    | zero =>
      simp at h; subst h
      have : (c == -1) = false := by simp; omega
      simp [List.countP_cons, this]
    | succ i =>
      have := ih (i := i) (by simpa using hi) (by simpa using h)
      simp only [List.set_cons_succ, List.countP_cons]
      omega
theorem noG_le {xs ys : List Int} (hl : xs.length = ys.length) (h : ∀ j, j < xs.length → xs.getD j 0 = -1 → ys.getD j 0 = -1) : noG xs ≤ noG ys := by
  unfold noG
  induction xs generalizing ys with
  | nil => simp
  | cons a t ih =>
    cases ys with
    | nil => simp at hl
    | cons b u =>
      have ih' := ih (ys := u) (by simpa using hl) (fun j hj hx => by have := h (j + 1) (by simpa using hj) (by simpa using hx); simpa using this)
      have h0 := h 0 (by simp)
      simp only [List.getD_cons_zero] at h0
      simp only [List.countP_cons]
      by_cases e : a = -1
      · have := h0 e; subst this; subst e; omega
      · have e1 : (a == -1) = false := by simpa using e
        rw [e1]
        simp only [Bool.false_eq_true, if_false]
        omega
theorem mid_noG {out : List Int} {i : Nat} {c : Int} {cur : List Int} (hc : 0 ≤ c) (hi : i < out.length) (ho : out.getD i 0 = -1) (h : Mid near out i c cur) : noG cur < noG out := by
  refine Nat.lt_of_le_of_lt ?_ (noG_set hi ho hc)
  refine noG_le (by rw [h.1]; simp) fun j hj hx => ?_
  rw [h.1] at hj
  by_cases e : i = j
  · subst e; rw [h.2.1] at hx; omega
  · rw [getD_set_ne e]
    rcases h.2.2 j hj with h' | h'
    · rw [← h']; exact hx
    · rw [h'.1] at hx; omega
/-- The model: one more is put into the group. -/
theorem mid_set {out : List Int} {i : Nat} {c : Int} {cur : List Int} {a b : Nat} (hc : 0 ≤ c) (hlt : ∀ j, j < out.length → out.getD j 0 < c) (h : Mid near out i c cur) (ha : a < out.length) (hb : b < out.length) (hA : cur.getD a 0 = c) (hB : cur.getD b 0 = -1) (hn : near a b = true) : Mid near out i c (cur.set b c) ∧ noG (cur.set b c) < noG cur := by
  have hlb : b < cur.length := by rw [h.1]; exact hb
  refine ⟨⟨by rw [List.length_set, h.1], ?_, fun j hj => ?_⟩, noG_set hlb hB hc⟩
  · by_cases e : b = i
    · subst e; exact getD_set_same hlb
    · rw [getD_set_ne e]; exact h.2.1
  · by_cases e : b = j
    · subst e
      refine .inr ⟨getD_set_same hlb, ?_⟩
      have hra : RU near out i a := by
        rcases h.2.2 a ha with h' | h'
        · have := hlt a ha; rw [← h', hA] at this; omega
        · exact h'.2
      have hob : out.getD b 0 = -1 := by
        rcases h.2.2 b hb with h' | h'
        · rw [← h']; exact hB
        · rw [h'.1] at hB; omega
      exact .step hra hb hob hn
    · rw [getD_set_ne e]; exact h.2.2 j hj
/-- The program: what has been done so far, and what is closed. -/
def Clo (i : Nat) (c : Int) (k : Nat) (cur : List Int) : Prop :=
  (∀ a b, a < cur.length → b < cur.length → a ≠ i → cur.getD a 0 = c → cur.getD b 0 = -1 → near a b = false) ∧ ∀ b, b < k → b < cur.length → cur.getD b 0 = -1 → near i b = false
theorem clo_start {out : List Int} {i : Nat} {c : Int} (hlt : ∀ j, j < out.length → out.getD j 0 < c) : Clo near i c 0 (out.set i c) := by
  refine ⟨fun a b ha hb hne hA _ => ?_, fun b hb => by omega⟩
  rw [getD_set_ne (fun e => hne e.symm)] at hA
  have := hlt a (by simpa using ha)
  omega
theorem clo_skip {i : Nat} {c : Int} {k : Nat} {cur : List Int} (h : Clo near i c k cur) (hno : cur.getD k 0 = -1 → near i k = false) : Clo near i c (k + 1) cur := by
  refine ⟨h.1, fun b hb hl hx => ?_⟩
  by_cases e : b = k
  · subst e; exact hno hx
  · exact h.2 b (by omega) hl hx
theorem ru_mid {out : List Int} {i : Nat} {c : Int} {cur : List Int} {k j : Nat} (hc : 0 ≤ c) (h : Mid near out i c cur) (hk : k < out.length) (hK : cur.getD k 0 = -1) (hn : near i k = true) (hr : RU near cur k j) : RU near out i j := by
  have hom : ∀ b, b < out.length → cur.getD b 0 = -1 → out.getD b 0 = -1 := fun b hb hx => by
    rcases h.2.2 b hb with h' | h'
    · rw [← h']; exact hx
    · rw [h'.1] at hx; omega
  induction hr with
  | base => exact .step .base hk (hom k hk hK) hn
  | @step a b _ hb ho hn' ih => exact .step ih (by rw [← h.1]; exact hb) (hom b (by rw [← h.1]; exact hb) ho) hn'
theorem clo_go {out : List Int} {i : Nat} {c : Int} {k : Nat} {cur : List Int} (hc : 0 ≤ c) (h : Mid near out i c cur) (h2 : Clo near i c k cur) (hi : i < out.length) (hk : k < out.length) (hK : cur.getD k 0 = -1) (hn : near i k = true) : Mid near out i c (sprd near cur k c) ∧ Clo near i c (k + 1) (sprd near cur k c) := by
  have hl := h.1
  have hkc : k < cur.length := by rw [hl]; exact hk
  have hneg : ∀ b, b < cur.length → (sprd near cur k c).getD b 0 = -1 → ¬ RU near cur k b ∧ cur.getD b 0 = -1 := fun b hb hx => by
    by_cases hr : RU near cur k b
    · rw [sprd_in near hb hr] at hx; omega
    · rw [sprd_out near hb hr] at hx; exact ⟨hr, hx⟩
  refine ⟨⟨by rw [sprd_len, hl], ?_, fun j hj => ?_⟩, fun a b ha hb hne hA hB => ?_, fun b hb hbl hB => ?_⟩
  · by_cases hr : RU near cur k i
    · exact sprd_in near (by rw [hl]; exact hi) hr
    · rw [sprd_out near (by rw [hl]; exact hi) hr]; exact h.2.1
  · have hj' : j < cur.length := by rw [hl]; exact hj
    by_cases hr : RU near cur k j
    · exact .inr ⟨sprd_in near hj' hr, ru_mid near hc h hk hK hn hr⟩
    · rw [sprd_out near hj' hr]; exact h.2.2 j hj
  · rw [sprd_len] at ha hb
    obtain ⟨hnb, hcb⟩ := hneg b hb hB
    by_cases hr : RU near cur k a
    · cases hv : near a b
      · rfl
      · exact (hnb (.step hr hb hcb hv)).elim
    · rw [sprd_out near ha hr] at hA
      exact h2.1 a b ha hb hne hA hcb
  · rw [sprd_len] at hbl
    obtain ⟨hnb, hcb⟩ := hneg b hbl hB
    by_cases e : b = k
    · subst e; exact (hnb .base).elim
    · exact h2.2 b (by omega) hbl hcb
theorem clo_end {out : List Int} {i : Nat} {c : Int} {cur : List Int} (hc : 0 ≤ c) (h : Mid near out i c cur) (h2 : Clo near i c out.length cur) (hi : i < out.length) : cur = sprd near out i c := by
  refine mid_end near hc h (fun a b ha hb hA hB => ?_) hi
  by_cases e : a = i
  · subst e; exact h2.2 b hb (by rw [h.1]; exact hb) hB
  · exact h2.1 a b (by rw [h.1]; exact ha) (by rw [h.1]; exact hb) e hA hB
/-- The groups once the first k hands have one, and how many there are. -/
noncomputable def grpS (n : Nat) : Nat → List Int × Nat
  | 0 => (List.replicate n (-1), 0)
  | k + 1 => if (grpS n k).1.getD k 0 = -1 then (sprd near (grpS n k).1 k ((grpS n k).2 : Int), (grpS n k).2 + 1) else grpS n k
theorem grp_inv (n : Nat) : ∀ k, (grpS near n k).1.length = n ∧ (grpS near n k).2 ≤ k ∧ ∀ j, j < n → -1 ≤ (grpS near n k).1.getD j 0 ∧ (grpS near n k).1.getD j 0 < ((grpS near n k).2 : Int)
  | 0 => by
    refine ⟨by simp [grpS], by simp [grpS], fun j hj => ?_⟩
    have : (grpS near n 0).1.getD j 0 = -1 := by
      rw [grpS, List.getD_eq_getElem?_getD, List.getElem?_replicate, if_pos hj]; rfl
    rw [this]; simp [grpS]
  | k + 1 => by
    obtain ⟨h1, h2, h3⟩ := grp_inv n k
    unfold grpS
    split
    · refine ⟨by rw [sprd_len, h1], by simp only; omega, fun j hj => ?_⟩
      simp only
      have hj' : j < (grpS near n k).1.length := by rw [h1]; exact hj
      by_cases hr : RU near (grpS near n k).1 k j
      · rw [sprd_in near hj' hr]; omega
      · rw [sprd_out near hj' hr]; have := h3 j hj; omega
    · exact ⟨h1, by omega, h3⟩
theorem grp_new {n k : Nat} (h : (grpS near n k).1.getD k 0 = -1) : grpS near n (k + 1) = (sprd near (grpS near n k).1 k ((grpS near n k).2 : Int), (grpS near n k).2 + 1) := by rw [grpS, if_pos h]
theorem grp_old {n k : Nat} (h : ¬ (grpS near n k).1.getD k 0 = -1) : grpS near n (k + 1) = grpS near n k := by rw [grpS, if_neg h]
/-- A pass of the model over all pairs: what it has found before the pair (m, t). -/
def PassI (g : Int) (n : Nat) (cur cur' : List Int) (m t : Nat) (cb : Bool) : Prop :=
  noG cur' ≤ noG cur ∧ (cb = true → noG cur' < noG cur) ∧ (cb = false → cur' = cur ∧ ∀ a b, (a < m ∨ (a = m ∧ b < t)) → b < n → cur.getD a 0 = g → cur.getD b 0 = -1 → near a b = false)
theorem pass_start (g : Int) (n : Nat) (cur : List Int) : PassI near g n cur cur 0 0 false :=
  ⟨Nat.le_refl _, fun h => (by cases h), fun _ => ⟨rfl, fun a b h => by omega⟩⟩
theorem pass_keep {g : Int} {n : Nat} {cur cur' : List Int} {m t : Nat} {cb : Bool} (h : PassI near g n cur cur' m t cb) (hno : cur'.getD m 0 = g → cur'.getD t 0 = -1 → near m t = false) : PassI near g n cur cur' m (t + 1) cb := by
  refine ⟨h.1, h.2.1, fun hcb => ⟨(h.2.2 hcb).1, fun a b hab hb hA hB => ?_⟩⟩
  by_cases e : a = m ∧ b = t
  · obtain ⟨rfl, rfl⟩ := e
    rw [← (h.2.2 hcb).1] at hA hB
    exact hno hA hB
  · exact (h.2.2 hcb).2 a b (by omega) hb hA hB
theorem pass_row {g : Int} {n : Nat} {cur cur' : List Int} {m : Nat} {cb : Bool} (h : PassI near g n cur cur' m n cb) : PassI near g n cur cur' (m + 1) 0 cb :=
  ⟨h.1, h.2.1, fun hcb => ⟨(h.2.2 hcb).1, fun a b hab hb hA hB => (h.2.2 hcb).2 a b (by omega) hb hA hB⟩⟩
theorem pass_hit {g : Int} {n : Nat} {cur cur' cur2 : List Int} {m t : Nat} {cb : Bool} (h : PassI near g n cur cur' m t cb) (hlt : noG cur2 < noG cur') (m' t' : Nat) : PassI near g n cur cur2 m' t' true :=
  ⟨by have := h.1; omega, fun _ => by have := h.1; omega, fun e => by cases e⟩
theorem mid_bd {out : List Int} {i : Nat} {c : Int} {cur : List Int} (hc : 0 ≤ c) (h : Mid near out i c cur) (hlo : ∀ j, j < out.length → -1 ≤ out.getD j 0) {j : Nat} (hj : j < out.length) : -1 ≤ cur.getD j 0 := by
  rcases h.2.2 j hj with h' | h'
  · rw [h']; exact hlo j hj
  · rw [h'.1]; omega
end

/-- One hand is near another one. -/
def nearH (hs : List (List Int)) (lim : Int) (a b : Nat) : Bool := decide (apV (hs.getD a []) (hs.getD b []) ≤ lim)
theorem nearH_at {ls : List Iss} {lim : Int} {a b : Nat} {l l' : Iss} (h : ls[a]? = some l) (h' : ls[b]? = some l') : nearH (issD ls) lim a b = decide (apV l.2.1 l'.2.1 ≤ lim) := by
  unfold nearH; rw [issD_get h, issD_get h']
def ghC (hs : List (List Int)) (lim : Int) : Int := if hdC hs = 0 then (if lim < 0 then 2 else 0) else hdC hs
noncomputable def ghR (hs : List (List Int)) (lim : Int) : List Int := if ghC hs lim = 0 then (grpS (nearH hs lim) hs.length hs.length).1 else []
theorem hdC_zero {hs : List (List Int)} (h : hdC hs = 0) : allH hs = true ∧ hs.length ≤ 8 := by
  unfold hdC at h
  split at h
  · rename_i h1
    split at h
    · cases h
    · exact ⟨h1, by omega⟩
  · cases h
theorem gh_no {hs : List (List Int)} {lim : Int} (h : ghC hs lim ≠ 0) : ghR hs lim = [] := if_neg h
theorem gh_ok {hs : List (List Int)} {lim : Int} (h : ghC hs lim = 0) : ghR hs lim = (grpS (nearH hs lim) hs.length hs.length).1 := if_pos h

/-- A list of groups in a block of the call's own. -/
def OutA (W : World) (G : Nat) (xs : List Int) : Prop := W.there G 0 xs.length ∧ ∀ j x, xs[j]? = some x → W.cell? ⟨G, j, none⟩ = some (.int .i64 x)
theorem OutA.get {W : World} {G : Nat} {xs : List Int} (h : OutA W G xs) {j : Nat} (hj : j < xs.length) : W.cell? ⟨G, j, none⟩ = some (.int .i64 (xs.getD j 0)) := by
  refine h.2 j _ ?_
  rw [List.getD_eq_getElem?_getD, List.getElem?_eq_getElem hj]; rfl
theorem OutA.set {W : World} {G : Nat} {xs : List Int} (h : OutA W G xs) {j : Nat} (hj : j < xs.length) (c : Int) : OutA (W.setCell ⟨G, j, none⟩ (.int .i64 c)) G (xs.set j c) := by
  refine ⟨by rw [List.length_set]; exact there_set h.1 _ _, fun i x hx => ?_⟩
  by_cases e : i = j
  · subst e
    rw [List.getElem?_set_self hj] at hx
    injection hx with hx
    subst hx
    rw [World.cell?_setCell_same' _ _ _ (by rw [h.get hj]; rfl)]
  · rw [List.getElem?_set_ne (fun h => e h.symm)] at hx
    rw [World.cell?_setCell_other _ _ _ _ (by intro h; injection h with _ h; exact e h.symm)]
    exact h.2 i x hx
theorem OutA.below {W W' : World} {G B : Nat} {xs : List Int} (h : OutA W G xs) (hb : Below B W W') (hG : G < B) : OutA W' G xs :=
  ⟨there_below h.1 hb hG, fun j x hx => (hb.cell (p := ⟨G, j, none⟩) hG).trans (h.2 j x hx)⟩
theorem OutA.at_ {W : World} {G : Nat} {xs : List Int} (h : OutA W G xs) (hG : G < W.heap.size) : IntsIn W G (some ⟨G, 0, none⟩) xs := fun _ =>
  ⟨G, 0, rfl, Nat.le_refl _, hG, fun k x hx => by rw [Nat.zero_add]; exact h.2 k x hx, h.1⟩
open Classical in
/-- How many have no group, as the world has it. -/
noncomputable def noGW (W : World) (G n : Nat) : Nat := (List.range n).countP (fun j => decide (W.cell? ⟨G, j, none⟩ = some (.int .i64 (-1))))
theorem OutA.noG {W : World} {G : Nat} {xs : List Int} (h : OutA W G xs) : noGW W G xs.length = noG xs := by
  have e : xs = (List.range xs.length).map (fun j => xs.getD j 0) := list_ext (by simp) fun j hj => by
    rw [List.getD_eq_getElem?_getD (l := (List.range xs.length).map _), List.getElem?_map, List.getElem?_range hj]; rfl
  unfold noGW Proofs.YtjmkbdghenjlaaaDoor.noG
  conv => rhs; rw [e]
  rw [List.countP_map]
  refine List.countP_congr fun j hj => ?_
  rw [h.get (List.mem_range.1 hj)]
  simp
def mch : Value → Nat
  | .bool true => 1
  | _ => 0
end Go.Proofs.YtjmkbdghenjlaaaDoor
