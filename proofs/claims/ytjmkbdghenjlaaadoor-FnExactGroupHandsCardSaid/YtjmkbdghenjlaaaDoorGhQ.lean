/- Groups of hands: the program's search, as data. -/
import Derived.Test.YtjmkbdghenjlaaaDoorGhP
import Derived.Test.YtjmkbdghenjlaaaDoorHnI
namespace Go.Proofs.YtjmkbdghenjlaaaDoor
open Go Go.RowKit

section
variable (near : Nat → Nat → Bool)
theorem ru_new {out : List Int} {i j : Nat} (h : RU near out i j) : j = i ∨ out.getD j 0 = -1 := by
  cases h with
  | base => exact .inl rfl
  | step _ _ ho _ => exact .inr ho
theorem mid_end2 {out : List Int} {i : Nat} {c : Int} {cur : List Int} (h : Mid near out i c cur) (hcl : ∀ a b, (a = i ∨ out.getD a 0 = -1) → a < out.length → b < out.length → cur.getD a 0 = c → cur.getD b 0 = -1 → near a b = false) (hi : i < out.length) : cur = sprd near out i c := by
  obtain ⟨h1, h2, h3⟩ := h
  have hin : ∀ j, RU near out i j → j < out.length ∧ cur.getD j 0 = c := by
    intro j hj
    induction hj with
    | base => exact ⟨hi, h2⟩
    | @step a b ha hb ho hn ih =>
      refine ⟨hb, ?_⟩
      rcases h3 b hb with h | h
      · have := hcl a b (ru_new near ha) ih.1 hb ih.2 (h.trans ho)
        rw [hn] at this; cases this
      · exact h.1
  refine list_ext (by rw [sprd_len, h1]) fun j hj => ?_
  rw [h1] at hj
  by_cases hr : RU near out i j
  · rw [sprd_in near hj hr, (hin j hr).2]
  · rw [sprd_out near hj hr]
    rcases h3 j hj with h | h
    · exact h
    · exact (hr h.2).elim
/-- What is closed: all that is new but i itself; of i its first k neighbours. -/
def CloP (out : List Int) (i : Nat) (c : Int) (k : Nat) (cur : List Int) : Prop :=
  (∀ a b, a < cur.length → b < cur.length → a ≠ i → out.getD a 0 = -1 → cur.getD a 0 = c → cur.getD b 0 = -1 → near a b = false) ∧ ∀ b, b < k → b < cur.length → cur.getD b 0 = -1 → near i b = false
theorem cloP_start {out : List Int} {i : Nat} {c : Int} (hc : 0 ≤ c) : CloP near out i c 0 (out.set i c) := by
  refine ⟨fun a b ha hb hne ho hA _ => ?_, fun b hb => by omega⟩
  rw [getD_set_ne (fun e => hne e.symm), ho] at hA
  omega
theorem cloP_skip {out : List Int} {i : Nat} {c : Int} {k : Nat} {cur : List Int} (h : CloP near out i c k cur) (hno : cur.getD k 0 = -1 → near i k = false) : CloP near out i c (k + 1) cur := by
  refine ⟨h.1, fun b hb hl hx => ?_⟩
  by_cases e : b = k
  · subst e; exact hno hx
  · exact h.2 b (by omega) hl hx
theorem cloP_go {out : List Int} {i : Nat} {c : Int} {k : Nat} {cur : List Int} (hc : 0 ≤ c) (h : Mid near out i c cur) (h2 : CloP near out i c k cur) (hi : i < out.length) (hk : k < out.length) (hK : cur.getD k 0 = -1) (hn : near i k = true) : Mid near out i c (sprd near cur k c) ∧ CloP near out i c (k + 1) (sprd near cur k c) := by
  have hl := h.1
  have hneg : ∀ b, b < cur.length → (sprd near cur k c).getD b 0 = -1 → ¬ RU near cur k b ∧ cur.getD b 0 = -1 := fun b hb hx => by
    by_cases hr : RU near cur k b
    · rw [sprd_in near hb hr] at hx; omega
    · rw [sprd_out near hb hr] at hx; exact ⟨hr, hx⟩
  refine ⟨⟨by rw [sprd_len, hl], ?_, fun j hj => ?_⟩, fun a b ha hb hne ho hA hB => ?_, fun b hb hbl hB => ?_⟩
  · by_cases hr : RU near cur k i
    · exact sprd_in near (by rw [hl]; exact hi) hr
    · rw [sprd_out near (by rw [hl]; exact hi) hr]; exact h.2.1
  · have hj' : j < cur.length := by rw [hl]; exact hj
    by_cases hr : RU near cur k j
    · exact .inr ⟨sprd_in near hj' hr, ru_mid near hc h hk hK hn hr⟩
    · rw [sprd_out near hj' hr]; exact h.2.2 j hj
  · rw [sprd_len] at ha hb
    obtain ⟨hnb, hcb⟩ := hneg b hb hB
    by_cases hr : RU near cur k a
    · cases hv : near a b
      · rfl
      · exact (hnb (.step hr hb hcb hv)).elim
    · rw [sprd_out near ha hr] at hA
      exact h2.1 a b ha hb hne ho hA hcb
  · rw [sprd_len] at hbl
    obtain ⟨hnb, hcb⟩ := hneg b hbl hB
    by_cases e : b = k
    · subst e; exact (hnb .base).elim
    · exact h2.2 b (by omega) hbl hcb
theorem cloP_end {out : List Int} {i : Nat} {c : Int} {cur : List Int} (h : Mid near out i c cur) (h2 : CloP near out i c out.length cur) (hi : i < out.length) : cur = sprd near out i c := by
  refine mid_end2 near h (fun a b hab ha hb hA hB => ?_) hi
  by_cases e : a = i
  · subst e; exact h2.2 b hb (by rw [h.1]; exact hb) hB
  · exact h2.1 a b (by rw [h.1]; exact ha) (by rw [h.1]; exact hb) e (hab.resolve_left e) hA hB
end

/-- What the search reads and never changes. -/
def StG (ls : List Iss) (n : Nat) (lim : Int) (G pG pH pL pF B0 : Nat) (Ah : Option Addr) (ch : Nat) (W : World) : Prop :=
  W.cell? ⟨pG, 0, none⟩ = some (.slice (some ⟨G, 0, none⟩) n n) ∧ W.cell? ⟨pH, 0, none⟩ = some (.slice Ah n ch) ∧ W.cell? ⟨pL, 0, none⟩ = some (.int .i64 lim) ∧
  W.cell? ⟨pF, 0, none⟩ = some (.func (.func 96) #[] #[.pointer (some ⟨pG, 0, none⟩), .pointer (some ⟨pH, 0, none⟩), .pointer (some ⟨pL, 0, none⟩), .pointer (some ⟨pF, 0, none⟩)]) ∧
  RowsAt 2 hdc W B0 Ah (hdz ls n) ∧ (∀ l ∈ ls, IntsAt W B0 l.1 l.2.1) ∧ B0 ≤ W.heap.size ∧ G < W.heap.size
theorem StG.grown {ls : List Iss} {n : Nat} {lim : Int} {G pG pH pL pF B0 : Nat} {Ah : Option Addr} {ch : Nat} {W W' : World} (hd : (pG ≠ G ∧ pH ≠ G) ∧ (pL ≠ G ∧ pF ≠ G) ∧ B0 ≤ G) (h : StG ls n lim G pG pH pL pF B0 Ah ch W) (hg : W.grownBy W' (some G)) : StG ls n lim G pG pH pL pF B0 Ah ch W' := by
  obtain ⟨h1, h2, h3, h4, h5, h6, h7, h8⟩ := h
  have hb := grown_toBelow hg h7 (fun k hk => by injection hk with hk; omega)
  have ne : ∀ {p : Nat}, p ≠ G → some p ≠ some G := fun hp e => hp (Option.some.inj e)
  exact ⟨hg.cell h1 (ne hd.1.1), hg.cell h2 (ne hd.1.2), hg.cell h3 (ne hd.2.1.1), hg.cell h4 (ne hd.2.1.2), h5.below hb, fun l hl => (h6 l hl).below hb, Nat.le_trans h7 hg.size, Nat.lt_of_lt_of_le h8 hg.size⟩
end Go.Proofs.YtjmkbdghenjlaaaDoor
