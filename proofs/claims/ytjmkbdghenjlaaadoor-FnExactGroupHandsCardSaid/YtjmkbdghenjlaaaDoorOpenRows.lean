/- A list of rows that came in, of any kind. -/
import Derived.Test.YtjmkbdghenjlaaaDoorLay
import Derived.Test.YtjmkbdghenjlaaaDoorSysP
import Derived.Test.YtjmkbdghenjlaaaDoorOpen
namespace Go.Proofs.YtjmkbdghenjlaaaDoor
open Go.ChangeShapes Go.WideShapes Go.ChangeAt Go.RowKit Go.Deep

section
variable {H : Type} {enc : TypeId × Value → H} {w : World} {base : Nat} {spare : Nat → Bool} {held : Bool}
theorem open_rows {P : Program} {α : Type} {z : Nat} {c : α → List Value} {ok : α → Prop} {t e : TypeId} {fuel : Nat} {cs : List Value} {x : DataW H × List MemPlace}
    (ht : P.underlying t = some (.slice e)) (hz : P.cellsOf e = z) (hpos : 0 < z) (hlen : ∀ a, (c a).length = z)
    (hel : ∀ (f : Nat) (cs' : List Value) (y : DataW H × List MemPlace), DataW.trod enc P w base spare held f e cs' = some y → ∃ a, cs' = c a ∧ ok a)
    (h : DataW.trod enc P w base spare held fuel t cs = some x) :
    ∃ (A : Option Addr) (xs : List α) (cp : Nat), cs = [.slice A xs.length cp] ∧ xs.length ≤ maxLen ∧ (∀ a ∈ xs, ok a) ∧ RowsAt z c w w.heap.size A xs := by
  rcases open_slice ht h with ⟨h3, _⟩ | ⟨a, len, cap, m', n', D, Pl, h3, hb, hle, hcap, hm, _, hx⟩
  · exact ⟨none, [], 0, by rw [h3]; rfl, by simp, by simp, RowsAt.nil _ _ _⟩
  · have hel' : ∀ i, i < len → ∃ p, ok p ∧ w.cells? base (a.add (i * z)) z = some (c p) := by
      intro i hi
      obtain ⟨cs', h1, h2⟩ := hx i (by rw [hm]; split <;> omega)
      obtain ⟨p, rfl, hp⟩ := hel _ _ _ h2
      rw [hz] at h1
      exact ⟨p, hp, h1⟩
    rcases Nat.eq_zero_or_pos len with e0 | hp0
    · subst e0
      exact ⟨some a, [], cap, by rw [h3]; rfl, by simp, by simp, RowsAt.nil _ _ _⟩
    obtain ⟨p0, _, _⟩ := hel' 0 hp0
    obtain ⟨q, hq⟩ : ∃ q : Nat → α, ∀ i, i < len → ok (q i) ∧ w.cells? base (a.add (i * z)) z = some (c (q i)) := by
      refine ⟨fun i => if h : i < len then Classical.choose (hel' i h) else p0, fun i hi => ?_⟩
      simp only [hi, dif_pos]
      exact Classical.choose_spec (hel' i hi)
    have hps : ((List.range len).map q).length = len := by simp
    have hget : ∀ k p, ((List.range len).map q)[k]? = some p → k < len ∧ p = q k := by
      intro k p hk
      have hlt := (List.getElem?_eq_some_iff.1 hk).1
      rw [hps] at hlt
      rw [List.getElem?_map, List.getElem?_range hlt] at hk
      simp at hk
      exact ⟨hlt, hk.symm⟩
    obtain ⟨b, o, spot⟩ := a
    have hc0 : w.cell? (((⟨b, o, spot⟩ : Addr).add (0 * z)).add 0) = (c (q 0))[0]? := by
      obtain ⟨_, _, hc⟩ := World.cells?_some (hq 0 hp0).2
      exact hc 0 hpos
    rw [List.getElem?_eq_getElem (by rw [hlen]; exact hpos), Nat.zero_mul] at hc0
    have hspot : spot = none := World.cell?_spot (a := ((⟨b, o, spot⟩ : Addr).add 0).add 0) hc0
    subst hspot
    refine ⟨some ⟨b, o, none⟩, (List.range len).map q, cap, by rw [h3, hps], by rw [hps]; omega, fun p hp => ?_, fun _ => ⟨b, o, rfl, ?_, fun k p hk j v hv => ?_⟩⟩
    · obtain ⟨k, hk⟩ := List.getElem?_of_mem hp
      obtain ⟨hlt, rfl⟩ := hget k p hk
      exact (hq k hlt).1
    · rw [add_plain, add_plain] at hc0
      exact World.block_lt_of_cell? w _ hc0
    · obtain ⟨hlt, rfl⟩ := hget k p hk
      obtain ⟨_, _, hc⟩ := World.cells?_some (hq k hlt).2
      have hj : j < z := by have := (List.getElem?_eq_some_iff.1 hv).1; rw [hlen] at this; exact this
      have := hc j hj
      rw [add_plain, add_plain] at this
      rw [this]; exact hv
end
end Go.Proofs.YtjmkbdghenjlaaaDoor
