/- LoosenFace of the model. -/
import Derived.Test.YtkbemhjeflmppaaLoosenW
namespace Go.Proofs.Ytkbemhjeflmppaa
open Go.RowKit

/-- Pairs are appended to an empty slice of the call's own. -/
theorem wpList_append_pairs {w : World} {ops : Array Oper} {rest : List Oper} {o : Oper} {a : Act} {Q : Exit → Act → World → Prop} (hgd : o.guard = none) (s x : Operand)
    (ho : o.op = .call { callee := .builtin .append, args := #[s, x], argTypes := #[63, 63] })
    (base B : Nat) (v : Value) (hs : a.eval s = v) (hown : w.ownsRow base 69 3 v 0 []) (hbase : base ≤ w.heap.size)
    (A : Option Addr) (ps : List (Int × Int × Int)) (c : Nat) (hx : a.eval x = .slice A ps.length c) (hn : ps.length ≤ 1048576) (hA : PairsAt w B A ps) (hB : B ≤ w.heap.size)
    (h : ∀ A' c' w1, ps.length ≤ c' → PairsIn w1 base A' ps → w.grownBy w1 v.ownBlock → wpList Try.prog ops Q rest (a.put o.dst (.slice A' ps.length c')) w1) : wpList Try.prog ops Q (o :: rest) a w := by
  obtain ⟨i0, hi0, hz0, hz1, hz2⟩ := info_parts Try.infoPair2
  cases A with
  | none =>
    have hps : ps = [] := by
      cases ps with
      | nil => rfl
      | cons p r => obtain ⟨b, o, e, _⟩ := hA (by simp); cases e
    subst hps
    obtain ⟨A', c', rfl, hc', hP⟩ := pairsIn_of_own (ps := []) hown rfl hbase
    exact wpList_append_none_any hgd s x 63 ho base 69 i0 3 Try.underlying63 hi0 _ 0 c _ hs hown hx (h A' c' w hc' hP (grown_refl _ _))
  | some ad =>
    have hnews : ∀ j u, (flat ps)[j]? = some u → w.cell? (ad.add j) = some u := by
      by_cases hne : ps = []
      · subst hne; intro j u hu; simp [flat] at hu
      · obtain ⟨b, o', e, hb, hps⟩ := hA hne
        injection e with e
        subst e
        intro j u hu
        exact news_of hps j u hu
    refine wpList_append_own _ hgd s x 63 ho base 69 i0 _ 3 3 Try.underlying63 hi0 hz0 hz1 hz2 rfl (by decide) v 0 [] hs hown ad ps.length c (flat ps) hx (flat_len ps) hnews (flat_one ps) (by unfold maxLen; omega) (by omega) hbase ?_
    intro v' w1 hown1 hgrow _
    rw [List.nil_append, Nat.zero_add] at hown1
    obtain ⟨A', c', rfl, hc', hP⟩ := pairsIn_of_own hown1 rfl (Nat.le_trans hbase hgrow.size)
    exact h A' c' w1 hc' hP hgrow

end Go.Proofs.Ytkbemhjeflmppaa
