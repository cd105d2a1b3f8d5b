/- Rubbings as the keys of a map, and a set of rubbings. -/
import Derived.Test.YtjmkbdghenjlaaaDoorWuP
import Derived.WideKeyArr2
import Derived.WideKeyPair
import Derived.Maps.Keyed
import Derived.Maps.OwnSet
namespace Go.Proofs.YtjmkbdghenjlaaaDoor
open Go Go.RowKit Go.WideMaps
open Go.Maps (Keyed IsMap Tidy)

set_option maxRecDepth 100000
theorem rubArr : ArrKey Tryd.prog 26 24 8 := ⟨Tryd.underlying26, by kernel_rfl, by kernel_rfl, by kernel_rfl⟩
theorem rubKeyed : Keyed Tryd.prog 26 := Keyed.of_law rubArr.law
theorem wf16 {n : Nat} (h : n < 65536) : (Lit.int .u16 (n : Int)).wf = true := by simp [Lit.wf, IntKind.min, IntKind.max, IntKind.signed, IntKind.bits]; omega
theorem keyOf_eight {P : Program} {k e : TypeId} {q : IntKind} (A : ArrKey P k e 8) (he : P.underlying e = some (.int q)) (hsz : ∃ m, P.types.size = m + 1) {a b c d f g h i : Int} (wa : (Lit.int q a).wf = true) (wb : (Lit.int q b).wf = true) (wc : (Lit.int q c).wf = true) (wd : (Lit.int q d).wf = true) (wf : (Lit.int q f).wf = true) (wg : (Lit.int q g).wf = true) (wh : (Lit.int q h).wf = true) (wi : (Lit.int q i).wf = true) :
    ∃ kl, keyOf P k (.agg #[.int q a, .int q b, .int q c, .int q d, .int q f, .int q g, .int q h, .int q i]) = some kl := by
  have hkt := A.keyType hsz
  obtain ⟨m, hm⟩ := hsz
  unfold keyOf
  simp only [A.hu]
  rw [if_pos (by simp [hkt, Value.formed, A.hu, A.size]), hm]
  unfold Program.keyLits
  simp only [A.hu, Value.cells]
  rw [if_pos (by rw [A.size]; rfl), show List.range 8 = [0, 1, 2, 3, 4, 5, 6, 7] from rfl]
  simp only [List.mapM_cons, List.mapM_nil]
  simp [A.one, Program.keyLits, he, wa, wb, wc, wd, wf, wg, wh, wi]
theorem rub_key {R : List Nat} (h : rok R) : ∃ kl, keyOf Tryd.prog 26 (.agg (rwc R).toArray) = some kl := by
  rw [← rwc8_eq h.1]
  obtain ⟨t0, t1, t2, t3, t4, t5, t6, t7, rfl⟩ := eight h.1
  have g := h.2
  exact keyOf_eight rubArr Tryd.underlying24 ⟨Tryd.prog.types.size - 1, by kernel_rfl⟩ (wf16 (g t0 (by simp))) (wf16 (g t1 (by simp))) (wf16 (g t2 (by simp))) (wf16 (g t3 (by simp))) (wf16 (g t4 (by simp))) (wf16 (g t5 (by simp))) (wf16 (g t6 (by simp))) (wf16 (g t7 (by simp)))
/-- The key of a rubbing. -/
noncomputable def kR (R : List Nat) : Lit := (keyOf Tryd.prog 26 (.agg (rwc R).toArray)).getD (.bool false)
theorem kR_of {R : List Nat} (h : rok R) : keyOf Tryd.prog 26 (.agg (rwc R).toArray) = some (kR R) := by
  obtain ⟨kl, hk⟩ := rub_key h
  unfold kR; rw [hk]; rfl
theorem rwc_inj8 {R S : List Nat} (hR : R.length = 8) (hS : S.length = 8) (h : rwc R = rwc S) : R = S := by
  obtain ⟨a0, a1, a2, a3, a4, a5, a6, a7, rfl⟩ := eight hR
  obtain ⟨b0, b1, b2, b3, b4, b5, b6, b7, rfl⟩ := eight hS
  rw [← rwc8_eq hR, ← rwc8_eq hS] at h
  have h' : (a0 : Int) = b0 ∧ (a1 : Int) = b1 ∧ (a2 : Int) = b2 ∧ (a3 : Int) = b3 ∧ (a4 : Int) = b4 ∧ (a5 : Int) = b5 ∧ (a6 : Int) = b6 ∧ (a7 : Int) = b7 := by simpa [rwc8, show List.range 8 = [0, 1, 2, 3, 4, 5, 6, 7] from rfl] using h
  obtain ⟨h0, h1, h2, h3, h4, h5, h6, h7⟩ := h'
  have e : ∀ x y : Nat, (x : Int) = y → x = y := fun x y h => by omega
  rw [e _ _ h0, e _ _ h1, e _ _ h2, e _ _ h3, e _ _ h4, e _ _ h5, e _ _ h6, e _ _ h7]
theorem kR_inj {R S : List Nat} (hR : rok R) (hS : rok S) (h : kR R = kR S) : R = S := by
  have e := rubKeyed.inj (kR_of hR) (h ▸ kR_of hS)
  injection e with e
  exact rwc_inj8 hR.1 hS.1 (by simpa using e)

/-- Block B is the set of the rubbings of a list. -/
def SMap (w : World) (B N : Nat) (L : List (List Nat)) : Prop := ∃ D : DataW Unit, w.ownsMap Tryd.prog 26 (plainElem Tryd.prog 4) B N D ∧ Tidy D ∧ ∀ T, rok T → D.atKey (kR T) (.lit (.bool false)) = .lit (.bool (decide (T ∈ L)))
theorem SMap.go {w w' : World} {B N : Nat} {L : List (List Nat)} (h : SMap w B N L) (hb : Below w.heap.size w w') : SMap w' B N L := by
  obtain ⟨D, h1, h2, h3⟩ := h
  exact ⟨D, World.ownsMap.kept h1 (grown_below (r := none) hb) (by simp), h2, h3⟩
theorem at_seen {D : DataW Unit} (h : Tidy D) {L : List (List Nat)} {S : List Nat} (hS : rok S) (hD : ∀ T, rok T → D.atKey (kR T) (.lit (.bool false)) = .lit (.bool (decide (T ∈ L)))) :
    ∀ T, rok T → (D.put (kR S) (.lit (.bool true))).atKey (kR T) (.lit (.bool false)) = .lit (.bool (decide (T ∈ S :: L))) := fun T hT => by
  by_cases e : T = S
  · subst e
    rw [Maps.atKey_put_same h.isMap (rubKeyed.key (kR_of hT))]; simp
  · rw [Maps.atKey_put_other (by intro h; exact e (kR_inj hT hS h)), hD T hT]; simp [e]
theorem zeroB (w : World) : (zeroValue 4).run Tryd.prog w = .ok (.bool false) w := by kernel_rfl
theorem plainB_inv {P : Program} {e : TypeId} {H : Type} (he : P.underlying e = some .bool) {v : Value} {b : Bool} {ps : List MemPlace} (h : plainElem (H := H) P e v = some (.lit (.bool b), ps)) : v = .bool b := by
  unfold plainElem at h
  cases v <;> simp [he] at h
  simp_all
theorem SMap.look {w : World} {B N : Nat} {L : List (List Nat)} (h : SMap w B N L) {T : List Nat} (hT : rok T) :
    (Instr.lookup 84 (.map (some B)) (.agg (rwc T).toArray) false).run Tryd.prog w = .ok (.bool (decide (T ∈ L))) w := by
  obtain ⟨D, h1, h2, h3⟩ := h
  obtain ⟨v, ps, hrun, hv⟩ := World.ownsMap.lookup h1 rubKeyed Tryd.underlying84 (zeroB w) (plainElem_bool Tryd.underlying4 false) (kR_of hT)
  rw [h3 T hT] at hv
  rw [plainB_inv Tryd.underlying4 hv] at hrun
  exact hrun
end Go.Proofs.YtjmkbdghenjlaaaDoor
