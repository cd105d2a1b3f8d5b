/- Whether a system is valid: the program's way, with its values in a map. -/
import Derived.Test.YtgklhdacnklhdaaSys
import Derived.Test.YtgklhdacnklhdaaVMap
import Derived.Maps.OwnSet
import Derived.Laws.Externs
namespace Go.Proofs.Ytgklhdacnklhdaa
open Go.RowKit
open Go.Maps (Keyed IsMap Tidy)

theorem runeLaw : Keyed Try.prog 21 := Maps.int_keyed Try.underlying21
theorem runeKey {x : Int} (h : -2147483648 ≤ x ∧ x ≤ 2147483647) : keyOf Try.prog 21 (.int .i32 x) = some (.int .i32 x) :=
  Maps.keyOf_int_mk Try.underlying21 (by simp [Lit.wf, IntKind.min, IntKind.max, IntKind.signed, IntKind.bits]; omega)
theorem zeroI64 (w : World) : (zeroValue 2).run Try.prog w = .ok (.int .i64 0) w := by kernel_rfl
theorem wfI64 {x : Int} (h : -9223372036854775808 ≤ x ∧ x ≤ 9223372036854775807) : (Lit.int .i64 x).wf = true := by simp [Lit.wf, IntKind.min, IntKind.max, IntKind.signed, IntKind.bits]; omega
/-- Block B is the map of the values of some signs. -/
def VMap (w : World) (B n : Nat) (sg : List Dub) : Prop := w.ownsMap Try.prog 21 (plainElem Try.prog 2) B n (vmap sg)
theorem VMap.go {w w' : World} {B n : Nat} {sg : List Dub} (h : VMap w B n sg) (hb : Below w.heap.size w w') : VMap w' B n sg := World.ownsMap.kept h (grown_below (r := none) hb) (by simp)

set_option maxRecDepth 100000 in
set_option maxHeartbeats 4000000 in
theorem values_any (S : Sy) (hS : S.ok) (A D : Option Addr) (c d : Nat) (w : World) (hA : SyAt w w.heap.size A D S) :
    Calls Try.prog 156 #[sv S A D c d] w fun e w' => ∃ B, e = .returned (.map (some B)) ∧ w.heap.size ≤ B ∧ VMap w' B S.sg.length S.sg ∧ Below w.heap.size w w' := by
  have hmm := @run_makeMap Try.prog
  have hn := hS.n
  unfold maxLen at hn
  have HS := hide hS
  clear hS
  go_enter Try.func156, Try.ntmps156
  go_wp2
  go_loopw [10] (fun i wr => ∃ k : Nat, k ≤ S.sg.length ∧ i = .int .i64 k ∧ VMap wr (w.heap.size + 1) k (S.sg.take k) ∧ Below w.heap.size w wr)
    (fun i _ => S.sg.length - (intOf i).toNat)
  case atStart =>
    refine ⟨0, Nat.zero_le _, rfl, ?_, ((Below.refl _ _).alloc (Nat.le_refl _) _).alloc (by simp) _⟩
    have := World.ownsMap_made (w.alloc (.cells #[.slice A S.sg.length c, .slice D S.mn.length d] 69)) Try.prog 21 (plainElem (H := Unit) Try.prog 2)
    simpa [VMap, vmap] using this
  case round =>
    obtain ⟨k, hk, rfl, hown, hB⟩ := hrel
    by_cases hlt : k < S.sg.length
    · obtain ⟨b, o, rfl, hb, hps⟩ := hA.1 (by intro e; rw [e] at hlt; simp at hlt)
      obtain ⟨p, hp⟩ : ∃ p, S.sg[k]? = some p := ⟨S.sg[k]'hlt, List.getElem?_eq_getElem _⟩
      have hcell := rangeAt_below (hps k p hp) hB hb
      obtain ⟨y, z⟩ := p
      obtain ⟨⟨h1, h2⟩, h3, h4⟩ := HS.out.sign hp
      have c0 : wr.cell? ⟨b, o + k * 2, none⟩ = some (.int .u8 y) := hcell 0 _ rfl
      have c1 : wr.cell? ⟨b, o + k * 2 + 1, none⟩ = some (.int .i16 z) := hcell 1 _ rfl
      have hi : (k : Int) < S.sg.length := by omega
      have h0 : (0 : Int) ≤ k := by omega
      have HT := hide (vmap_take hp)
      have hkey := runeKey (x := y) ⟨by omega, by omega⟩
      have hwf := wfI64 (x := z) ⟨by omega, by omega⟩
      have hown' := World.ownsMap.alloc hown (.cells #[.int .u8 y, .int .i16 z] 143)
      have hB' := hB.alloc hB.size (.cells #[.int .u8 y, .int .i16 z] 143)
      clear hcell hp hps
      go_wp2_with (at_mapUpdate; refine wpList_mapUpdate_own _ rfl _ _ _ 205 rfl 21 2 runeLaw Try.underlying205 _ (w.heap.size + 1) k _ rfl hown' (by unfold maxLen; omega) _ _ _ rfl rfl hkey _ [] (plainElem_int Try.underlying2 hwf) ?_)
      intro w1 hown1 hgrow1
      have R1 : VMap w1 (w.heap.size + 1) (k + 1) (S.sg.take (k + 1)) := by unfold VMap; rw [HT.out]; exact hown1
      have R2 := hB'.trans (grown_toBelow hgrow1 hB'.size (fun j hj => by cases hj; omega))
      clear hown1 hgrow1 hown hown' c0 c1 hkey hwf hB'
      go_wp2
      exact ⟨⟨k + 1, by omega, by go_num, R1, R2⟩, by simp [intOf]; omega⟩
    · obtain rfl : k = S.sg.length := by omega
      rw [List.take_length] at hown
      go_wp2
      go_ret
      exact ⟨_, rfl, by omega, hown, hB⟩

set_option maxRecDepth 100000 in
theorem VMap.look {w : World} {B n : Nat} {sg : List Dub} (h : VMap w B n sg) (hap : apart sg sg.length) {x : Int} (hx : -2147483648 ≤ x ∧ x ≤ 2147483647) :
    (Instr.lookup 205 (.map (some B)) (.int .i32 x) false).run Try.prog w = .ok (.int .i64 (valL sg x)) w := by
  obtain ⟨c, hrun, hat, _⟩ := World.ownsMap.lookup_int h runeLaw Try.underlying205 Try.underlying2 (zeroI64 w) (runeKey hx)
  rw [at_vmap _ sg x rfl hap] at hat
  injection hat with hat
  injection hat with _ hat
  rw [hat]; exact hrun
theorem VMap.len {w : World} {B n : Nat} {sg : List Dub} (h : VMap w B n sg) (ty : TypeId) : (Builtin.len_ #[205] ty #[.map (some B)]).run Try.prog w = .ok (.int .i64 (Maps.size (vmap sg))) w :=
  World.ownsMap.len h Try.underlying205 ty

/-- bytes.Compare at two bytes each. -/
def cmpD (p q : Dub) : Int := if p.1 ≠ q.1 then (if p.1 < q.1 then -1 else 1) else if p.2 ≠ q.2 then (if p.2 < q.2 then -1 else 1) else 0
theorem cmpD_lex (p q : Dub) : decide (0 ≤ cmpD p q) = !lexB p q := by
  obtain ⟨a, b⟩ := p
  obtain ⟨c, d⟩ := q
  unfold cmpD lexB
  rw [Bool.eq_iff_iff]
  simp only [decide_eq_true_eq, Bool.not_eq_true', decide_eq_false_iff_not]
  (repeat' split) <;> omega
theorem cmp_two (a b c d : UInt8) : Extern.BytealgCompare.cmp ((ByteArray.empty.push a).push b) ((ByteArray.empty.push c).push d) =
    if a ≠ c then (if a < c then -1 else 1) else if b ≠ d then (if b < d then -1 else 1) else 0 := by
  have e1 : ∀ x y : UInt8, ((ByteArray.empty.push x).push y).size = 2 := fun x y => rfl
  have e2 : ∀ x y : UInt8, ((ByteArray.empty.push x).push y)[0]! = x := fun x y => rfl
  have e3 : ∀ x y : UInt8, ((ByteArray.empty.push x).push y)[1]! = y := fun x y => rfl
  unfold Extern.BytealgCompare.cmp
  rw [e1, e1]
  show (match ([0, 1] : List Nat).find? _ with | some i => _ | none => _) = _
  simp only [List.find?, e1, e2, e3]
  by_cases h1 : a = c
  · by_cases h2 : b = d
    · subst h1; subst h2
      simp
    · subst h1
      have hb : (b != d) = true := by simpa using h2
      have ha : (a != a) = false := by simp
      simp only [ha, hb, e3, if_neg (show ¬ a ≠ a from fun h => h rfl), if_pos (show b ≠ d from h2)]
  · have ha : (a != c) = true := by simpa using h1
    simp only [ha, e2, if_pos (show a ≠ c from h1)]
theorem u8_lt {x y : Int} (h : 0 ≤ x ∧ x ≤ 255) (h' : 0 ≤ y ∧ y ≤ 255) : (x.toNat.toUInt8 < y.toNat.toUInt8) ↔ x < y := by
  rw [UInt8.lt_iff_toNat_lt]; simp; omega
theorem u8_eq {x y : Int} (h : 0 ≤ x ∧ x ≤ 255) (h' : 0 ≤ y ∧ y ≤ 255) : (x.toNat.toUInt8 = y.toNat.toUInt8) ↔ x = y := by
  rw [← UInt8.toNat_inj]; simp; omega
theorem compare_two (p q : Dub) (hp : (0 ≤ p.1 ∧ p.1 ≤ 255) ∧ (0 ≤ p.2 ∧ p.2 ≤ 255)) (hq : (0 ≤ q.1 ∧ q.1 ≤ 255) ∧ (0 ≤ q.2 ∧ q.2 ≤ 255)) (b o b' o' c c' : Nat) (w : World) (h : w.rangeAt b o (a2c p)) (h' : w.rangeAt b' o' (a2c q)) :
    (callFunc 203 #[.slice (some ⟨b, o, none⟩) 2 c, .slice (some ⟨b', o', none⟩) 2 c']).run Try.prog w = .ok (.value (.int .i64 (cmpD p q))) w := by
  obtain ⟨x, y⟩ := p
  obtain ⟨x', y'⟩ := q
  simp only at hp hq
  have c0 : w.cell? ⟨b, o, none⟩ = some (.int .u8 x) := h 0 _ rfl
  have c1 : w.cell? ⟨b, o + 1, none⟩ = some (.int .u8 y) := h 1 _ rfl
  have d0 : w.cell? ⟨b', o', none⟩ = some (.int .u8 x') := h' 0 _ rfl
  have d1 : w.cell? ⟨b', o' + 1, none⟩ = some (.int .u8 y') := h' 1 _ rfl
  rw [run_callFunc_extern (e := Extern.BytealgCompare.compare) Try.func203 (by kernel_rfl) (by kernel_rfl) (by kernel_rfl) (by kernel_rfl)]
  have hc : cmpD (x, y) (x', y') = Extern.BytealgCompare.cmp ((ByteArray.empty.push x.toNat.toUInt8).push y.toNat.toUInt8) ((ByteArray.empty.push x'.toNat.toUInt8).push y'.toNat.toUInt8) := by
    rw [cmp_two]
    unfold cmpD
    simp only [ne_eq, u8_eq hp.1 hq.1, u8_eq hp.2 hq.2, u8_lt hp.1 hq.1, u8_lt hp.2 hq.2]
  rw [hc]
  change (Sem.run Try.prog (do pure (goInt (Extern.BytealgCompare.cmp (← Extern.Bytes.bytesOf (.slice (some ⟨b, o, none⟩) 2 c)) (← Extern.Bytes.bytesOf (.slice (some ⟨b', o', none⟩) 2 c'))))) w).andThen _ = _
  simp [Extern.Bytes.bytesOf, Extern.Bytes.loadBytes, go_sem, c0, c1, d0, d1, Addr.add]
end Go.Proofs.Ytgklhdacnklhdaa
