/- Arguments opened: a face, a pair, as plain data that lie in memory. -/
import Derived.Test.YtngondeaeipcfaaGreatDoorG1
import Derived.Deep.Slices
import Derived.Deep.Strs
import Derived.Deep.Fields
import Derived.ProofKit
import Derived.OpenShut
import Derived.SliceStrings
namespace Go.Proofs.YtngondeaeipcfaaGreatDoor
open Go.ChangeShapes Go.WideShapes Go.ChangeAt Go.RowKit Go.Deep

section
variable {H : Type} {enc : TypeId × Value → H} {w : World} {base : Nat} {spare : Nat → Bool} {held : Bool}

theorem one_int {P : Program} {t : TypeId} {k : IntKind} {fuel : Nat} {cs : List Value} {x : DataW H × List MemPlace} (ht : P.underlying t = some (.int k)) (h : DataW.trod enc P w base spare held fuel t cs = some x) :
    ∃ n, cs = [.int k n] ∧ (Lit.int k n).wf = true := by
  obtain ⟨n, h1, _, h3⟩ := DataW.trod_int ht h
  exact ⟨n, h1, h3⟩
theorem i8_of {n : Int} (h : (Lit.int .i8 n).wf = true) : i8ok n := bounds_i8 h
theorem u8_of {n : Int} (h : (Lit.int .u8 n).wf = true) : u8ok n := by
  simp [Lit.wf, IntKind.min, IntKind.max, IntKind.signed, IntKind.bits] at h; exact ⟨by omega, by omega⟩

set_option maxRecDepth 100000 in
theorem open_pairCells {fuel : Nat} {cs : List Value} {x : DataW H × List MemPlace} (h : DataW.trod enc Tryz.prog w base spare held fuel 266 cs = some x) : ∃ p, cs = pc p ∧ pok p := by
  obtain ⟨y0, y1, y2, n, _, hl, h0, h1, h2⟩ := trod_struct3 Tryz.underlying266 h
  have hC : Tryz.prog.cellsOf 266 = 3 := by kernel_rfl
  have hc5 : Tryz.prog.cellsOf 5 = 1 := by kernel_rfl
  have hc24 : Tryz.prog.cellsOf 24 = 1 := by kernel_rfl
  rw [hC] at hl
  match cs, hl with
  | [c0, c1, c2], _ =>
    simp only [hc5, hc24, List.drop_zero, List.drop_succ_cons, List.take_succ_cons, List.take_zero] at h0 h1 h2
    obtain ⟨a, ha, wa⟩ := one_int Tryz.underlying5 h0
    obtain ⟨b, hb, wb⟩ := one_int Tryz.underlying5 h1
    obtain ⟨c, hc, wc⟩ := one_int Tryz.underlying24 h2
    injection ha with ha; injection hb with hb; injection hc with hc
    exact ⟨(a, b, c), by rw [ha, hb, hc]; rfl, u8_of wa, u8_of wb, i8_of wc⟩

set_option maxRecDepth 100000 in
/-- A face that came in. -/
theorem open_face {r : Reach} {b0 : Nat} {v : Value} {d : DataW H} {p : List MemPlace} (hv : Value.okWide Tryz.prog w r b0 97 v) (h : DataW.Trod enc Tryz.prog w base spare held 97 v d p) :
    ∃ (F : Fc) (A : Option Addr) (c : Nat), v = .agg (fc F (.slice A F.ps.length c)).toArray ∧ F.ok ∧ PairsAt w w.heap.size A F.ps := by
  obtain ⟨cs, rfl, hsz⟩ := okWide_struct Tryz.underlying97 hv
  obtain ⟨l⟩ := cs
  have hC : Tryz.prog.cellsOf 97 = 29 := by kernel_rfl
  have hc25 : Tryz.prog.cellsOf 25 = 26 := by kernel_rfl
  have hc24 : Tryz.prog.cellsOf 24 = 1 := by kernel_rfl
  have hc26 : Tryz.prog.cellsOf 95 = 1 := by kernel_rfl
  have hc52 : Tryz.prog.cellsOf 266 = 3 := by kernel_rfl
  rw [hC] at hsz
  have hl : l.length = 29 := by simpa using hsz
  obtain ⟨fuel, hf⟩ := h
  obtain ⟨xs, n, _, _, _, hlen, hg⟩ := DataW.trod_struct Tryz.underlying97 hf
  have g0 : DataW.trod enc Tryz.prog w base spare held n 25 ((l.drop 0).take (Tryz.prog.cellsOf 25)) = xs[0]? := hg 0 _ rfl
  have g1 : DataW.trod enc Tryz.prog w base spare held n 24 ((l.drop 26).take (Tryz.prog.cellsOf 24)) = xs[1]? := hg 1 _ rfl
  have g2 : DataW.trod enc Tryz.prog w base spare held n 24 ((l.drop 27).take (Tryz.prog.cellsOf 24)) = xs[2]? := hg 2 _ rfl
  have g3 : DataW.trod enc Tryz.prog w base spare held n 95 ((l.drop 28).take (Tryz.prog.cellsOf 95)) = xs[3]? := hg 3 _ rfl
  clear hg
  rw [hc25] at g0
  rw [hc24] at g1 g2
  rw [hc26] at g3
  have hx : ∀ i, i < 4 → ∃ y, xs[i]? = some y := fun i hi => ⟨xs[i]'(by rw [hlen]; simpa using hi), List.getElem?_eq_getElem _⟩
  obtain ⟨y0, e0⟩ := hx 0 (by omega)
  obtain ⟨y1, e1⟩ := hx 1 (by omega)
  obtain ⟨y2, e2⟩ := hx 2 (by omega)
  obtain ⟨y3, e3⟩ := hx 3 (by omega)
  rw [e0] at g0; rw [e1] at g1; rw [e2] at g2; rw [e3] at g3
  rw [take1_drop _ _ undef (by omega)] at g1 g2 g3
  obtain ⟨sp, hs, ws⟩ := one_int Tryz.underlying24 g1
  obtain ⟨gp, hgp, wg⟩ := one_int Tryz.underlying24 g2
  obtain ⟨zs, m, _, _, hal, hzl, hz⟩ := DataW.trod_array Tryz.underlying25 g0
  have each : ∀ i, i < 26 → ∃ a : Int, l[i]? = some (.int .i8 a) ∧ i8ok a := by
    intro i hi
    have hzi := hz i hi
    rw [hc24, Nat.mul_one, take1_drop _ _ undef (by simp; omega), List.getElem?_eq_getElem (by omega)] at hzi
    obtain ⟨a, ha, wa⟩ := one_int Tryz.underlying24 hzi
    refine ⟨a, ?_, i8_of wa⟩
    injection ha with ha
    rw [List.getD_eq_getElem?_getD, List.drop_zero, List.getElem?_take, if_pos hi, List.getElem?_eq_getElem (by omega)] at ha
    rw [List.getElem?_eq_getElem (by omega)]
    simpa using ha
  let g : Nat → Int := fun i => match l[i]? with | some (.int .i8 a) => a | _ => 0
  have hgi : ∀ i, i < 26 → l[i]? = some (.int .i8 (g i)) ∧ i8ok (g i) := by
    intro i hi
    obtain ⟨a, ha, hk⟩ := each i hi
    have : g i = a := by simp only [g, ha]
    rw [this]; exact ⟨ha, hk⟩
  injection hs with hs
  injection hgp with hgp
  rw [List.getD_eq_getElem?_getD, List.getElem?_eq_getElem (by omega), Option.getD_some] at hs hgp
  have hW : ((List.range 26).map g).length = 26 := by simp
  have hok8 : ∀ x ∈ (List.range 26).map g, i8ok x := by
    intro x hx
    obtain ⟨i, hi, rfl⟩ := List.mem_map.1 hx
    exact (hgi i (List.mem_range.1 hi)).2
  have mk : ∀ (ps : List (Int × Int × Int)) (sl : Value), l[28]? = some sl → l = fc ⟨(List.range 26).map g, sp, gp, ps⟩ sl := by
    intro ps sl h28
    apply List.ext_getElem?
    intro i
    by_cases hi : i < 26
    · rw [fc_W hW sl hi, (hgi i hi).1]; simp [List.getD, hi]
    · by_cases h29 : i < 29
      · have : i = 26 ∨ i = 27 ∨ i = 28 := by omega
        rcases this with rfl | rfl | rfl
        · rw [fc_sp hW, List.getElem?_eq_getElem (by omega), hs]
        · rw [fc_gp hW, List.getElem?_eq_getElem (by omega), hgp]
        · rw [fc_sl hW, h28]
      · rw [List.getElem?_eq_none (by omega), List.getElem?_eq_none (by rw [fc_length hW]; omega)]
  rcases open_slice Tryz.underlying95 g3 with ⟨h3, _⟩ | ⟨a, len, cap, m', n', D, Pl, h3, hb, hle, hcap, hm, _, hel⟩
  · injection h3 with h3
    rw [List.getD_eq_getElem?_getD, List.getElem?_eq_getElem (by omega), Option.getD_some] at h3
    exact ⟨⟨(List.range 26).map g, sp, gp, []⟩, none, 0, by rw [mk [] (.slice none 0 0) (by rw [List.getElem?_eq_getElem (by omega), h3])]; rfl,
      ⟨hW, hok8, i8_of ws, i8_of wg, by simp, by simp⟩, PairsAt.nil _ _ _⟩
  · injection h3 with h3
    rw [List.getD_eq_getElem?_getD, List.getElem?_eq_getElem (by omega), Option.getD_some] at h3
    have hel' : ∀ i, i < len → ∃ p, pok p ∧ w.cells? base (a.add (i * 3)) 3 = some (pc p) := by
      intro i hi
      obtain ⟨cs', h1, h2⟩ := hel i (by rw [hm]; split <;> omega)
      obtain ⟨p, rfl, hp⟩ := open_pairCells h2
      rw [hc52] at h1
      exact ⟨p, hp, h1⟩
    obtain ⟨q, hq⟩ : ∃ q : Nat → Int × Int × Int, ∀ i, i < len → pok (q i) ∧ w.cells? base (a.add (i * 3)) 3 = some (pc (q i)) := by
      refine ⟨fun i => if h : i < len then Classical.choose (hel' i h) else (0, 0, 0), fun i hi => ?_⟩
      simp only [hi, dif_pos]
      exact Classical.choose_spec (hel' i hi)
    have hps : ((List.range len).map q).length = len := by simp
    have hget : ∀ k p, ((List.range len).map q)[k]? = some p → k < len ∧ p = q k := by
      intro k p hk
      have hlt := (List.getElem?_eq_some_iff.1 hk).1
      rw [hps] at hlt
      rw [List.getElem?_map, List.getElem?_range hlt] at hk
      simp at hk
      exact ⟨hlt, hk.symm⟩
    refine ⟨⟨(List.range 26).map g, sp, gp, (List.range len).map q⟩, some a, cap, by rw [mk ((List.range len).map q) (.slice (some a) len cap) (by rw [List.getElem?_eq_getElem (by omega), h3])]; simp only [hps],
      ⟨hW, hok8, i8_of ws, i8_of wg, ?_, by simp only [hps]; omega⟩, ?_⟩
    · intro p hp
      obtain ⟨k, hk⟩ := List.getElem?_of_mem hp
      obtain ⟨hlt, rfl⟩ := hget k p hk
      exact (hq k hlt).1
    · intro hne
      have h0 : 0 < len := by
        rcases Nat.eq_zero_or_pos len with e | e
        · subst e; exact (hne rfl).elim
        · exact e
      obtain ⟨b, o, spot⟩ := a
      have hspot : spot = none := by
        obtain ⟨_, _, hc⟩ := World.cells?_some (hq 0 h0).2
        have := hc 0 (by omega)
        rw [Nat.zero_mul] at this
        exact World.cell?_spot (a := ((⟨b, o, spot⟩ : Addr).add 0).add 0) (v := Value.int .u8 (q 0).1) (by rw [this]; rfl)
      subst hspot
      refine ⟨b, o, rfl, ?_, ?_⟩
      · obtain ⟨_, _, hc⟩ := World.cells?_some (hq 0 h0).2
        have := hc 0 (by omega)
        rw [Nat.zero_mul, add_plain, add_plain] at this
        exact World.block_lt_of_cell? w _ (this.trans rfl)
      · intro k p hk j v hv
        obtain ⟨hlt, rfl⟩ := hget k p hk
        obtain ⟨_, _, hc⟩ := World.cells?_some (hq k hlt).2
        have hj : j < 3 := by have := (List.getElem?_eq_some_iff.1 hv).1; simpa [pc] using this
        have := hc j hj
        rw [add_plain, add_plain] at this
        rw [this]; exact hv
set_option maxRecDepth 100000 in
/-- A pair that came in. -/
theorem open_pair {r : Reach} {b0 : Nat} {v : Value} {d : DataW H} {p : List MemPlace} (hv : Value.okWide Tryz.prog w r b0 266 v) (h : DataW.Trod enc Tryz.prog w base spare held 266 v d p) :
    ∃ x y z : Int, v = .agg #[.int .u8 x, .int .u8 y, .int .i8 z] ∧ pok (x, y, z) := by
  obtain ⟨cs, rfl, hsz⟩ := okWide_struct Tryz.underlying266 hv
  obtain ⟨l⟩ := cs
  obtain ⟨fuel, hf⟩ := h
  obtain ⟨⟨x, y, z⟩, hp, ok⟩ := open_pairCells hf
  refine ⟨x, y, z, ?_, ok⟩
  simp only [Value.cells] at hp
  rw [show l = pc (x, y, z) from hp]; rfl
end
end Go.Proofs.YtngondeaeipcfaaGreatDoor
