/- Faces as plain data, and how they lie in memory. -/
import Derived.Test.YtikndeloeeppaaaBase
import Derived.Deep.MidRow
namespace Go.Proofs.Ytikndeloeeppaaa
open Go.RowKit

/-- A face as plain data: widths, space, gap, pairs. -/
structure Fc where
  W : List Int
  sp : Int
  gp : Int
  ps : List (Int × Int × Int)

def pc (p : Int × Int × Int) : List Value := [.int .u8 p.1, .int .u8 p.2.1, .int .i8 p.2.2]
def wc (W : List Int) : List Value := W.map (.int .i8)
def fc (F : Fc) (sl : Value) : List Value := wc F.W ++ [.int .i8 F.sp, .int .i8 F.gp, sl]

def i8ok (n : Int) : Prop := -128 ≤ n ∧ n ≤ 127
def u8ok (n : Int) : Prop := 0 ≤ n ∧ n ≤ 255
def pok (p : Int × Int × Int) : Prop := u8ok p.1 ∧ u8ok p.2.1 ∧ i8ok p.2.2
structure Fc.ok (F : Fc) : Prop where
  len : F.W.length = 26
  W : ∀ x ∈ F.W, i8ok x
  sp : i8ok F.sp
  gp : i8ok F.gp
  ps : ∀ p ∈ F.ps, pok p
  n : F.ps.length ≤ maxLen

theorem Fc.ok.at_ {F : Fc} (h : F.ok) (k : Nat) : -128 ≤ F.W[k]?.getD 0 ∧ F.W[k]?.getD 0 ≤ 127 := by
  cases e : F.W[k]? with
  | none => simp
  | some x => simpa [i8ok] using h.W x (List.mem_of_getElem? e)
theorem Fc.ok.pair {F : Fc} (h : F.ok) {k : Nat} {x y z : Int} (e : F.ps[k]? = some (x, y, z)) : (0 ≤ x ∧ x ≤ 255) ∧ (0 ≤ y ∧ y ≤ 255) ∧ (-128 ≤ z ∧ z ≤ 127) :=
  h.ps _ (List.mem_of_getElem? e)
/-- The pairs ps lie at A, in a block below B. -/
def PairsAt (w : World) (B : Nat) (A : Option Addr) (ps : List (Int × Int × Int)) : Prop :=
  ps ≠ [] → ∃ b o, A = some ⟨b, o, none⟩ ∧ b < B ∧ ∀ k p, ps[k]? = some p → w.rangeAt b (o + k * 3) (pc p)

theorem rangeAt_below {B : Nat} {w w' : World} {b o : Nat} {cs : List Value} (h : w.rangeAt b o cs) (hb : Below B w w') (hB : b < B) : w'.rangeAt b o cs :=
  fun j v hv => by rw [hb.cell (p := ⟨b, o + j, none⟩) hB]; exact h j v hv
theorem PairsAt.below {w w' : World} {B : Nat} {A : Option Addr} {ps : List (Int × Int × Int)} (h : PairsAt w B A ps) (hb : Below B w w') : PairsAt w' B A ps :=
  fun hn => by
    obtain ⟨b, o, e, hlt, hc⟩ := h hn
    exact ⟨b, o, e, hlt, fun k p hp => rangeAt_below (hc k p hp) hb hlt⟩
theorem PairsAt.mono {w : World} {B B' : Nat} {A : Option Addr} {ps : List (Int × Int × Int)} (h : PairsAt w B A ps) (hB : B ≤ B') : PairsAt w B' A ps :=
  fun hn => by
    obtain ⟨b, o, e, hlt, hc⟩ := h hn
    exact ⟨b, o, e, by omega, hc⟩
theorem PairsAt.nil (w : World) (B : Nat) (A : Option Addr) : PairsAt w B A [] := fun h => (h rfl).elim
/-- Of rows that lie there: what lies below a block that is kept. -/
theorem PairsAt.of_keep {w w' : World} {B : Nat} {A : Option Addr} {ps : List (Int × Int × Int)} (h : PairsAt w B A ps) (hk : ∀ p : Addr, p.block < B → w'.cell? p = w.cell? p) : PairsAt w' B A ps :=
  fun hn => by
    obtain ⟨b, o, e, hlt, hc⟩ := h hn
    exact ⟨b, o, e, hlt, fun k p hp j v hv => by rw [hk _ hlt]; exact hc k p hp j v hv⟩

/-- The pairs ps lie at A, in a block from L on, and may be written there. -/
def PairsIn (w : World) (L : Nat) (A : Option Addr) (ps : List (Int × Int × Int)) : Prop :=
  ps ≠ [] → ∃ b o, A = some ⟨b, o, none⟩ ∧ L ≤ b ∧ b < w.heap.size ∧ (∀ k p, ps[k]? = some p → w.rangeAt b (o + k * 3) (pc p)) ∧ w.there b o (ps.length * 3)
theorem PairsIn.at_ {w : World} {L : Nat} {A : Option Addr} {ps : List (Int × Int × Int)} (h : PairsIn w L A ps) : PairsAt w w.heap.size A ps :=
  fun hn => by obtain ⟨b, o, e, _, h2, h3, _⟩ := h hn; exact ⟨b, o, e, h2, h3⟩
theorem there_below {B : Nat} {w w' : World} {b o n : Nat} (h : w.there b o n) (hb : Below B w w') (hB : b < B) : w'.there b o n :=
  fun j hj => by rw [hb.cell (p := ⟨b, o + j, none⟩) hB, hb.frozen (p := ⟨b, o + j, none⟩) hB]; exact h j hj
theorem PairsIn.below {w w' : World} {L B : Nat} {A : Option Addr} {ps : List (Int × Int × Int)} (h : PairsIn w L A ps) (hb : Below B w w') (hB : w.heap.size ≤ B) : PairsIn w' L A ps :=
  fun hn => by
    obtain ⟨b, o, e, h1, h2, h3, h4⟩ := h hn
    exact ⟨b, o, e, h1, Nat.lt_of_lt_of_le h2 hb.size, fun k p hp => rangeAt_below (h3 k p hp) hb (by omega), there_below h4 hb (by omega)⟩
theorem PairsIn.mono {w : World} {L L' : Nat} {A : Option Addr} {ps : List (Int × Int × Int)} (h : PairsIn w L A ps) (hL : L' ≤ L) : PairsIn w L' A ps :=
  fun hn => by obtain ⟨b, o, e, h1, h2⟩ := h hn; exact ⟨b, o, e, by omega, h2⟩
theorem PairsIn.nil (w : World) (L : Nat) (A : Option Addr) : PairsIn w L A [] := fun h => (h rfl).elim

theorem there_some {w : World} {b o n : Nat} (h : w.there b o n) {j : Nat} (hj : j < n) : ∃ v, w.cell? ⟨b, o + j, none⟩ = some v ∧ w.frozen? ⟨b, o + j, none⟩ = false := by
  obtain ⟨h1, h2⟩ := h j hj
  obtain ⟨v, hv⟩ := Option.isSome_iff_exists.1 h1
  exact ⟨v, hv, h2⟩
theorem run_make_rowN {P : Program} (t e : TypeId) (i : TypeInfo) (z : Value) (ht : P.underlying t = some (.slice e)) (hi : P.info? e = some i) (hz : i.zero = some z)
    (kl kc : IntKind) (n c : Nat) (hnc : n ≤ c) (hbytes : i.bytes * c ≤ 281474976710656) (h63 : c ≤ 9223372036854775807) (w : World) :
    (Instr.makeSlice t (.int kl (n : Int)) (.int kc (c : Int))).run P w = .ok (.slice (some ⟨w.heap.size, 0, none⟩) n c) (w.alloc (.cells (madeCells z.cells (c * i.size)) e)) := by
  have hb : (i.bytes : Int) * (c : Int) ≤ 281474976710656 := by
    have h : ((i.bytes * c : Nat) : Int) ≤ 281474976710656 := by omega
    rwa [Int.natCast_mul] at h
  have hr := run_make (P := P) w t e i z ht hi hz kl kc n c (by omega) (by omega) hb (by omega)
  simp only [Int.toNat_natCast] at hr
  exact hr

theorem fc_length {F : Fc} (h : F.W.length = 26) (sl : Value) : (fc F sl).length = 29 := by simp [fc, wc, h]
theorem wc_length (W : List Int) : (wc W).length = W.length := by simp [wc]
theorem fc_W {F : Fc} (h : F.W.length = 26) (sl : Value) {k : Nat} (hk : k < 26) : (fc F sl)[k]? = some (.int .i8 (F.W.getD k 0)) := by
  simp only [fc]
  rw [List.getElem?_append_left (by simp [wc]; omega)]
  simp [wc, h, hk, List.getD]
theorem fc_sp {F : Fc} (h : F.W.length = 26) (sl : Value) : (fc F sl)[26]? = some (.int .i8 F.sp) := by
  simp only [fc]; rw [List.getElem?_append_right (by simp [wc]; omega)]; simp [wc, h]
theorem fc_gp {F : Fc} (h : F.W.length = 26) (sl : Value) : (fc F sl)[27]? = some (.int .i8 F.gp) := by
  simp only [fc]; rw [List.getElem?_append_right (by simp [wc]; omega)]; simp [wc, h]
theorem fc_sl {F : Fc} (h : F.W.length = 26) (sl : Value) : (fc F sl)[28]? = some sl := by
  simp only [fc]; rw [List.getElem?_append_right (by simp [wc]; omega)]; simp [wc, h]
theorem wc_get {W : List Int} {k : Nat} (hk : k < W.length) : (wc W)[k]? = some (.int .i8 (W.getD k 0)) := by
  simp [wc, hk, List.getD]

/-- What a block reads as that has just been made. -/
theorem rangeAt_new (w : World) (cs : List Value) (t : TypeId) : (w.alloc (.cells cs.toArray t)).rangeAt w.heap.size 0 cs := by
  intro j v hv
  rw [cell_of_row _ _ _ _ _ _ (heap_alloc_new w _)]; simpa using hv
theorem rangeAt_new' (w : World) (cs : Array Value) (t : TypeId) : (w.alloc (.cells cs t)).rangeAt w.heap.size 0 cs.toList := by
  intro j v hv
  rw [cell_of_row _ _ _ _ _ _ (heap_alloc_new w _)]; simpa using hv
theorem there_new (w : World) (cs : Array Value) (t : TypeId) : (w.alloc (.cells cs t)).there w.heap.size 0 cs.size := by
  intro j hj
  refine ⟨?_, frozen_of_row _ _ _ _ _ (heap_alloc_new w _)⟩
  rw [cell_of_row _ _ _ _ _ _ (heap_alloc_new w _)]; simp [hj]
theorem rangeAt_newg {w : World} {cs : Array Value} {t : TypeId} {g : Nat} {l : List Value} (hg : g = w.heap.size) (hl : cs.toList = l) : (w.alloc (.cells cs t)).rangeAt g 0 l := by
  subst hg; subst hl; exact rangeAt_new' w cs t
theorem there_newg {w : World} {cs : Array Value} {t : TypeId} {g n : Nat} (hg : g = w.heap.size) (hl : cs.size = n) : (w.alloc (.cells cs t)).there g 0 n := by
  subst hg; subst hl; exact there_new w cs t
theorem rangeAt_set {w : World} {b : Nat} {cs : List Value} (h : w.rangeAt b 0 cs) (k : Nat) (v : Value) (hk : k < cs.length) : (w.setCell ⟨b, k, none⟩ v).rangeAt b 0 (cs.set k v) := by
  intro j u hu
  simp only [Nat.zero_add]
  by_cases e : k = j
  · subst e
    rw [List.getElem?_set_self hk] at hu
    injection hu with hu
    rw [← hu]
    exact World.cell?_setCell_same' _ _ _ (by have := h k _ (List.getElem?_eq_getElem hk); simp only [Nat.zero_add] at this; rw [this]; rfl)
  · rw [List.getElem?_set_ne e] at hu
    rw [World.cell?_setCell_other _ _ _ _ (by intro he; injection he with _ he; exact e he)]
    simpa using h j u hu
theorem rangeAt_far {w : World} {b o : Nat} {cs : List Value} (h : w.rangeAt b o cs) {p : Addr} (hp : p.block ≠ b) (v : Value) : (w.setCell p v).rangeAt b o cs := by
  intro j u hu
  rw [World.cell?_setCell_other _ _ _ _ (by intro he; subst he; exact hp rfl)]
  exact h j u hu
theorem there_set {w : World} {b o n : Nat} (h : w.there b o n) (p : Addr) (v : Value) : (w.setCell p v).there b o n := by
  intro j hj
  obtain ⟨h1, h2⟩ := h j hj
  refine ⟨?_, by rw [World.frozen?_setCell]; exact h2⟩
  by_cases e : p = (⟨b, o + j, none⟩ : Addr)
  · subst e; rw [World.cell?_setCell_same' _ _ _ h1]; rfl
  · rw [World.cell?_setCell_other _ _ _ _ e]; exact h1

theorem rangeAt_off {w : World} {b o : Nat} {cs : List Value} (h : w.rangeAt b o cs) {g i : Nat} (hp : g ≠ b ∨ i < o ∨ o + cs.length ≤ i) (v : Value) : (w.setCell ⟨g, i, none⟩ v).rangeAt b o cs := by
  intro j u hu
  have hj := (List.getElem?_eq_some_iff.1 hu).1
  rw [World.cell?_setCell_other _ _ _ _ (by intro he; injection he with he1 he2; omega)]
  exact h j u hu
/-- Three cells that are stored one behind the other read as a pair. -/
theorem pair_stored {w : World} {g i : Nat} {v0 v1 v2 : Value} (h0 : w.cell? ⟨g, i, none⟩ = some v0) (h1 : w.cell? ⟨g, i + 1, none⟩ = some v1) (h2 : w.cell? ⟨g, i + 2, none⟩ = some v2) (x y z : Int) :
    (((w.setCell ⟨g, i, none⟩ (.int .u8 x)).setCell ⟨g, i + 1, none⟩ (.int .u8 y)).setCell ⟨g, i + 2, none⟩ (.int .i8 z)).rangeAt g i (pc (x, y, z)) := by
  have a1 : (⟨g, i, none⟩ : Addr) ≠ ⟨g, i + 1, none⟩ := by intro h; injection h with _ h; omega
  have a2 : (⟨g, i, none⟩ : Addr) ≠ ⟨g, i + 2, none⟩ := by intro h; injection h with _ h; omega
  have a3 : (⟨g, i + 1, none⟩ : Addr) ≠ ⟨g, i + 2, none⟩ := by intro h; injection h with _ h; omega
  intro j u hu
  match j with
  | 0 =>
    obtain rfl : Value.int .u8 x = u := by simpa [pc] using hu
    simp only [Nat.add_zero]
    rw [World.cell?_setCell_other _ _ _ _ a2.symm, World.cell?_setCell_other _ _ _ _ a1.symm, World.cell?_setCell_same' _ _ _ (by rw [h0]; rfl)]
  | 1 =>
    obtain rfl : Value.int .u8 y = u := by simpa [pc] using hu
    rw [World.cell?_setCell_other _ _ _ _ a3.symm, World.cell?_setCell_same' _ _ _ (by rw [World.cell?_setCell_other _ _ _ _ a1, h1]; rfl)]
  | 2 =>
    obtain rfl : Value.int .i8 z = u := by simpa [pc] using hu
    rw [World.cell?_setCell_same' _ _ _ (by rw [World.cell?_setCell_other _ _ _ _ a3, World.cell?_setCell_other _ _ _ _ a2, h2]; rfl)]
  | j + 3 => simp [pc] at hu

/-- A face lies in a block of its own: the fields' cells. -/
theorem rangeAt_cell {w : World} {b : Nat} {cs : List Value} (h : w.rangeAt b 0 cs) {k : Nat} {v : Value} (hk : cs[k]? = some v) : w.cell? ⟨b, k, none⟩ = some v := by
  simpa using h k v hk
theorem rangeAt_left {w : World} {b o : Nat} {xs ys : List Value} (h : w.rangeAt b o (xs ++ ys)) : w.rangeAt b o xs := by
  intro j v hv
  exact h j v (by rw [List.getElem?_append_left (List.getElem?_eq_some_iff.1 hv).1]; exact hv)
theorem rangeAt_block {w : World} {b o : Nat} {cs : List Value} (h : w.rangeAt b o cs) (hne : 0 < cs.length) : b < w.heap.size :=
  World.block_lt_of_cell? w _ (h 0 _ (List.getElem?_eq_getElem hne))
theorem wc_one (W : List Int) : (wc W).toArray.all (·.oneCell') = true := all_oneCell_toArray (by simp [wc, Value.oneCell'])
theorem fc_one (F : Fc) (A : Option Addr) (n c : Nat) : (fc F (.slice A n c)).toArray.all (·.oneCell') = true :=
  all_oneCell_toArray (by intro v hv; simp [fc, wc] at hv; rcases hv with ⟨a, _, rfl⟩ | rfl | rfl | rfl <;> rfl)
/-- A result that lies in memory, of several cells. -/
theorem results_mid {P : Program} {fn : Func} {p : Tmp} {ty : TypeId} (h : fn.results = #[.cell p ty]) (tmps : Array Value) (w : World) (b o : Nat) (cs : List Value) (d : TypeDesc)
    (hp : tmps.getD p undef = .pointer (some ⟨b, o, none⟩)) (hc : w.rangeAt b o cs)
    (hu : P.underlying ty = some d) (hd : d.isRow = true) (hi : (P.info? ty).map (·.size) = some cs.length) :
    (results fn tmps).run P w = .ok (.agg cs.toArray) w := by
  have hp' : tmps[p]?.getD undef = .pointer (some ⟨b, o, none⟩) := by simpa using hp
  simp [results, h, hp', asAddr, run_loadVar_mid w b o ty cs d hc hu hd hi]
/-- Cells that are written in a block of the call's own: 'Below' goes on. -/
theorem below_setCells {B : Nat} {a : World} : ∀ (vs : List Value) (b o : Nat) (w : World), Below B a w → B ≤ b → Below B a (w.setCells b o vs)
  | [], _, _, _, h, _ => h
  | v :: r, b, o, w, h, hb => by
    rw [World.setCells]
    exact below_setCells r b (o + 1) _ (h.setCell (p := ⟨b, o, none⟩) hb v) hb
theorem size_setCells (b : Nat) : ∀ (vs : List Value) (o : Nat) (w : World), (w.setCells b o vs).heap.size = w.heap.size
  | [], _, _ => rfl
  | v :: r, o, w => by rw [World.setCells, size_setCells b r (o + 1)]; simp [World.setCell]
theorem size_setCell (w : World) (p : Addr) (v : Value) : (w.setCell p v).heap.size = w.heap.size := by simp [World.setCell]
theorem there_part {w : World} {b n m : Nat} (h : w.there b 0 n) (hm : m ≤ n) : w.there b 0 m := fun j hj => h j (by omega)
/-- A face that is put together field by field. -/
theorem fc_put {w : World} {b : Nat} {F : Fc} (hW : F.W.length = 26) (hr : w.rangeAt b 0 (wc F.W)) (h26 : w.cell? ⟨b, 26, none⟩ = some (.int .i8 F.sp)) (h27 : w.cell? ⟨b, 27, none⟩ = some (.int .i8 F.gp))
    {sl : Value} (h28 : w.cell? ⟨b, 28, none⟩ = some sl) : w.rangeAt b 0 (fc F sl) := by
  intro j v hv
  by_cases h : j < 26
  · rw [fc_W hW sl h] at hv
    exact hr j v (by rw [wc_get (by rw [hW]; exact h)]; exact hv)
  · have hj := (List.getElem?_eq_some_iff.1 hv).1
    rw [fc_length hW] at hj
    have : j = 26 ∨ j = 27 ∨ j = 28 := by omega
    rcases this with rfl | rfl | rfl
    · rw [fc_sp hW] at hv; rw [← hv]; simpa using h26
    · rw [fc_gp hW] at hv; rw [← hv]; simpa using h27
    · rw [fc_sl hW] at hv; rw [← hv]; simpa using h28
end Go.Proofs.Ytikndeloeeppaaa
