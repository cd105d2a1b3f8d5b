/- Contracts of the smallest functions of chapter 1: tests on numbers and letters. · One walk of a region serves every order, where its calls make memory but hand back one value: the class of the worlds that lie over a world. · What makes a text valid, as plain data. · Faces as plain data, and how they lie in memory. · What makes a face valid, as plain data: nothing of the program stands here. · A row is loaded from the middle of a block, in a fenced walk: in a round as anywhere. · A region that draws its order, in which two loads may come at any time and all else comes in one order. · One walk serves every order: a head that only reads and calls, over a class of worlds, and behind it a tail in its order; in a round as anywhere, and outside a fence. -/
import Derived.Test.YtngondeaeipcfaaGreatDoorChecked
import Derived.WalkKit
import Derived.Below
import Derived.Deep.QuietTactic
import Derived.BigQuiet
import Derived.Deep.MidRow
import Derived.OwnWalkIn
import Derived.Shelf.RegionOpen
import Derived.OrdersIn
import Derived.OrdersHeld
import Derived.StillTail
import Derived.Sort.QuietTacIn
import Derived.TacticsIn

namespace Go.Proofs.YtngondeaeipcfaaGreatDoor
open Go.RowKit

/-- lo ≤ n ≤ hi, as a Bool that the walk does not open. -/
def inB (n lo hi : Int) : Bool := decide (lo ≤ n ∧ n ≤ hi)
theorem inB_true {n lo hi : Int} : inB n lo hi = true ↔ lo ≤ n ∧ n ≤ hi := by simp [inB]
theorem inB_false {n lo hi : Int} : inB n lo hi = false ↔ n < lo ∨ hi < n := by simp [inB]; omega
def cap (b : Int) : Bool := inB b 65 90
theorem cap_true {n : Int} : cap n = true ↔ 65 ≤ n ∧ n ≤ 90 := inB_true
theorem cap_false {n : Int} : cap n = false ↔ n < 65 ∨ 90 < n := inB_false

theorem hide {p : Prop} (h : p) : Hid p := h
theorem ret_bool {a b : Bool} (h : a = b) : Ending.returned (.bool a) = .returned (.bool b) := by rw [h]
theorem ret_int {k : IntKind} {a b : Int} (h : a = b) : Ending.returned (.int k a) = .returned (.int k b) := by rw [h]

set_option maxHeartbeats 400000 in
theorem l00In_any (n lo hi : Int) (w : World) :
    Calls Tryz.prog 119 #[.int .i64 n, .int .i64 lo, .int .i64 hi] w fun e w' => e = .returned (.bool (inB n lo hi)) ∧ w = w' := by
  go_enter Tryz.func119, Tryz.ntmps119
  go_wp2
  all_goals (go_ret; exact ⟨ret_bool (by simp [inB]; try omega), rfl⟩)
set_option maxHeartbeats 400000 in
theorem between_any (n lo hi : Int) (w : World) :
    Calls Tryz.prog 116 #[.int .i64 n, .int .i64 lo, .int .i64 hi] w fun e w' => e = .returned (.bool (inB n lo hi)) ∧ w = w' := by
  go_enter Tryz.func116, Tryz.ntmps116
  go_wp2
  all_goals (go_ret; exact ⟨ret_bool (by simp [inB]; try omega), rfl⟩)
set_option maxHeartbeats 400000 in
theorem l01Letter_any (b : Int) (w : World) :
    Calls Tryz.prog 209 #[.int .u8 b] w fun e w' => e = .returned (.bool (cap b)) ∧ w = w' := by
  go_enter Tryz.func209, Tryz.ntmps209
  go_wp2
  all_goals (go_ret; exact ⟨ret_bool (by simp [cap, inB]; try omega), rfl⟩)
set_option maxHeartbeats 400000 in
theorem isCapital_any (b : Int) (w : World) :
    Calls Tryz.prog 210 #[.int .u8 b] w fun e w' => e = .returned (.bool (cap b)) ∧ w = w' := by
  go_enter Tryz.func210, Tryz.ntmps210
  go_wp2
  all_goals (go_ret; exact ⟨ret_bool (by simp [cap, inB]; try omega), rfl⟩)
set_option maxHeartbeats 400000 in
theorem isBlank_any (b : Int) (w : World) :
    Calls Tryz.prog 259 #[.int .u8 b] w fun e w' => e = .returned (.bool (b == 32)) ∧ w = w' := by
  go_enter Tryz.func259, Tryz.ntmps259
  go_wp2
  all_goals (go_ret; exact ⟨rfl, rfl⟩)
set_option maxHeartbeats 400000 in
theorem isNaN_any (b : Int) (w : World) :
    Calls Tryz.prog 296 #[.int .u8 b] w fun e w' => e = .returned (.bool false) ∧ w = w' := by
  go_enter Tryz.func296, Tryz.ntmps296
  go_wp2
  all_goals (go_ret; exact ⟨by simp, rfl⟩)
/-- cmp.Compare. -/
def cmpI (a b : Int) : Int := if a < b then -1 else if b < a then 1 else 0
set_option maxHeartbeats 400000 in
theorem compare_any (a b : Int) (w : World) :
    Calls Tryz.prog 282 #[.int .u8 a, .int .u8 b] w fun e w' => e = .returned (.int .i64 (cmpI a b)) ∧ w = w' := by
  go_enter Tryz.func282, Tryz.ntmps282
  go_wp2_with (go_at_call 296; refine (isNaN_any _ _).mono ?_; rintro e w' ⟨rfl, rfl⟩)
  all_goals (go_ret; exact ⟨ret_int (by unfold cmpI; (repeat' split) <;> omega), rfl⟩)
end Go.Proofs.YtngondeaeipcfaaGreatDoor

namespace Go.Proofs.YtngondeaeipcfaaGreatDoor
open Go.RowKit

/-- A world that lies over W: what W has is kept. -/
structure Over (W : World) where
  w : World
  h : Below W.heap.size W w
instance Over.inhabited (W : World) : Nonempty (Over W) := ⟨⟨W, Below.refl _ _⟩⟩
theorem Over.size {W : World} (s : Over W) : W.heap.size ≤ s.w.heap.size := s.h.size
theorem Over.cell {W : World} (s : Over W) {p : Addr} (h : p.block < W.heap.size) : s.w.cell? p = W.cell? p := s.h.cell h
theorem Over.get {W : World} {b o : Nat} {v : Value} (h : W.cell? ⟨b, o, none⟩ = some v) (s : Over W) : s.w.cell? ⟨b, o, none⟩ = some v := by
  rw [s.h.cell (p := ⟨b, o, none⟩) (World.block_lt_of_cell? W _ h)]; exact h
theorem wp_region_over {P : Program} {id : Nat} {Q : Exit → Act → World → Prop} {a : Act} {W : World} {l : List Oper} (hm : P.follows .mixedOrders = true) (hB : Region.lexB .any l.toArray = true)
    (h : wpQuiet P l.toArray (fun w' => ∃ s : Over W, w' = s.w) (fun a' => ∀ w', Below W.heap.size W w' → Q .normal a' w') l a) : (Code.region id l.toArray true).wp P Q a W := by
  have e : (fun a' => ∀ w', (∃ s : Over W, w' = s.w) → Q .normal a' w') = (fun a' => ∀ w', Below W.heap.size W w' → Q .normal a' w') := by
    funext a'
    refine propext ⟨fun h w' hb => h w' ⟨⟨w', hb⟩, rfl⟩, fun h w' ⟨s, hs⟩ => h w' (by rw [hs]; exact s.h)⟩
  exact wp_region_quiet (C := fun w' => ∃ s : Over W, w' = s.w) hm hB ⟨⟨W.drew, (Below.refl _ _).drew⟩, rfl⟩ (by rw [e]; exact h)
theorem over_call {P : Program} {f : FuncId} {args : Array Value} {W : World} {s : Over W} {v : Value}
    (h : Calls P f args s.w fun e w' => e = .returned v ∧ Below s.w.heap.size s.w w') : Calls P f args s.w fun e w'' => e = .returned v ∧ ∃ s' : Over W, w'' = s'.w :=
  h.mono fun _ w'' ⟨he, hb⟩ => ⟨he, ⟨w'', s.h.trans (hb.mono s.size)⟩, rfl⟩
theorem over_same {P : Program} {f : FuncId} {args : Array Value} {W : World} {s : Over W} {v : Value}
    (h : Calls P f args s.w fun e w' => e = .returned v ∧ s.w = w') : Calls P f args s.w fun e w'' => e = .returned v ∧ ∃ s' : Over W, w'' = s'.w :=
  h.mono fun _ w'' ⟨he, hb⟩ => ⟨he, s, hb.symm⟩
/-- A row is loaded in a region whose order is open. -/
theorem quiet_load_row {P : Program} {C : World → Prop} {K : Act → Prop} {o : Oper} {a : Act} (ty : TypeId) (x : Operand) (ho : o.op = .load ty x) (b i : Nat) (hx : a.eval x = .pointer (some ⟨b, i, none⟩)) (cs : List Value) (d : TypeDesc)
    (hc : ∀ w, C w → w.rangeAt b i cs) (hu : P.underlying ty = some d) (hd : d.isRow = true) (hi : (P.info? ty).map (·.size) = some cs.length) (hk : K (a.put o.dst (.agg cs.toArray))) : o.quiet P a C K :=
  ⟨_, fun w hw => by
    unfold Oper.quietAt execOp
    simp only [ho, hx, Instr.loadAt, Instr.sureAddr, Sem.run_bind, Sem.run_pure, Result.andThen_ok, run_loadVar_mid w b i ty cs d (hc w hw) hu hd hi]
    exact ⟨rfl, rfl⟩, hk⟩
theorem wpQuiet_load_row {P : Program} {ops : Array Oper} {C : World → Prop} {Q : Act → Prop} {rest : List Oper} {o : Oper} {a : Act} (hw : Region.wanted o (yielded ops a.tmps) = true) (ty : TypeId) (x : Operand) (ho : o.op = .load ty x)
    (b i : Nat) (hx : a.eval x = .pointer (some ⟨b, i, none⟩)) (cs : List Value) (d : TypeDesc)
    (hc : ∀ w, C w → w.rangeAt b i cs) (hu : P.underlying ty = some d) (hd : d.isRow = true) (hi : (P.info? ty).map (·.size) = some cs.length) (h : wpQuiet P ops C Q rest (a.put o.dst (.agg cs.toArray))) : wpQuiet P ops C Q (o :: rest) a :=
  wpQuiet_step fun K hK => by rw [if_pos hw]; exact quiet_load_row ty x ho b i hx cs d hc hu hd hi (hK _ h)
theorem over_row {W : World} {b : Nat} {cs : List Value} (hc : W.rangeAt b 0 cs) (hlt : b < W.heap.size) : ∀ w', (∃ s : Over W, w' = s.w) → w'.rangeAt b 0 cs := fun w' ⟨s, hs⟩ j v hv => by
  rw [hs, s.h.cell (p := ⟨b, 0 + j, none⟩) hlt]; exact hc j v hv
end Go.Proofs.YtngondeaeipcfaaGreatDoor

namespace Go.Proofs.YtngondeaeipcfaaGreatDoor
open Go.RowKit

def byteAt (L : List UInt8) (k : Nat) : Int := ((L.getD k 0).toNat : Int)
theorem byteAt_bd (L : List UInt8) (k : Nat) : 0 ≤ byteAt L k ∧ byteAt L k ≤ 255 := by
  unfold byteAt
  have := (L.getD k 0).toNat_lt
  omega
theorem byteAt_get (s : ByteArray) (k : Nat) (h : k < s.size) : (s[k].toNat : Int) = byteAt s.data.toList k := by
  have h' : k < s.data.toList.length := by simpa using h
  unfold byteAt
  simp only [List.getD_eq_getElem?_getD, List.getElem?_eq_getElem h', Option.getD_some]
  rfl
theorem toList_nil {s : ByteArray} (h : s.size = 0) : s.toList = [] := by
  rw [ByteArray.toList_eq]
  exact List.length_eq_zero_iff.1 (by rw [← h]; simp)
theorem toList_cons {s : ByteArray} (h : ¬ s.size = 0) : s.toList.isEmpty = false := by
  rw [ByteArray.toList_eq]
  cases e : s.data.toList with
  | nil => exact (h (by have : s.data.toList.length = 0 := by rw [e]; rfl
                        rw [← this]; simp)).elim
  | cons a l => rfl
/-- The byte at place i is as it has to be. -/
def good (L : List UInt8) (i : Nat) : Prop :=
  (byteAt L i = 32 ∧ 0 < i ∧ i + 1 < L.length ∧ byteAt L (i - 1) ≠ 32) ∨ cap (byteAt L i) = true
noncomputable def vtext (L : List UInt8) : Bool := @decide (L.length ≤ 60 ∧ ∀ i, i < L.length → good L i) (Classical.propDecidable _)
theorem vtext_true {L : List UInt8} : vtext L = true ↔ L.length ≤ 60 ∧ ∀ i, i < L.length → good L i := by simp [vtext]
theorem vtext_false {L : List UInt8} : vtext L = false ↔ ¬ (L.length ≤ 60 ∧ ∀ i, i < L.length → good L i) := by simp [vtext]
theorem cap_32 {b : Int} (h : b = 32) : cap b = false := cap_false.2 (by omega)
end Go.Proofs.YtngondeaeipcfaaGreatDoor

namespace Go.Proofs.YtngondeaeipcfaaGreatDoor
open Go.RowKit

/-- A face as plain data: widths, space, gap, pairs. -/
structure Fc where
  W : List Int
  sp : Int
  gp : Int
  ps : List (Int × Int × Int)

def pc (p : Int × Int × Int) : List Value := [.int .u8 p.1, .int .u8 p.2.1, .int .i8 p.2.2]
def wc (W : List Int) : List Value := W.map (.int .i8)
def fc (F : Fc) (sl : Value) : List Value := wc F.W ++ [.int .i8 F.sp, .int .i8 F.gp, sl]

def i8ok (n : Int) : Prop := -128 ≤ n ∧ n ≤ 127
def u8ok (n : Int) : Prop := 0 ≤ n ∧ n ≤ 255
def pok (p : Int × Int × Int) : Prop := u8ok p.1 ∧ u8ok p.2.1 ∧ i8ok p.2.2
structure Fc.ok (F : Fc) : Prop where
  len : F.W.length = 26
  W : ∀ x ∈ F.W, i8ok x
  sp : i8ok F.sp
  gp : i8ok F.gp
  ps : ∀ p ∈ F.ps, pok p
  n : F.ps.length ≤ maxLen

theorem Fc.ok.at_ {F : Fc} (h : F.ok) (k : Nat) : -128 ≤ F.W[k]?.getD 0 ∧ F.W[k]?.getD 0 ≤ 127 := by
  cases e : F.W[k]? with
  | none => simp
  | some x => simpa [i8ok] using h.W x (List.mem_of_getElem? e)
theorem Fc.ok.pair {F : Fc} (h : F.ok) {k : Nat} {x y z : Int} (e : F.ps[k]? = some (x, y, z)) : (0 ≤ x ∧ x ≤ 255) ∧ (0 ≤ y ∧ y ≤ 255) ∧ (-128 ≤ z ∧ z ≤ 127) :=
  h.ps _ (List.mem_of_getElem? e)
/-- The pairs ps lie at A, in a block below B. -/
def PairsAt (w : World) (B : Nat) (A : Option Addr) (ps : List (Int × Int × Int)) : Prop :=
  ps ≠ [] → ∃ b o, A = some ⟨b, o, none⟩ ∧ b < B ∧ ∀ k p, ps[k]? = some p → w.rangeAt b (o + k * 3) (pc p)

theorem rangeAt_below {B : Nat} {w w' : World} {b o : Nat} {cs : List Value} (h : w.rangeAt b o cs) (hb : Below B w w') (hB : b < B) : w'.rangeAt b o cs :=
  fun j v hv => by rw [hb.cell (p := ⟨b, o + j, none⟩) hB]; exact h j v hv
theorem PairsAt.below {w w' : World} {B : Nat} {A : Option Addr} {ps : List (Int × Int × Int)} (h : PairsAt w B A ps) (hb : Below B w w') : PairsAt w' B A ps :=
  fun hn => by
    obtain ⟨b, o, e, hlt, hc⟩ := h hn
    exact ⟨b, o, e, hlt, fun k p hp => rangeAt_below (hc k p hp) hb hlt⟩
theorem PairsAt.mono {w : World} {B B' : Nat} {A : Option Addr} {ps : List (Int × Int × Int)} (h : PairsAt w B A ps) (hB : B ≤ B') : PairsAt w B' A ps :=
  fun hn => by
    obtain ⟨b, o, e, hlt, hc⟩ := h hn
    exact ⟨b, o, e, by omega, hc⟩
theorem PairsAt.nil (w : World) (B : Nat) (A : Option Addr) : PairsAt w B A [] := fun h => (h rfl).elim
/-- Of rows that lie there: what lies below a block that is kept. -/
theorem PairsAt.of_keep {w w' : World} {B : Nat} {A : Option Addr} {ps : List (Int × Int × Int)} (h : PairsAt w B A ps) (hk : ∀ p : Addr, p.block < B → w'.cell? p = w.cell? p) : PairsAt w' B A ps :=
  fun hn => by
    obtain ⟨b, o, e, hlt, hc⟩ := h hn
    exact ⟨b, o, e, hlt, fun k p hp j v hv => by rw [hk _ hlt]; exact hc k p hp j v hv⟩

/-- The pairs ps lie at A, in a block from L on, and may be written there. -/
def PairsIn (w : World) (L : Nat) (A : Option Addr) (ps : List (Int × Int × Int)) : Prop :=
  ps ≠ [] → ∃ b o, A = some ⟨b, o, none⟩ ∧ L ≤ b ∧ b < w.heap.size ∧ (∀ k p, ps[k]? = some p → w.rangeAt b (o + k * 3) (pc p)) ∧ w.there b o (ps.length * 3)
theorem PairsIn.at_ {w : World} {L : Nat} {A : Option Addr} {ps : List (Int × Int × Int)} (h : PairsIn w L A ps) : PairsAt w w.heap.size A ps :=
  fun hn => by obtain ⟨b, o, e, _, h2, h3, _⟩ := h hn; exact ⟨b, o, e, h2, h3⟩
theorem there_below {B : Nat} {w w' : World} {b o n : Nat} (h : w.there b o n) (hb : Below B w w') (hB : b < B) : w'.there b o n :=
  fun j hj => by rw [hb.cell (p := ⟨b, o + j, none⟩) hB, hb.frozen (p := ⟨b, o + j, none⟩) hB]; exact h j hj
theorem PairsIn.below {w w' : World} {L B : Nat} {A : Option Addr} {ps : List (Int × Int × Int)} (h : PairsIn w L A ps) (hb : Below B w w') (hB : w.heap.size ≤ B) : PairsIn w' L A ps :=
  fun hn => by
    obtain ⟨b, o, e, h1, h2, h3, h4⟩ := h hn
    exact ⟨b, o, e, h1, Nat.lt_of_lt_of_le h2 hb.size, fun k p hp => rangeAt_below (h3 k p hp) hb (by omega), there_below h4 hb (by omega)⟩
theorem PairsIn.mono {w : World} {L L' : Nat} {A : Option Addr} {ps : List (Int × Int × Int)} (h : PairsIn w L A ps) (hL : L' ≤ L) : PairsIn w L' A ps :=
  fun hn => by obtain ⟨b, o, e, h1, h2⟩ := h hn; exact ⟨b, o, e, by omega, h2⟩
theorem PairsIn.nil (w : World) (L : Nat) (A : Option Addr) : PairsIn w L A [] := fun h => (h rfl).elim

theorem there_some {w : World} {b o n : Nat} (h : w.there b o n) {j : Nat} (hj : j < n) : ∃ v, w.cell? ⟨b, o + j, none⟩ = some v ∧ w.frozen? ⟨b, o + j, none⟩ = false := by
  obtain ⟨h1, h2⟩ := h j hj
  obtain ⟨v, hv⟩ := Option.isSome_iff_exists.1 h1
  exact ⟨v, hv, h2⟩
theorem run_make_rowN {P : Program} (t e : TypeId) (i : TypeInfo) (z : Value) (ht : P.underlying t = some (.slice e)) (hi : P.info? e = some i) (hz : i.zero = some z)
    (kl kc : IntKind) (n c : Nat) (hnc : n ≤ c) (hbytes : i.bytes * c ≤ 281474976710656) (h63 : c ≤ 9223372036854775807) (w : World) :
    (Instr.makeSlice t (.int kl (n : Int)) (.int kc (c : Int))).run P w = .ok (.slice (some ⟨w.heap.size, 0, none⟩) n c) (w.alloc (.cells (madeCells z.cells (c * i.size)) e)) := by
  have hb : (i.bytes : Int) * (c : Int) ≤ 281474976710656 := by
    have h : ((i.bytes * c : Nat) : Int) ≤ 281474976710656 := by omega
    rwa [Int.natCast_mul] at h
  have hr := run_make (P := P) w t e i z ht hi hz kl kc n c (by omega) (by omega) hb (by omega)
  simp only [Int.toNat_natCast] at hr
  exact hr

theorem fc_length {F : Fc} (h : F.W.length = 26) (sl : Value) : (fc F sl).length = 29 := by simp [fc, wc, h]
theorem wc_length (W : List Int) : (wc W).length = W.length := by simp [wc]
theorem fc_W {F : Fc} (h : F.W.length = 26) (sl : Value) {k : Nat} (hk : k < 26) : (fc F sl)[k]? = some (.int .i8 (F.W.getD k 0)) := by
  simp only [fc]
  rw [List.getElem?_append_left (by simp [wc]; omega)]
  simp [wc, h, hk, List.getD]
theorem fc_sp {F : Fc} (h : F.W.length = 26) (sl : Value) : (fc F sl)[26]? = some (.int .i8 F.sp) := by
  simp only [fc]; rw [List.getElem?_append_right (by simp [wc]; omega)]; simp [wc, h]
theorem fc_gp {F : Fc} (h : F.W.length = 26) (sl : Value) : (fc F sl)[27]? = some (.int .i8 F.gp) := by
  simp only [fc]; rw [List.getElem?_append_right (by simp [wc]; omega)]; simp [wc, h]
theorem fc_sl {F : Fc} (h : F.W.length = 26) (sl : Value) : (fc F sl)[28]? = some sl := by
  simp only [fc]; rw [List.getElem?_append_right (by simp [wc]; omega)]; simp [wc, h]
theorem wc_get {W : List Int} {k : Nat} (hk : k < W.length) : (wc W)[k]? = some (.int .i8 (W.getD k 0)) := by
  simp [wc, hk, List.getD]

/-- What a block reads as that has just been made. -/
theorem rangeAt_new (w : World) (cs : List Value) (t : TypeId) : (w.alloc (.cells cs.toArray t)).rangeAt w.heap.size 0 cs := by
  intro j v hv
  rw [cell_of_row _ _ _ _ _ _ (heap_alloc_new w _)]; simpa using hv
theorem rangeAt_new' (w : World) (cs : Array Value) (t : TypeId) : (w.alloc (.cells cs t)).rangeAt w.heap.size 0 cs.toList := by
  intro j v hv
  rw [cell_of_row _ _ _ _ _ _ (heap_alloc_new w _)]; simpa using hv
theorem there_new (w : World) (cs : Array Value) (t : TypeId) : (w.alloc (.cells cs t)).there w.heap.size 0 cs.size := by
  intro j hj
  refine ⟨?_, frozen_of_row _ _ _ _ _ (heap_alloc_new w _)⟩
  rw [cell_of_row _ _ _ _ _ _ (heap_alloc_new w _)]; simp [hj]
theorem rangeAt_newg {w : World} {cs : Array Value} {t : TypeId} {g : Nat} {l : List Value} (hg : g = w.heap.size) (hl : cs.toList = l) : (w.alloc (.cells cs t)).rangeAt g 0 l := by
  subst hg; subst hl; exact rangeAt_new' w cs t
theorem there_newg {w : World} {cs : Array Value} {t : TypeId} {g n : Nat} (hg : g = w.heap.size) (hl : cs.size = n) : (w.alloc (.cells cs t)).there g 0 n := by
  subst hg; subst hl; exact there_new w cs t
theorem rangeAt_set {w : World} {b : Nat} {cs : List Value} (h : w.rangeAt b 0 cs) (k : Nat) (v : Value) (hk : k < cs.length) : (w.setCell ⟨b, k, none⟩ v).rangeAt b 0 (cs.set k v) := by
  intro j u hu
  simp only [Nat.zero_add]
  by_cases e : k = j
  · subst e
    rw [List.getElem?_set_self hk] at hu
    injection hu with hu
    rw [← hu]
    exact World.cell?_setCell_same' _ _ _ (by have := h k _ (List.getElem?_eq_getElem hk); simp only [Nat.zero_add] at this; rw [this]; rfl)
  · rw [List.getElem?_set_ne e] at hu
    rw [World.cell?_setCell_other _ _ _ _ (by intro he; injection he with _ he; exact e he)]
    simpa using h j u hu
theorem rangeAt_far {w : World} {b o : Nat} {cs : List Value} (h : w.rangeAt b o cs) {p : Addr} (hp : p.block ≠ b) (v : Value) : (w.setCell p v).rangeAt b o cs := by
  intro j u hu
  rw [World.cell?_setCell_other _ _ _ _ (by intro he; subst he; exact hp rfl)]
  exact h j u hu
theorem there_set {w : World} {b o n : Nat} (h : w.there b o n) (p : Addr) (v : Value) : (w.setCell p v).there b o n := by
  intro j hj
  obtain ⟨h1, h2⟩ := h j hj
  refine ⟨?_, by rw [World.frozen?_setCell]; exact h2⟩
  by_cases e : p = (⟨b, o + j, none⟩ : Addr)
  · subst e; rw [World.cell?_setCell_same' _ _ _ h1]; rfl
  · rw [World.cell?_setCell_other _ _ _ _ e]; exact h1

theorem rangeAt_off {w : World} {b o : Nat} {cs : List Value} (h : w.rangeAt b o cs) {g i : Nat} (hp : g ≠ b ∨ i < o ∨ o + cs.length ≤ i) (v : Value) : (w.setCell ⟨g, i, none⟩ v).rangeAt b o cs := by
  intro j u hu
  have hj := (List.getElem?_eq_some_iff.1 hu).1
  rw [World.cell?_setCell_other _ _ _ _ (by intro he; injection he with he1 he2; omega)]
  exact h j u hu
/-- Three cells that are stored one behind the other read as a pair. -/
theorem pair_stored {w : World} {g i : Nat} {v0 v1 v2 : Value} (h0 : w.cell? ⟨g, i, none⟩ = some v0) (h1 : w.cell? ⟨g, i + 1, none⟩ = some v1) (h2 : w.cell? ⟨g, i + 2, none⟩ = some v2) (x y z : Int) :
    (((w.setCell ⟨g, i, none⟩ (.int .u8 x)).setCell ⟨g, i + 1, none⟩ (.int .u8 y)).setCell ⟨g, i + 2, none⟩ (.int .i8 z)).rangeAt g i (pc (x, y, z)) := by
  have a1 : (⟨g, i, none⟩ : Addr) ≠ ⟨g, i + 1, none⟩ := by intro h; injection h with _ h; omega
  have a2 : (⟨g, i, none⟩ : Addr) ≠ ⟨g, i + 2, none⟩ := by intro h; injection h with _ h; omega
  have a3 : (⟨g, i + 1, none⟩ : Addr) ≠ ⟨g, i + 2, none⟩ := by intro h; injection h with _ h; omega
  intro j u hu
  match j with
  | 0 =>
    obtain rfl : Value.int .u8 x = u := by simpa [pc] using hu
    simp only [Nat.add_zero]
    rw [World.cell?_setCell_other _ _ _ _ a2.symm, World.cell?_setCell_other _ _ _ _ a1.symm, World.cell?_setCell_same' _ _ _ (by rw [h0]; rfl)]
  | 1 =>
    obtain rfl : Value.int .u8 y = u := by simpa [pc] using hu
    rw [World.cell?_setCell_other _ _ _ _ a3.symm, World.cell?_setCell_same' _ _ _ (by rw [World.cell?_setCell_other _ _ _ _ a1, h1]; rfl)]
  | 2 =>
    obtain rfl : Value.int .i8 z = u := by simpa [pc] using hu
    rw [World.cell?_setCell_same' _ _ _ (by rw [World.cell?_setCell_other _ _ _ _ a3, World.cell?_setCell_other _ _ _ _ a2, h2]; rfl)]
  | j + 3 => simp [pc] at hu

/-- A face lies in a block of its own: the fields' cells. -/
theorem rangeAt_cell {w : World} {b : Nat} {cs : List Value} (h : w.rangeAt b 0 cs) {k : Nat} {v : Value} (hk : cs[k]? = some v) : w.cell? ⟨b, k, none⟩ = some v := by
  simpa using h k v hk
theorem rangeAt_left {w : World} {b o : Nat} {xs ys : List Value} (h : w.rangeAt b o (xs ++ ys)) : w.rangeAt b o xs := by
  intro j v hv
  exact h j v (by rw [List.getElem?_append_left (List.getElem?_eq_some_iff.1 hv).1]; exact hv)
theorem rangeAt_block {w : World} {b o : Nat} {cs : List Value} (h : w.rangeAt b o cs) (hne : 0 < cs.length) : b < w.heap.size :=
  World.block_lt_of_cell? w _ (h 0 _ (List.getElem?_eq_getElem hne))
theorem wc_one (W : List Int) : (wc W).toArray.all (·.oneCell') = true := all_oneCell_toArray (by simp [wc, Value.oneCell'])
theorem fc_one (F : Fc) (A : Option Addr) (n c : Nat) : (fc F (.slice A n c)).toArray.all (·.oneCell') = true :=
  all_oneCell_toArray (by intro v hv; simp [fc, wc] at hv; rcases hv with ⟨a, _, rfl⟩ | rfl | rfl | rfl <;> rfl)
/-- A result that lies in memory, of several cells. -/
theorem results_mid {P : Program} {fn : Func} {p : Tmp} {ty : TypeId} (h : fn.results = #[.cell p ty]) (tmps : Array Value) (w : World) (b o : Nat) (cs : List Value) (d : TypeDesc)
    (hp : tmps.getD p undef = .pointer (some ⟨b, o, none⟩)) (hc : w.rangeAt b o cs)
    (hu : P.underlying ty = some d) (hd : d.isRow = true) (hi : (P.info? ty).map (·.size) = some cs.length) :
    (results fn tmps).run P w = .ok (.agg cs.toArray) w := by
  have hp' : tmps[p]?.getD undef = .pointer (some ⟨b, o, none⟩) := by simpa using hp
  simp [results, h, hp', asAddr, run_loadVar_mid w b o ty cs d hc hu hd hi]
/-- Cells that are written in a block of the call's own: 'Below' goes on. -/
theorem below_setCells {B : Nat} {a : World} : ∀ (vs : List Value) (b o : Nat) (w : World), Below B a w → B ≤ b → Below B a (w.setCells b o vs)
  | [], _, _, _, h, _ => h
  | v :: r, b, o, w, h, hb => by
    rw [World.setCells]
    exact below_setCells r b (o + 1) _ (h.setCell (p := ⟨b, o, none⟩) hb v) hb
theorem size_setCells (b : Nat) : ∀ (vs : List Value) (o : Nat) (w : World), (w.setCells b o vs).heap.size = w.heap.size
  | [], _, _ => rfl
  | v :: r, o, w => by rw [World.setCells, size_setCells b r (o + 1)]; simp [World.setCell]
theorem size_setCell (w : World) (p : Addr) (v : Value) : (w.setCell p v).heap.size = w.heap.size := by simp [World.setCell]
theorem there_part {w : World} {b n m : Nat} (h : w.there b 0 n) (hm : m ≤ n) : w.there b 0 m := fun j hj => h j (by omega)
/-- A face that is put together field by field. -/
theorem fc_put {w : World} {b : Nat} {F : Fc} (hW : F.W.length = 26) (hr : w.rangeAt b 0 (wc F.W)) (h26 : w.cell? ⟨b, 26, none⟩ = some (.int .i8 F.sp)) (h27 : w.cell? ⟨b, 27, none⟩ = some (.int .i8 F.gp))
    {sl : Value} (h28 : w.cell? ⟨b, 28, none⟩ = some sl) : w.rangeAt b 0 (fc F sl) := by
  intro j v hv
  by_cases h : j < 26
  · rw [fc_W hW sl h] at hv
    exact hr j v (by rw [wc_get (by rw [hW]; exact h)]; exact hv)
  · have hj := (List.getElem?_eq_some_iff.1 hv).1
    rw [fc_length hW] at hj
    have : j = 26 ∨ j = 27 ∨ j = 28 := by omega
    rcases this with rfl | rfl | rfl
    · rw [fc_sp hW] at hv; rw [← hv]; simpa using h26
    · rw [fc_gp hW] at hv; rw [← hv]; simpa using h27
    · rw [fc_sl hW] at hv; rw [← hv]; simpa using h28
end Go.Proofs.YtngondeaeipcfaaGreatDoor

namespace Go.Proofs.YtngondeaeipcfaaGreatDoor
open Go.RowKit

def ahead (p q : Int × Int × Int) : Bool := decide (p.1 < q.1 ∨ p.1 = q.1 ∧ p.2.1 < q.2.1)
theorem ahead_true {p q : Int × Int × Int} : ahead p q = true ↔ p.1 < q.1 ∨ p.1 = q.1 ∧ p.2.1 < q.2.1 := by simp [ahead]
structure pairOk (g : Int) (p : Int × Int × Int) : Prop where
  a : cap p.1 = true
  b : cap p.2.1 = true
  by_ : inB p.2.2 (-10) 10 = true
  ne : p.2.2 ≠ 0
  sum : 0 ≤ g + p.2.2
/-- The pairs before place k are as they have to be. -/
def goodTo (g : Int) (ps : List (Int × Int × Int)) (k : Nat) : Prop :=
  ∀ i p, i < k → ps[i]? = some p → pairOk g p ∧ (∀ q, 0 < i → ps[i - 1]? = some q → ahead q p = true)
structure shape (F : Fc) : Prop where
  W : ∀ x ∈ F.W, inB x 1 40 = true
  sp : inB F.sp 1 40 = true
  gp : inB F.gp 0 10 = true
  ps : goodTo F.gp F.ps F.ps.length
noncomputable def shapeB (F : Fc) : Bool := @decide (shape F) (Classical.propDecidable _)
theorem shapeB_true {F : Fc} : shapeB F = true ↔ shape F := by simp [shapeB]
theorem shapeB_false {F : Fc} : shapeB F = false ↔ ¬ shape F := by simp [shapeB]
/-- A face is valid: its shape is, and there are not too many pairs. -/
noncomputable def vface (F : Fc) : Bool := decide (F.ps.length ≤ 12) && shapeB F
theorem vface_true {F : Fc} : vface F = true ↔ F.ps.length ≤ 12 ∧ shape F := by simp [vface, shapeB_true]

theorem goodTo_zero (g : Int) (ps : List (Int × Int × Int)) : goodTo g ps 0 := fun i _ h => absurd h (Nat.not_lt_zero i)
theorem goodTo_succ {g : Int} {ps : List (Int × Int × Int)} {k : Nat} {p : Int × Int × Int} (h : goodTo g ps k) (hp : ps[k]? = some p) (ho : pairOk g p) (ha : ∀ q, 0 < k → ps[k - 1]? = some q → ahead q p = true) : goodTo g ps (k + 1) := by
  intro i q hi hq
  by_cases e : i = k
  · subst e; rw [hp] at hq; injection hq with hq; subst hq; exact ⟨ho, ha⟩
  · exact h i q (by omega) hq
theorem not_pair {F : Fc} {k : Nat} {p : Int × Int × Int} (hp : F.ps[k]? = some p) (h : ¬ pairOk F.gp p) : shapeB F = false :=
  shapeB_false.2 fun s => h (s.ps k p (List.getElem?_eq_some_iff.1 hp).1 hp).1
theorem not_ahead {F : Fc} {k : Nat} {p q : Int × Int × Int} (hp : F.ps[k]? = some p) (h0 : 0 < k) (hq : F.ps[k - 1]? = some q) (h : ahead q p = false) : shapeB F = false :=
  shapeB_false.2 fun s => by have := (s.ps k p (List.getElem?_eq_some_iff.1 hp).1 hp).2 q h0 hq; rw [h] at this; cases this
theorem not_wide {F : Fc} {k : Nat} (hk : k < F.W.length) (h : inB (F.W.getD k 0) 1 40 = false) : shapeB F = false :=
  shapeB_false.2 fun s => by
    have := s.W (F.W.getD k 0) (by simp [List.getD, hk])
    rw [h] at this; cases this
theorem all_wide {W : List Int} (h : ∀ k, k < W.length → inB (W.getD k 0) 1 40 = true) : ∀ x ∈ W, inB x 1 40 = true := by
  intro x hx
  obtain ⟨k, hk, rfl⟩ := List.getElem_of_mem hx
  have := h k hk
  simpa [List.getD, hk] using this
theorem shape_gap {F : Fc} (h : inB F.gp 0 10 = true) : 0 ≤ F.gp ∧ F.gp ≤ 10 := inB_true.1 h
end Go.Proofs.YtngondeaeipcfaaGreatDoor

namespace Go.Proofs.YtngondeaeipcfaaGreatDoor
open Go Go.RowKit

theorem wpListIn_load_mid {F : Fence} {n : Nat} {P : Program} {ops : Array Oper} {rest : List Oper} {op : Oper} {a : Act} {w : World} {Q : Exit → Act → World → Prop} (hgd : op.guard = none) (ty : TypeId) (x : Operand) (ho : op.op = .load ty x)
    (b o : Nat) (hx : a.eval x = .pointer (some ⟨b, o, none⟩)) (cs : List Value) (d : TypeDesc) (hc : w.rangeAt b o cs)
    (hu : P.underlying ty = some d) (hd : d.isRow = true) (hi : (P.info? ty).map (·.size) = some cs.length)
    (h : wpListIn F n P ops Q rest (a.put op.dst (.agg cs.toArray)) w) : wpListIn F n P ops Q (op :: rest) a w := by
  refine wpListIn_plain hgd fun K hK => ?_
  unfold Oper.wpIn
  refine ⟨?_, ?_⟩
  · simp [Oper.about, ho]
  · rw [Oper.semAt_plain F _ _ (by rw [ho]; intro c hc'; cases hc')]
    unfold execOp
    simp only [ho, hx, Instr.loadAt, Instr.sureAddr, Sem.run_bind, Sem.run_pure, Result.andThen_ok, run_loadVar_mid w b o ty cs d hc hu hd hi]
    exact hK _ _ h

theorem uponIn_then {F : Fence} {n : Nat} {P : Program} {Q : Exit → Act → World → Prop} {o : Oper} {a : Act} {next K : Act → World → Prop} {r : Result Next} (h : o.uponIn F n P a next (Exit.then K Q) r) : o.uponIn F n P a next Q r := by
  cases r with
  | ok nx w =>
    cases nx with
    | enter f args => exact ⟨h.1, h.2.mono fun e w' he => by cases e <;> exact he⟩
    | round l f tmps assign body => exact ⟨h.1, h.2.mono fun e w' he => by cases e <;> exact he⟩
    | _ => exact h
  | halt x w => cases x <;> exact h
theorem wpOpIn_of_list {F : Fence} {n : Nat} {P : Program} {Q : Exit → Act → World → Prop} {ops : Array Oper} {i : Nat} {o : Oper} {K : Act → World → Prop} {a : Act} {w : World} (hi : ops[i]? = some o) (h : wpListIn F n P ops (Exit.then K Q) [o] a w) : wpOpIn F n P ops Q i K a w := by
  unfold wpOpIn
  simp only [hi]
  unfold wpListIn at h
  split at h
  · rename_i hw
    rw [if_pos hw]
    exact ⟨h.1, uponIn_then h.2⟩
  · rename_i hw
    rw [if_neg hw]
    exact ⟨h.1, h.2⟩
/-- One operation of a region that draws, in a fenced walk: what it leaves is named. -/
theorem wpOpIn_to {F : Fence} {n : Nat} {P : Program} {Q : Exit → Act → World → Prop} {ops : Array Oper} {i : Nat} {o : Oper} {K : Act → World → Prop} {a : Act} {w : World} (hi : ops[i]? = some o) (K1 : Act → World → Prop)
    (h : wpListIn F n P ops (Exit.then K1 Q) [o] a w) (hk : ∀ a w, K1 a w → K a w) : wpOpIn F n P ops Q i K a w :=
  wpOpIn_mono hk (wpOpIn_of_list hi h)
end Go.Proofs.YtngondeaeipcfaaGreatDoor

namespace Go.Proofs.YtngondeaeipcfaaGreatDoor
open Go.RowKit

section
variable {P : Program} {Q : Exit → Act → World → Prop}
theorem upon_then {o : Oper} {a : Act} {next K : Act → World → Prop} {r : Result Next} (h : o.upon P a next (Exit.then K Q) r) : o.upon P a next Q r := by
  cases r with
  | ok n w =>
    cases n with
    | enter f args =>
      refine Calls.mono h fun e w' he => ?_
      cases e <;> exact he
    | _ => exact h
  | halt x w => cases x <;> exact h
theorem wpOp_of_list {ops : Array Oper} {i : Nat} {o : Oper} {K : Act → World → Prop} {a : Act} {w : World} (hi : ops[i]? = some o) (h : wpList P ops (Exit.then K Q) [o] a w) : wpOp P ops Q i K a w := by
  unfold wpOp
  simp only [hi]
  unfold wpList at h
  split at h
  · rename_i hw
    rw [if_pos hw]
    rcases h with h | ⟨h1, h2⟩
    · left
      have h' : o.wp P a w K (Exit.then K Q) := h
      exact upon_then h'
    · exact .inr ⟨h1, h2⟩
  · rename_i hw
    rw [if_neg hw]
    exact h

theorem wp_region_loads2 {id : Nat} {a : Act} {w : World} {o0 o1 o2 o3 o4 : Oper} {v0 v1 : Value} (S : World → Prop) (hm : P.follows .mixedOrders = true)
    (hs : Region.noSelect #[o0, o1, o2, o3, o4] = true)
    (f0 : Region.free .any #[o0, o1, o2, o3, o4] #[false, false, false, false, false] 0 = true) (r0 : (Region.ready .any #[o0, o1, o2, o3, o4] #[false, false, false, false, false]).contains 0 = true)
    (f1 : Region.free .any #[o0, o1, o2, o3, o4] #[true, false, false, false, false] 1 = true) (r1 : (Region.ready .any #[o0, o1, o2, o3, o4] #[true, false, false, false, false]).contains 1 = true)
    (r2 : Region.ready .any #[o0, o1, o2, o3, o4] #[true, true, false, false, false] = [2]) (r3 : Region.ready .any #[o0, o1, o2, o3, o4] #[true, true, true, false, false] = [3])
    (r4 : Region.ready .any #[o0, o1, o2, o3, o4] #[true, true, true, true, false] = [4]) (r5 : Region.ready .any #[o0, o1, o2, o3, o4] #[true, true, true, true, true] = [])
    (hQ0 : ∀ c a w, Q (.panic c) (Act.put a o0.dst v0) w → Q (.panic c) a w) (hQ1 : ∀ c a w, Q (.panic c) (Act.put a o1.dst v1) w → Q (.panic c) a w)
    (y0 : YieldsIf P #[o0, o1, o2, o3, o4] S o0 v0 a) (y1 : YieldsIf P #[o0, o1, o2, o3, o4] S o1 v1 (a.put o0.dst v0)) (hS : S w.drew)
    (h : wpList P #[o0, o1, o2, o3, o4] (Exit.then (fun a2 w2 => S w2 ∧ wpList P #[o0, o1, o2, o3, o4] (Exit.then (fun a3 w3 => S w3 ∧ wpList P #[o0, o1, o2, o3, o4] (Exit.then (fun a4 w4 => S w4 ∧ Q .normal a4 w4) Q) [o4] a3 w3) Q) [o3] a2 w2) Q) [o2] ((a.put o0.dst v0).put o1.dst v1) w.drew) :
    (Code.region id #[o0, o1, o2, o3, o4] true).wp P Q a w := by
  refine wp_region_held (S := S) hm ?_
  change wpAnyH P .any _ Q S (4 + 1) #[false, false, false, false, false] a w.drew
  refine wpAnyH_take (i := 0) rfl hs f0 r0 hQ0 y0 hS ?_
  change wpAnyH P .any _ Q S (3 + 1) #[true, false, false, false, false] _ w.drew
  refine wpAnyH_take (i := 1) rfl hs f1 r1 hQ1 y1 hS ?_
  change wpAnyH P .any _ Q S (2 + 1) #[true, true, false, false, false] _ w.drew
  refine wpAnyH_all r2 (by simp) (fun i hi => ?_)
  obtain rfl : i = 2 := by simpa using hi
  refine wpOp_mono (fun a2 w2 h2 => ⟨h2.1, ?_⟩) (wpOp_of_list rfl h)
  change wpAnyH P .any _ Q S (1 + 1) #[true, true, true, false, false] _ _
  refine wpAnyH_all r3 (by simp) (fun i hi => ?_)
  obtain rfl : i = 3 := by simpa using hi
  refine wpOp_mono (fun a3 w3 h3 => ⟨h3.1, ?_⟩) (wpOp_of_list rfl h2.2)
  change wpAnyH P .any _ Q S (0 + 1) #[true, true, true, true, false] _ _
  refine wpAnyH_all r4 (by simp) (fun i hi => ?_)
  obtain rfl : i = 4 := by simpa using hi
  refine wpOp_mono (fun a4 w4 h4 => ⟨h4.1, ?_⟩) (wpOp_of_list rfl h3.2)
  exact wpAnyH_done r5 h4.2 _

/-! ### Some loads at any time, all else in one order -/
def forcedB (md : Region.Mode) (ops : Array Oper) : List Nat → Array Bool → Bool
  | [], listed => Region.ready md ops listed == []
  | i :: rest, listed => Region.ready md ops listed == [i] && forcedB md ops rest (listed.setIfInBounds i true)
def wpForced (P : Program) (ops : Array Oper) (Q : Exit → Act → World → Prop) (S : World → Prop) : List Nat → Act → World → Prop
  | [], a, w => Q .normal a w
  | i :: rest, a, w => ∃ o, ops[i]? = some o ∧ wpList P ops (Exit.then (fun a' w' => S w' ∧ wpForced P ops Q S rest a' w') Q) [o] a w
theorem wpForced_nil {ops : Array Oper} {S : World → Prop} {a : Act} {w : World} (h : Q .normal a w) : wpForced P ops Q S [] a w := h
theorem wpForced_cons {ops : Array Oper} {S : World → Prop} {i : Nat} {o : Oper} {rest : List Nat} {a : Act} {w : World} (hi : ops[i]? = some o)
    (h : wpList P ops (Exit.then (fun a' w' => S w' ∧ wpForced P ops Q S rest a' w') Q) [o] a w) : wpForced P ops Q S (i :: rest) a w := ⟨o, hi, h⟩
theorem held_of_forced {md : Region.Mode} {ops : Array Oper} {S : World → Prop} : ∀ (order : List Nat) (listed : Array Bool) (n : Nat) (a : Act) (w : World), forcedB md ops order listed = true → order.length ≤ n →
    wpForced P ops Q S order a w → wpAnyH P md ops Q S n listed a w
  | [], listed, n, a, w, hb, _, h => by
    simp only [forcedB, beq_iff_eq] at hb
    exact wpAnyH_done hb h n
  | i :: rest, listed, n, a, w, hb, hn, h => by
    simp only [forcedB, Bool.and_eq_true, beq_iff_eq] at hb
    obtain ⟨o, hi, hl⟩ := h
    match n, hn with
    | n + 1, hn =>
      refine wpAnyH_all hb.1 (by simp) (fun j hj => ?_)
      obtain rfl : j = i := by simpa using hj
      exact wpOp_mono (fun a' w' h' => ⟨h'.1, held_of_forced rest _ n a' w' hb.2 (by simp at hn; omega) h'.2⟩) (wpOp_of_list hi hl)

theorem wp_region_take2 {id : Nat} {a : Act} {w : World} {ops : Array Oper} {oi oj : Oper} {vi vj : Value} (i j : Nat) (order : List Nat) (n : Nat) (S : World → Prop) (hm : P.follows .mixedOrders = true) (hz : ops.size = n + 1 + 1) (hn : order.length ≤ n)
    (hi : ops[i]? = some oi) (hj : ops[j]? = some oj) (hs : Region.noSelect ops = true)
    (fi : Region.free .any ops (Array.replicate (n + 1 + 1) false) i = true) (ri : (Region.ready .any ops (Array.replicate (n + 1 + 1) false)).contains i = true)
    (fj : Region.free .any ops ((Array.replicate (n + 1 + 1) false).setIfInBounds i true) j = true) (rj : (Region.ready .any ops ((Array.replicate (n + 1 + 1) false).setIfInBounds i true)).contains j = true)
    (hf : forcedB .any ops order (((Array.replicate (n + 1 + 1) false).setIfInBounds i true).setIfInBounds j true) = true)
    (hQi : ∀ c a w, Q (.panic c) (Act.put a oi.dst vi) w → Q (.panic c) a w) (hQj : ∀ c a w, Q (.panic c) (Act.put a oj.dst vj) w → Q (.panic c) a w)
    (yi : YieldsIf P ops S oi vi a) (yj : YieldsIf P ops S oj vj (a.put oi.dst vi)) (hS : S w.drew)
    (h : wpForced P ops Q S order ((a.put oi.dst vi).put oj.dst vj) w.drew) : (Code.region id ops true).wp P Q a w := by
  refine wp_region_held (S := S) hm ?_
  rw [hz]
  change wpAnyH P .any ops Q S (n + 1 + 1) (Array.replicate (n + 1 + 1) false) a w.drew
  refine wpAnyH_take hi hs fi ri hQi yi hS ?_
  refine wpAnyH_take hj hs fj rj hQj yj hS ?_
  exact held_of_forced order _ n _ _ hf hn h
theorem wp_region_take1 {id : Nat} {a : Act} {w : World} {ops : Array Oper} {oi : Oper} {vi : Value} (i : Nat) (order : List Nat) (n : Nat) (S : World → Prop) (hm : P.follows .mixedOrders = true) (hz : ops.size = n + 1) (hn : order.length ≤ n)
    (hi : ops[i]? = some oi) (hs : Region.noSelect ops = true)
    (fi : Region.free .any ops (Array.replicate (n + 1) false) i = true) (ri : (Region.ready .any ops (Array.replicate (n + 1) false)).contains i = true)
    (hf : forcedB .any ops order ((Array.replicate (n + 1) false).setIfInBounds i true) = true)
    (hQi : ∀ c a w, Q (.panic c) (Act.put a oi.dst vi) w → Q (.panic c) a w)
    (yi : YieldsIf P ops S oi vi a) (hS : S w.drew)
    (h : wpForced P ops Q S order (a.put oi.dst vi) w.drew) : (Code.region id ops true).wp P Q a w := by
  refine wp_region_held (S := S) hm ?_
  rw [hz]
  change wpAnyH P .any ops Q S (n + 1) (Array.replicate (n + 1) false) a w.drew
  refine wpAnyH_take hi hs fi ri hQi yi hS ?_
  exact held_of_forced order _ n _ _ hf hn h
end
end Go.Proofs.YtngondeaeipcfaaGreatDoor

namespace Go.Proofs.YtngondeaeipcfaaGreatDoor
open Go Go.RowKit

def noDefer (o : Oper) : Bool := match o.op with
  | .defer _ => false
  | _ => true
theorem noDefer_spec {o : Oper} (h : noDefer o = true) : ∀ c, o.op ≠ .defer c := by
  intro c e; unfold noDefer at h; rw [e] at h; cases h
def noDefers (ops : Array Oper) : Bool := ops.toList.all noDefer
theorem noDefers_spec {ops : Array Oper} (h : noDefers ops = true) : ∀ (i : Nat) (o : Oper), ops[i]? = some o → noDefer o = true := fun i o ho =>
  List.all_eq_true.1 h o (by rw [← Array.getElem?_toList] at ho; exact List.mem_of_getElem? ho)

section
variable {F : Fence} {n : Nat} {P : Program} {ops : Array Oper} {md : Region.Mode} {C : World → Prop}

theorem wpIn_of_quietR {o : Oper} {a : Act} {K : Act → Prop} {K' : Act → World → Prop} {Q' : Exit → Act → World → Prop} {w : World} (hd : noDefer o = true) (hw : C w) (h : ∀ a w', C w' → K a → K' a w')
    (ha : o.askedIn F P a C) (hh : o.quietIn F n P a C K) : o.wpIn F n P a w K' Q' := by
  obtain ⟨v, h1, h2⟩ := hh
  have h3 := h1 w hw
  unfold Oper.quietAtIn at h3
  unfold Oper.wpIn
  refine ⟨ha w hw, ?_⟩
  rw [Oper.semAt_eq _ _ _ (noDefer_spec hd)]
  generalize (execOp a.eval o).run P w = r at *
  cases r with
  | ok x w' =>
    cases x <;> simp only [Oper.quietUponIn] at h3 <;> simp only [Oper.uponIn]
    case value u =>
      obtain ⟨e1, e2⟩ := h3
      rw [e1, e2]
      exact h _ _ hw h2
    case skip =>
      obtain ⟨e1, e2⟩ := h3
      rw [e1, ← e2]
      exact h _ _ hw h2
    case enter f args =>
      obtain ⟨e1, hd, hc⟩ := h3
      rw [e1]
      exact ⟨hd, hc.mono fun e w'' ⟨he, hw''⟩ => by subst he; exact h _ _ hw'' h2⟩
  | halt x w' => simp only [Oper.quietUponIn] at h3

theorem wpOpIn_of_qOpInR {i : Nat} {a : Act} {K : Act → Prop} {K' : Act → World → Prop} {Q' : Exit → Act → World → Prop} {w : World} (hnd : ∀ (i : Nat) (o : Oper), ops[i]? = some o → noDefer o = true) (hC : C w) (h : ∀ a w', C w' → K a → K' a w')
    (hh : qOpIn F n P ops C i K a) : wpOpIn F n P ops Q' i K' a w := by
  unfold qOpIn at hh
  unfold wpOpIn
  split
  · rename_i ho; simp only [ho] at hh; exact h _ _ hC hh
  · rename_i o ho
    simp only [ho] at hh
    obtain ⟨ha, hh⟩ := hh
    split
    · rename_i hw; simp only [hw, if_true] at hh; exact wpIn_of_quietR (hnd i o ho) hC h ha hh
    · rename_i hw; simp only [hw] at hh; exact ⟨ha w hC, h _ _ hC hh⟩

theorem wpAnyIn_of_quietR {Q : Act → Prop} {Q' : Exit → Act → World → Prop} (hnd : ∀ (i : Nat) (o : Oper), ops[i]? = some o → noDefer o = true) (hQ : ∀ a w, C w → Q a → Q' .normal a w) : ∀ (fuel : Nat) (listed : Array Bool) (a : Act) (w : World), C w →
    wpAnyQIn F n P md ops C Q fuel listed a → wpAnyIn F n P md ops Q' fuel listed a w
  | 0, _, _, _, hw, h => ⟨h.1, hQ _ _ hw h.2⟩
  | fuel + 1, _, _, _, hw, h => ⟨fun h0 => hQ _ _ hw (h.1 h0), fun i hi => wpOpIn_of_qOpInR hnd hw (fun a' w' hw' => wpAnyIn_of_quietR hnd hQ fuel _ a' w' hw') (h.2 i hi)⟩

/-- In a round as anywhere: a region that only reads and calls. -/
theorem wpIn_region_class {id : Nat} {Q : Exit → Act → World → Prop} {a : Act} {w : World} {l : List Oper} (C : World → Prop) (hm : P.follows .mixedOrders = true) (hB : Region.lexB .any l.toArray = true) (hnd : noDefers l.toArray = true) (hC : C { w with drawn := w.drawn + 1 })
    (h : wpQuietIn F n P l.toArray C (fun a' => ∀ w', C w' → Q .normal a' w') l a) : (Code.region id l.toArray true).wpIn F n P Q a w := by
  simp only [Region.lexB, Bool.and_eq_true] at hB
  refine wpIn_region_any hm (wpAnyIn_of_quietR (Q := fun a' => ∀ w', C w' → Q .normal a' w') (noDefers_spec hnd) (fun _ w' hw' h => h w' hw') _ _ _ _ hC ?_)
  have := wpAnyQIn_lex (F := F) (n := n) (C := C) (md := .any) hB.1 l 0 (Array.replicate l.toArray.size false) a (by simp) (by simpa using hB.2) h
  simpa using this

/-! With a tail -/

def wpAnyLQ (F : Fence) (n : Nat) (P : Program) (md : Region.Mode) (ops : Array Oper) (C : World → Prop) (m : Nat) (L : Array Bool → Act → Prop) : Nat → Array Bool → Act → Prop
  | 0, listed, a => L listed a
  | f + 1, listed, a =>
    Region.ready md ops listed ≠ [] ∧ ∀ i ∈ Region.ready md ops listed, i < m ∧ qOpIn F n P ops C i (wpAnyLQ F n P md ops C m L f (listed.setIfInBounds i true)) a

theorem wpAnyIn_of_headQ {m g : Nat} {L : Array Bool → Act → Prop} {Q' : Exit → Act → World → Prop} (hnd : ∀ (i : Nat) (o : Oper), ops[i]? = some o → noDefer o = true) (hL : ∀ listed a w, C w → L listed a → wpAnyIn F n P md ops Q' g listed a w) :
    ∀ (f : Nat) (listed : Array Bool) (a : Act) (w : World), C w → wpAnyLQ F n P md ops C m L f listed a → wpAnyIn F n P md ops Q' (f + g) listed a w
  | 0, listed, a, w, hw, h => by rw [Nat.zero_add]; exact hL _ _ _ hw h
  | f + 1, listed, a, w, hw, h => by
    rw [show f + 1 + g = (f + g) + 1 by omega]
    exact ⟨fun h0 => absurd h0 h.1, fun i hi => wpOpIn_of_qOpInR hnd hw (fun a' w' hw' h' => wpAnyIn_of_headQ hnd hL f _ a' w' hw' h') (h.2 i hi).2⟩

theorem wpAnyLQ_first {m i : Nat} {oi : Oper} {v : Value} {L : Array Bool → Act → Prop} (hi : ops[i]? = some oi) (hsel : ∀ (j : Nat) (o : Oper) cs b, ops[j]? = some o → o.op ≠ .select cs b)
    (hs : Region.sinkB md ops m = true) (hc : Region.chainB md ops m = true) (hn : m < ops.size) (hin : i < m)
    (hdone : ∀ listed a, L listed a → ∀ j ∈ Region.ready md ops listed, m ≤ j) :
    ∀ (f : Nat) (listed : Array Bool) (a : Act), HeadInv md ops m listed →
      (∀ j oj, ops[j]? = some oj → j ≠ i → listed.getD j true = false → (∀ e ∈ oj.after, Region.binds md e = true → e.on ≠ i) → oi.apart ops oj = true) →
      i ∈ Region.ready md ops listed → YieldsQuiet F n P ops C oi v a →
      wpAnyLQ F n P md ops C m L f (listed.setIfInBounds i true) (a.put oi.dst v) → wpAnyLQ F n P md ops C m L (f + 1) listed a := by
  intro f
  induction f with
  | zero =>
    intro listed a inv _ hr hy H
    have hun := (mem_ready.1 hr).1
    refine ⟨fun h => (by rw [h] at hr; cases hr), fun j hj => ?_⟩
    have hjn : j < m := by
      rcases Nat.lt_or_ge j m with h | h
      · exact h
      · exact absurd hj (tail_waits hs hc hn inv _ i rfl hin hun j h)
    refine ⟨hjn, ?_⟩
    by_cases hji : j = i
    · subst hji; exact hy.qOpIn hi H
    · have := hdone _ _ H j (ready_mono hj hji)
      omega
  | succ f ih =>
    intro listed a inv hfree hr hy H
    have hun := (mem_ready.1 hr).1
    refine ⟨fun h => (by rw [h] at hr; cases hr), fun j hj => ?_⟩
    have hjn : j < m := by
      rcases Nat.lt_or_ge j m with h | h
      · exact h
      · exact absurd hj (tail_waits hs hc hn inv _ i rfl hin hun j h)
    refine ⟨hjn, ?_⟩
    by_cases hji : j = i
    · subst hji; exact hy.qOpIn hi H
    · have h1 := (H.2 j (ready_mono hj hji)).2
      obtain ⟨hjun, oj, hoj, hall⟩ := mem_ready.1 hj
      have hnot : ∀ e ∈ oj.after, Region.binds md e = true → e.on ≠ i := fun e he hb heq => by
        have h1 := hall e he hb
        rw [heq, getD_both hun] at h1
        cases h1
      have h2 := qOpIn_put hoj (hfree j oj hoj hji hjun hnot) (fun cs b => hsel i oi cs b hi) (fun cs b => hsel j oj cs b hoj) hy h1
      have hfree' : ∀ k ok, ops[k]? = some ok → k ≠ i → (listed.setIfInBounds j true).getD k true = false →
          (∀ e ∈ ok.after, Region.binds md e = true → e.on ≠ i) → oi.apart ops ok = true := fun k ok hk hki hun hno => by
        refine hfree k ok hk hki ?_ hno
        by_cases hjk : j = k
        · subst hjk; exact hjun
        · rw [getD_set_ne true hjk] at hun; exact hun
      refine qOpIn_mono (fun a' h3 => ih (listed.setIfInBounds j true) a' (inv.set hj hjn) hfree' (ready_mono hr (Ne.symm hji)) h3.1 ?_) h2
      rw [Array.setIfInBounds_comm _ _ hji]
      exact h3.2

theorem wpAnyIn_of_seq {Q' : Exit → Act → World → Prop} : ∀ (l : List Oper) (k : Nat) (listed : Array Bool) (a : Act) (w : World), (∀ j, l[j]? = ops[k + j]?) →
    Region.seqB md ops l.length k listed = true → wpListIn F n P ops Q' l a w → wpAnyIn F n P md ops Q' l.length listed a w
  | [], _, _, _, _, _, hB, h => ⟨by simpa [Region.seqB] using hB, h⟩
  | o :: l, k, listed, a, w, hl, hB, h => by
    have h0 : ops[k]? = some o := by simpa using (hl 0).symm
    simp only [List.length_cons, Region.seqB, Bool.and_eq_true, decide_eq_true_eq] at hB
    refine ⟨fun h1 => (by rw [hB.1] at h1; cases h1), fun i hi => ?_⟩
    rw [hB.1] at hi
    have hik : i = k := by simpa using hi
    subst hik
    have hw : wpOpIn F n P ops Q' i (wpListIn F n P ops Q' l) a w := by unfold wpOpIn; simp only [h0]; exact h
    exact wpOpIn_mono (fun a' w' h' => wpAnyIn_of_seq l (i + 1) _ a' w' (fun j => by have := hl (j + 1); simpa [Nat.add_assoc, Nat.add_comm 1 j] using this) hB.2 h') hw

theorem wpAnyLQ_lex {m g : Nat} {Lq : Act → Prop} (hsel : Region.noSelect ops = true) (hs : Region.sinkB md ops m = true) (hc : Region.chainB md ops m = true) (hn : m < ops.size) :
    ∀ (l : List Oper) (k : Nat) (listed : Array Bool) (a : Act), (∀ j, j < l.length → l[j]? = ops[k + j]?) → k + l.length = m → HeadInv md ops m listed →
    Region.lexHead md ops g l.length k listed = true → wpQuietIn F n P ops C Lq l a →
    wpAnyLQ F n P md ops C m (fun listed' a' => Region.seqB md ops g m listed' = true ∧ Lq a') l.length listed a
  | [], k, listed, a, _, hk, _, hB, h => by
    have : k = m := by simpa using hk
    subst this
    exact ⟨by simpa [Region.lexHead] using hB, h⟩
  | o :: l, k, listed, a, hl, hk, inv, hB, h => by
    have h0 : ops[k]? = some o := by simpa using (hl 0 (by simp)).symm
    simp only [List.length_cons, Region.lexHead, Bool.and_eq_true] at hB
    obtain ⟨⟨hr, hf⟩, hB'⟩ := hB
    have hkn : k < m := by simp only [List.length_cons] at hk; omega
    have hr' : k ∈ Region.ready md ops listed := by simpa using hr
    have hst : qOpIn F n P ops C k (wpQuietIn F n P ops C Lq l) a := by unfold qOpIn; simp only [h0]; exact h
    obtain ⟨v, hy, hK⟩ := yieldsQuiet_of_qOpIn h0 hst
    exact wpAnyLQ_first h0 (Region.noSelect_spec hsel) hs hc hn hkn (fun listed' a' hL => seqB_ready hL.1) l.length listed a inv (Region.free_spec h0 hf) hr' hy
      (wpAnyLQ_lex hsel hs hc hn l (k + 1) _ _ (fun j hj => by have := hl (j + 1) (by simp; omega); simpa [Nat.add_assoc, Nat.add_comm 1 j] using this) (by simp only [List.length_cons] at hk; omega) (inv.set hr' hkn) hB' hK)

/-- In a round as anywhere: a head of m operations that only read and call, walked once over the class; behind it the others in their order, from any world of the class. -/
theorem wpIn_region_tail {id : Nat} {Q : Exit → Act → World → Prop} {a : Act} {w : World} {l : List Oper} (m : Nat) (C : World → Prop) (hm : P.follows .mixedOrders = true) (hB : Region.lexTailB .any l.toArray m = true) (hnd : noDefers l.toArray = true) (hC : C { w with drawn := w.drawn + 1 })
    (h : wpQuietIn F n P l.toArray C (fun a' => ∀ w', C w' → wpListIn F n P l.toArray Q (l.drop m) a' w') (l.take m) a) : (Code.region id l.toArray true).wpIn F n P Q a w := by
  simp only [Region.lexTailB, Bool.and_eq_true, decide_eq_true_eq] at hB
  obtain ⟨⟨⟨⟨hsel, hn⟩, hs⟩, hc⟩, hlex⟩ := hB
  have hn' : m < l.length := by simpa using hn
  have htl : (l.take m).length = m := by simp; omega
  have hdl : (l.drop m).length = l.toArray.size - m := by simp
  have inv0 : HeadInv .any l.toArray m (Array.replicate l.toArray.size false) :=
    ⟨by simp, fun j oj _ hl => (by rw [getD_replicate_false] at hl; cases hl), fun t _ ht => getD_in (by simpa using ht) (getD_replicate_false _ _)⟩
  have H := wpAnyLQ_lex (F := F) (n := n) (P := P) (C := C) (md := .any) (g := l.toArray.size - m) hsel hs hc hn (l.take m) 0 _ a (fun j hj => by
    have hj' : j < m := by rw [htl] at hj; exact hj
    simp [hj']) (by simpa using htl) inv0 (by rw [htl]; exact hlex) h
  refine wpIn_region_any hm ?_
  have := wpAnyIn_of_headQ (Q' := Q) (g := l.toArray.size - m) (noDefers_spec hnd) (fun listed a' w' hw' hL => by
    have := wpAnyIn_of_seq (F := F) (n := n) (P := P) (md := .any) (Q' := Q) (l.drop m) m listed a' w' (fun j => by simp [List.getElem?_drop]) (by rw [hdl]; exact hL.1) (hL.2 w' hw')
    rwa [hdl] at this) _ _ _ _ hC H
  rw [htl, show m + (l.toArray.size - m) = l.toArray.size by omega] at this
  exact this
end

theorem wpIn_region_over {F : Fence} {n : Nat} {P : Program} {id : Nat} {Q : Exit → Act → World → Prop} {a : Act} {W : World} {l : List Oper} (hm : P.follows .mixedOrders = true) (hB : Region.lexB .any l.toArray = true) (hnd : noDefers l.toArray = true)
    (h : wpQuietIn F n P l.toArray (fun w' => ∃ s : Over W, w' = s.w) (fun a' => ∀ w', Below W.heap.size W w' → Q .normal a' w') l a) : (Code.region id l.toArray true).wpIn F n P Q a W := by
  have e : (fun a' => ∀ w', (∃ s : Over W, w' = s.w) → Q .normal a' w') = (fun a' => ∀ w', Below W.heap.size W w' → Q .normal a' w') := by
    funext a'
    refine propext ⟨fun h w' hb => h w' ⟨⟨w', hb⟩, rfl⟩, fun h w' ⟨s, hs⟩ => h w' (by rw [hs]; exact s.h)⟩
  exact wpIn_region_class (fun w' => ∃ s : Over W, w' = s.w) hm hB hnd ⟨⟨W.drew, (Below.refl _ _).drew⟩, rfl⟩ (by rw [e]; exact h)

theorem wpIn_region_over_tail {F : Fence} {n : Nat} {P : Program} {id : Nat} {Q : Exit → Act → World → Prop} {a : Act} {W : World} {l : List Oper} (m : Nat) (hm : P.follows .mixedOrders = true) (hB : Region.lexTailB .any l.toArray m = true) (hnd : noDefers l.toArray = true)
    (h : wpQuietIn F n P l.toArray (fun w' => ∃ s : Over W, w' = s.w) (fun a' => ∀ w', Below W.heap.size W w' → wpListIn F n P l.toArray Q (l.drop m) a' w') (l.take m) a) : (Code.region id l.toArray true).wpIn F n P Q a W := by
  have e : (fun a' => ∀ w', (∃ s : Over W, w' = s.w) → wpListIn F n P l.toArray Q (l.drop m) a' w') = (fun a' => ∀ w', Below W.heap.size W w' → wpListIn F n P l.toArray Q (l.drop m) a' w') := by
    funext a'
    refine propext ⟨fun h w' hb => h w' ⟨⟨w', hb⟩, rfl⟩, fun h w' ⟨s, hs⟩ => h w' (by rw [hs]; exact s.h)⟩
  exact wpIn_region_tail m (fun w' => ∃ s : Over W, w' = s.w) hm hB hnd ⟨⟨W.drew, (Below.refl _ _).drew⟩, rfl⟩ (by rw [e]; exact h)

/-! A round's steps: one operation, by a law -/
section
variable {F : Fence} {n : Nat} {P : Program} {ops : Array Oper} {C : World → Prop} {Q : Act → Prop} {a : Act} {o : Oper} {rest : List Oper}

theorem quietIn_val {K : Act → Prop} (v : Value) (hc : ∀ w, C w → (execOp a.eval o).run P w = .ok (.value v) w) (hk : K (a.put o.dst v)) : o.quietIn F n P a C K :=
  ⟨v, fun w hw => by unfold Oper.quietAtIn; rw [hc w hw]; exact ⟨rfl, rfl⟩, hk⟩
/-- A row is loaded. -/
theorem wpQuietIn_load_row (hw : Region.wanted o (yielded ops a.tmps) = true) (ty : TypeId) (x : Operand) (ho : o.op = .load ty x)
    (b i : Nat) (hx : a.eval x = .pointer (some ⟨b, i, none⟩)) (cs : List Value) (d : TypeDesc)
    (hc : ∀ w, C w → w.rangeAt b i cs) (hu : P.underlying ty = some d) (hd : d.isRow = true) (hi : (P.info? ty).map (·.size) = some cs.length) (h : wpQuietIn F n P ops C Q rest (a.put o.dst (.agg cs.toArray))) : wpQuietIn F n P ops C Q (o :: rest) a :=
  wpQuietIn_step (fun w _ f hf => by simp [Oper.about, ho] at hf) fun K hK => by
    rw [if_pos hw]
    exact quietIn_val _ (fun w hw => by
      unfold execOp
      simp only [ho, hx, Instr.loadAt, Instr.sureAddr, Sem.run_bind, Sem.run_pure, Result.andThen_ok, run_loadVar_mid w b i ty cs d (hc w hw) hu hd hi]) (hK _ h)
end
theorem overIn_call {F : Fence} {n : Nat} {P : Program} {f : FuncId} {args : Array Value} {W : World} {s : Over W} {v : Value}
    (h : CallsIn F n P f args s.w fun e w' => e = .returned v ∧ Below s.w.heap.size s.w w') : CallsIn F n P f args s.w fun e w'' => e = .returned v ∧ ∃ s' : Over W, w'' = s'.w :=
  h.mono fun _ w'' ⟨he, hb⟩ => ⟨he, ⟨w'', s.h.trans (hb.mono s.size)⟩, rfl⟩
end Go.Proofs.YtngondeaeipcfaaGreatDoor
