/- The model's table of tails. -/
import Derived.Test.YtgklhdacnklhdaaGreedyS
import Derived.Test.YtgklhdacnklhdaaBefore
import Derived.Test.YtgklhdacnklhdaaLay
import Derived.Maps.AppendAt
import Derived.Laws.AppendOwnNone
import Derived.Deep.DeepCutAuto
namespace Go.Proofs.Ytgklhdacnklhdaa
open Go Go.RowKit Go.Maps

def tdc (t : Td) (A : Option Addr) (c : Nat) : List Value := [.int .i64 t.u, .slice A t.bs.length c, .int .i64 t.wy]
/-- A row of the table that lies at b, o; its breaks lie in none of the blocks Os. -/
def TdAt (w : World) (b o : Nat) (t : Td) (Os : List Nat) : Prop := ∃ A c, (A = none → c = 0) ∧ w.rangeAt b o (tdc t A c) ∧ IntsAt w w.heap.size A t.bs ∧ ∀ q ∈ Os, blkI A t.bs ≠ some q
theorem Try.infoTail : (Try.prog.info? 103).map (fun i => (i.zero, i.size, i.bytes)) = some (some (.agg #[.int .i64 0, .slice none 0 0, .int .i64 0]), 3, 40) := by kernel_rfl
theorem blkI_lt {w : World} {B : Nat} {A : Option Addr} {xs : List Int} (h : IntsAt w B A xs) : ∀ k, blkI A xs = some k → k < B := fun k hk => by
  cases xs with
  | nil => cases hk
  | cons x r =>
    obtain ⟨b, o, rfl, hb, _⟩ := h (by simp)
    have : b = k := by simpa [blkI] using hk
    omega
/-- What lies there stays below what is new. -/
theorem TdAt.go {w w' : World} {b o : Nat} {Os : List Nat} {t : Td} (h : TdAt w b o t Os) (hb : Below w.heap.size w w') (hlt : b < w.heap.size) : TdAt w' b o t Os := by
  obtain ⟨A, c, h0, h1, h2, h3⟩ := h
  exact ⟨A, c, h0, rangeAt_below h1 hb hlt, h2.go hb, h3⟩
/-- It lies in no block that is new. -/
theorem TdAt.more {w : World} {b o : Nat} {Os : List Nat} {t : Td} (h : TdAt w b o t Os) {q : Nat} (hq : w.heap.size ≤ q) : TdAt w b o t (q :: Os) := by
  obtain ⟨A, c, h0, h1, h2, h3⟩ := h
  refine ⟨A, c, h0, h1, h2, fun r hr => ?_⟩
  rcases List.mem_cons.1 hr with rfl | hr
  · intro e; have := blkI_lt h2 _ e; omega
  · exact h3 r hr
theorem TdAt.less {w : World} {b o : Nat} {Os Os' : List Nat} {t : Td} (h : TdAt w b o t Os) (hs : ∀ q ∈ Os', q ∈ Os) : TdAt w b o t Os' := by
  obtain ⟨A, c, h0, h1, h2, h3⟩ := h
  exact ⟨A, c, h0, h1, h2, fun q hq => h3 q (hs q hq)⟩
/-- It stays where a cell of one of these blocks is written, apart from its own three. -/
theorem TdAt.set {w : World} {b o : Nat} {Os : List Nat} {t : Td} (h : TdAt w b o t Os) {g i : Nat} (hg : g ∈ Os) (hp : g ≠ b ∨ i < o ∨ o + 3 ≤ i) (v : Value) : TdAt (w.setCell ⟨g, i, none⟩ v) b o t Os := by
  obtain ⟨A, c, h0, h1, h2, h3⟩ := h
  refine ⟨A, c, h0, rangeAt_off h1 (by simpa [tdc] using hp) v, fun hn => ?_, h3⟩
  obtain ⟨b', o', rfl, hlt, hc⟩ := h2 hn
  have hne : b' ≠ g := fun e => h3 g hg (by rw [blkI_some hn, e])
  refine ⟨b', o', rfl, by rw [size_setCell]; exact hlt, fun k x hx => ?_⟩
  rw [World.cell?_setCell_other _ _ _ _ (by intro h; injection h with h _; exact hne h.symm)]
  exact hc k x hx
theorem made3 (a b c : Value) (N k j : Nat) (hj : j < 3) (h : k * 3 + j < N) : (madeCells #[a, b, c] N).toList[k * 3 + j]? = [a, b, c][j]? := by
  have e : (k * 3 + j) % 3 = j := by omega
  simp [madeCells, h]
  match j, hj with
  | 0, _ => simp [show (k * 3) % 3 = 0 by omega]
  | 1, _ => simp [show (k * 3 + 1) % 3 = 1 by omega]
  | 2, _ => simp [show (k * 3 + 2) % 3 = 2 by omega]

/-- The heap with a row of three stored. -/
def put3 (w : World) (b o : Nat) (t : Td) (A : Option Addr) (c : Nat) : World := ((w.setCell ⟨b, o, none⟩ (.int .i64 t.u)).setCell ⟨b, o + 1, none⟩ (.slice A t.bs.length c)).setCell ⟨b, o + 2, none⟩ (.int .i64 t.wy)
theorem put3_size (w : World) (b o : Nat) (t : Td) (A : Option Addr) (c : Nat) : (put3 w b o t A c).heap.size = w.heap.size := by unfold put3; rw [size_setCell, size_setCell, size_setCell]
theorem TdAt.put3_off {w : World} {b o : Nat} {Os : List Nat} {t : Td} (h : TdAt w b o t Os) {g i : Nat} (hg : g ∈ Os) (hp : g ≠ b ∨ i + 3 ≤ o ∨ o + 3 ≤ i) (s : Td) (A : Option Addr) (c : Nat) : TdAt (put3 w g i s A c) b o t Os :=
  ((h.set hg (by omega) _).set hg (by omega) _).set hg (by omega) _
theorem there_put3 {w : World} {b o n : Nat} (h : w.there b o n) (g i : Nat) (t : Td) (A : Option Addr) (c : Nat) : (put3 w g i t A c).there b o n := there_set (there_set (there_set h _ _) _ _) _ _
theorem below_put3 {K : Nat} {a w : World} (h : Below K a w) {g : Nat} (hg : K ≤ g) (i : Nat) (t : Td) (A : Option Addr) (c : Nat) : Below K a (put3 w g i t A c) := ((h.setCell hg _).setCell hg _).setCell hg _
/-- One of its numbers is stored. -/
theorem TdAt.setn {w : World} {b : Nat} {Os : List Nat} {t : Td} (h : TdAt w b 0 t Os) (hb : b ∈ Os) (k : Nat) (hk : k < 3) (v : Value) (t' : Td) (he : ∀ A c, (tdc t A c).set k v = tdc t' A c) (hbs : t'.bs = t.bs) : TdAt (w.setCell ⟨b, k, none⟩ v) b 0 t' Os := by
  obtain ⟨A, c, h0, h1, h2, h3⟩ := h
  refine ⟨A, c, h0, by rw [← he]; exact rangeAt_set h1 k v (by simpa [tdc] using hk), ?_, by rw [hbs]; exact h3⟩
  rw [hbs]
  intro hn
  obtain ⟨b', o', rfl, hlt, hc⟩ := h2 hn
  have hne : b ≠ b' := fun e => h3 b hb (by rw [blkI_some hn, e])
  refine ⟨b', o', rfl, by rw [size_setCell]; exact hlt, fun k x hx => ?_⟩
  rw [World.cell?_setCell_other _ _ _ _ (by intro h; injection h with h _; exact hne h)]
  exact hc k x hx
/-- Its breaks are stored. -/
theorem TdAt.setb {w : World} {b : Nat} {Os : List Nat} {t : Td} (h : TdAt w b 0 t Os) (hb : b ∈ Os) {A : Option Addr} {c : Nat} {bs : List Int} (h0 : A = none → c = 0) (h2 : IntsAt w w.heap.size A bs) (h3 : ∀ q ∈ Os, blkI A bs ≠ some q) :
    TdAt (w.setCell ⟨b, 1, none⟩ (.slice A bs.length c)) b 0 ⟨t.u, bs, t.wy⟩ Os := by
  obtain ⟨A', c', _, h1, _, _⟩ := h
  refine ⟨A, c, h0, by have := rangeAt_set h1 1 (.slice A bs.length c) (by simp [tdc]); exact this, fun hn => ?_, h3⟩
  obtain ⟨b', o', rfl, hlt, hc⟩ := h2 hn
  have hne : b ≠ b' := fun e => h3 b hb (by rw [blkI_some hn, e])
  refine ⟨b', o', rfl, by rw [size_setCell]; exact hlt, fun k x hx => ?_⟩
  rw [World.cell?_setCell_other _ _ _ _ (by intro h; injection h with h _; exact hne h)]
  exact hc k x hx
/-- The row that is stored lies there. -/
theorem TdAt.put3_at {w : World} {b o : Nat} {Os : List Nat} {t : Td} {A : Option Addr} {c : Nat} (h0 : A = none → c = 0) (h2 : IntsAt w w.heap.size A t.bs) (h3 : ∀ q ∈ Os, blkI A t.bs ≠ some q) (hb : b ∈ Os)
    (ht : ∀ j, j < 3 → (w.cell? ⟨b, o + j, none⟩).isSome = true) : TdAt (put3 w b o t A c) b o t Os := by
  have a1 : (⟨b, o, none⟩ : Addr) ≠ ⟨b, o + 1, none⟩ := by intro h; injection h with _ h; omega
  have a2 : (⟨b, o, none⟩ : Addr) ≠ ⟨b, o + 2, none⟩ := by intro h; injection h with _ h; omega
  have a3 : (⟨b, o + 1, none⟩ : Addr) ≠ ⟨b, o + 2, none⟩ := by intro h; injection h with _ h; omega
  refine ⟨A, c, h0, ?_, fun hn => ?_, h3⟩
  · intro j u hu
    unfold put3
    match j with
    | 0 =>
      obtain rfl : Value.int .i64 t.u = u := by simpa [tdc] using hu
      simp only [Nat.add_zero]
      rw [World.cell?_setCell_other _ _ _ _ a2.symm, World.cell?_setCell_other _ _ _ _ a1.symm, World.cell?_setCell_same' _ _ _ (show (w.cell? ⟨b, o, none⟩).isSome = true from ht 0 (by omega))]
    | 1 =>
      obtain rfl : Value.slice A t.bs.length c = u := by simpa [tdc] using hu
      rw [World.cell?_setCell_other _ _ _ _ a3.symm, World.cell?_setCell_same' _ _ _ (by rw [World.cell?_setCell_other _ _ _ _ a1]; exact ht 1 (by omega))]
    | 2 =>
      obtain rfl : Value.int .i64 t.wy = u := by simpa [tdc] using hu
      rw [World.cell?_setCell_same' _ _ _ (by rw [World.cell?_setCell_other _ _ _ _ a3, World.cell?_setCell_other _ _ _ _ a2]; exact ht 2 (by omega))]
    | j + 3 => simp [tdc] at hu
  · obtain ⟨b', o', rfl, hlt, hc⟩ := h2 hn
    have hne : b ≠ b' := fun e => h3 b hb (by rw [blkI_some hn, e])
    refine ⟨b', o', rfl, by rw [put3_size]; exact hlt, fun k x hx => ?_⟩
    unfold put3
    rw [World.cell?_setCell_other _ _ _ _ (by intro h; injection h with h _; exact hne h), World.cell?_setCell_other _ _ _ _ (by intro h; injection h with h _; exact hne h), World.cell?_setCell_other _ _ _ _ (by intro h; injection h with h _; exact hne h)]
    exact hc k x hx
theorem isSome_of_there {w : World} {b n o : Nat} (h : w.there b 0 n) (ho : o + 3 ≤ n) : ∀ j, j < 3 → (w.cell? ⟨b, o + j, none⟩).isSome = true := fun j hj => by
  have := (h (o + j) (by omega)).1
  rwa [Nat.zero_add] at this
/-- A round's end: the row is stored in the table. -/
theorem tab_put {K : Nat} {w wr : World} {O B f n d c : Nat} {A : Option Addr} {t : Td} {x : Int} {lw : Nat → Nat → Int} {T : Nat → Td} (hfd : f + d + 1 = n) (hK : K ≤ O) (hT : ∀ i, tabT x lw n (d + 1) i = if i = f then t else T i) (tO : wr.there O 0 ((n + 1) * 3))
    (hrow : ∀ i, i ≤ n → TdAt wr O (i * 3) (T i) [B, O]) (h0 : A = none → c = 0) (h2 : IntsAt wr wr.heap.size A t.bs) (h3 : ∀ q ∈ [B, O], blkI A t.bs ≠ some q) (hB : Below K w wr) (hs : O < wr.heap.size) :
    (put3 wr O (f * 3) t A c).there O 0 ((n + 1) * 3) ∧ (∀ i, i ≤ n → TdAt (put3 wr O (f * 3) t A c) O (i * 3) (tabT x lw n (d + 1) i) [O]) ∧ Below K w (put3 wr O (f * 3) t A c) ∧ O < (put3 wr O (f * 3) t A c).heap.size := by
  refine ⟨there_put3 tO _ _ _ _ _, fun i hi => ?_, below_put3 hB hK _ _ _ _, by rw [put3_size]; exact hs⟩
  rw [hT]
  by_cases e : i = f
  · subst e
    rw [if_pos rfl]
    exact TdAt.put3_at h0 h2 (fun q hq => h3 q (by simp at hq; subst hq; simp)) (by simp) (isSome_of_there tO (by omega))
  · rw [if_neg e]
    exact ((hrow i hi).less (by simp)).put3_off (by simp) (by omega) _ _ _
/-- Numbers that lie anywhere are put behind those of one's own. -/
theorem wpList_append_ints {P : Program} {w : World} {ops : Array Oper} {rest : List Oper} {o : Oper} {a : Act} {Q : Exit → Act → World → Prop} (hgd : o.guard = none) (s x : Operand) (t : TypeId)
    (ho : o.op = .call { callee := .builtin .append, args := #[s, x], argTypes := #[t, t] })
    (base : Nat) (e : TypeId) (i : TypeInfo) (z : Value) (ht : P.underlying t = some (.slice e)) (hi : P.info? e = some i) (hz : i.zero = some z)
    (hsize : i.size = 1) (hby : i.bytes = 8) (hzs : z.cells.size = 1)
    (v : Value) (n : Nat) (xs : List Int) (hs : a.eval s = v) (hown : w.ownsRow base e 1 v n (xs.map (.int .i64)))
    (A : Option Addr) (c : Nat) (ys : List Int) (hx : a.eval x = .slice A ys.length c) (hA : IntsAt w w.heap.size A ys) (h0 : A = none → c = 0)
    (hsm : n + ys.length ≤ 1000) (hbase : base ≤ w.heap.size)
    (h : ∀ v' w', w'.ownsRow base e 1 v' (n + ys.length) ((xs ++ ys).map (.int .i64)) → w.grownBy w' v.ownBlock → (v'.ownBlock = v.ownBlock ∨ v'.ownBlock = some w.heap.size) → wpList P ops Q rest (a.put o.dst v') w') :
    wpList P ops Q (o :: rest) a w := by
  cases A with
  | none =>
    obtain rfl := h0 rfl
    cases ys with
    | nil =>
      refine wpList_append_own_none hgd s x t ho base e i 1 ht hi v n _ hs hown hx ?_
      have := h v w (by simpa using hown) (World.grownBy.refl _ _) (.inl rfl)
      exact this
    | cons y r => obtain ⟨b, o, h, _⟩ := hA (by simp); cases h
  | some ad =>
    refine wpList_append_own_at _ hgd s x t ho base e i z 1 8 ht hi hz hsize hby hzs (by decide) v n _ hs hown ad ys.length c (ys.map (.int .i64)) hx (by simp) ?_ ?_ (by unfold maxLen; omega) (by omega) hbase ?_
    · intro j u hu
      cases ys with
      | nil => simp at hu
      | cons y r =>
        obtain ⟨b, o, h, _, hc⟩ := hA (by simp)
        injection h with h
        subst h
        rw [List.getElem?_map] at hu
        cases hy : (y :: r)[j]? with
        | none => rw [hy] at hu; cases hu
        | some y' =>
          rw [hy] at hu
          obtain rfl : Value.int .i64 y' = u := by simpa using hu
          rw [Addr.add_mid]
          exact hc j y' hy
    · intro u hu
      obtain ⟨y, _, rfl⟩ := List.mem_map.1 hu
      rfl
    · intro v' w' h1 h2 _ h3
      exact h v' w' (by rw [List.map_append]; exact h1) h2 h3

theorem stepT_wy (o b : Td) : (stepT o b).wy = o.wy + b.wy := by unfold stepT; split <;> rfl
/-- The width of a line of words, by its ends. -/
def lwL (F : Fc) (ws : List (List UInt8)) (f t : Nat) : Int := lineL F (seg ws f t)

set_option maxRecDepth 100000 in
set_option maxHeartbeats 16000000 in
theorem l02Tails_any (F : Fc) (hF : F.ok) (b : Nat) (A : Option Addr) (c : Nat) (ws : List (List UInt8)) (A2 : Option Addr) (c2 : Nat) (x : Int) (w : World) (hv : vface F = true) (hw : ∀ x ∈ ws, x.length ≤ 60 ∧ allCap x) (hn : ws.length ≤ 61) (hc2 : ws.length ≤ c2)
    (hx : 0 ≤ x ∧ x ≤ 4000) (hr : w.rangeAt b 0 (fc F (.slice A F.ps.length c))) (hb : b < w.heap.size) (hA : PairsAt w w.heap.size A F.ps) (hS : StrsAt w w.heap.size A2 (bas ws)) :
    Calls Try.prog 74 #[.pointer (some ⟨b, 0, none⟩), .slice A2 ws.length c2, .int .i64 x] w fun e w' => ∃ O, e = .returned (.slice (some ⟨O, 0, none⟩) (ws.length + 1) (ws.length + 1)) ∧ w.heap.size ≤ O ∧ O < w'.heap.size ∧
      (∀ i, i ≤ ws.length → TdAt w' O (i * 3) (tabT x (lwL F ws) ws.length ws.length i) [O]) ∧ Below w.heap.size w w' := by
  obtain ⟨i0, hq0, hz0, hz1, hz2⟩ := info_parts Try.infoI64
  obtain ⟨i1, hi1, ha0, ha1, ha2⟩ := info_parts Try.infoTail
  have HLN := hide (fun (f k : Nat) (hk : k ≤ ws.length) A2 c2 (W : World) (hB : Below w.heap.size w W) (hS : StrsAt W W.heap.size A2 (bas (seg ws f k))) => by
    have h1 := seg_len ws (a := f) hk
    have := l01Line_any F hF b A c (seg ws f k) A2 c2 W hv (fun y hy => hw y (seg_mem hy)) (by rw [h1]; omega) (rangeAt_below hr hB hb) (Nat.lt_of_lt_of_le hb hB.size) ((hA.below hB).mono hB.size) hS
    rwa [h1] at this)
  have hmk : ∀ W, (Instr.makeSlice 104 (.int .i64 ((ws.length : Int) + 1)) (.int .i64 ((ws.length : Int) + 1))).run Try.prog W = .ok (.slice (some ⟨W.heap.size, 0, none⟩) (ws.length + 1) (ws.length + 1)) (W.alloc (.cells (madeCells #[.int .i64 0, .slice none 0 0, .int .i64 0] ((ws.length + 1) * 3)) 103)) := fun W => by
    have := run_make_rowN (P := Try.prog) 104 103 i1 _ Try.underlying104 hi1 ha0 .i64 .i64 (ws.length + 1) (ws.length + 1) (Nat.le_refl _) (by rw [ha2]; omega) (by omega) W
    rw [show ((ws.length + 1 : Nat) : Int) = (ws.length : Int) + 1 by omega, ha1] at this
    exact this
  obtain ⟨lw, hlw⟩ : ∃ lw, lw = lwL F ws := ⟨_, rfl⟩
  have HLW := hide hlw
  rw [← hlw]
  clear hlw
  obtain ⟨n, hlen⟩ : ∃ n, n = ws.length := ⟨_, rfl⟩
  rw [← hlen] at hn hc2 HLN hmk ⊢
  have HL := hide hlen
  obtain ⟨hx0, hx1⟩ := hx
  have HLWB : Hid (∀ f t, f < t → t ≤ n → 0 ≤ lw f t ∧ lw f t ≤ 222040) := hide (fun f t _ h => by
    rw [HLW.out]
    exact lineL_bd hF hv (fun y hy => hw y (seg_mem hy)) (by rw [seg_len ws (a := f) (by omega)]; omega))
  clear hA hw hr hlen
  have e1 := IntWalk.i64_in ((n : Int) + 1) ⟨by omega, by omega⟩
  have e2 := IntWalk.i64_in ((n : Int) - 1) ⟨by omega, by omega⟩
  go_enter Try.func74, Try.ntmps74
  go_wp2
  have hrow : ∀ i, i ≤ n → TdAt (w.alloc (.cells (madeCells #[.int .i64 0, .slice none 0 0, .int .i64 0] ((n + 1) * 3)) 103)) w.heap.size (i * 3) ⟨0, [], 0⟩ [w.heap.size] := fun i hi =>
    ⟨none, 0, fun _ => rfl, fun j v hj => by
      have h3 : j < 3 := by have := (List.getElem?_eq_some_iff.1 hj).1; simpa [tdc] using this
      have := (rangeAt_new' w (madeCells #[.int .i64 0, .slice none 0 0, .int .i64 0] ((n + 1) * 3)) 103) (i * 3 + j) v (by rw [made3 _ _ _ _ _ _ h3 (by omega)]; exact hj)
      rw [Nat.zero_add] at this; exact this, IntsAt.nil _ _ _, fun q _ h => by cases h⟩
  have tO : (w.alloc (.cells (madeCells #[.int .i64 0, .slice none 0 0, .int .i64 0] ((n + 1) * 3)) 103)).there w.heap.size 0 ((n + 1) * 3) := there_newg rfl (by rw [size_madeCells])
  have b0 : Below w.heap.size w (w.alloc (.cells (madeCells #[.int .i64 0, .slice none 0 0, .int .i64 0] ((n + 1) * 3)) 103)) := (Below.refl _ _).alloc (Nat.le_refl _) _
  have s0 : w.heap.size < (w.alloc (.cells (madeCells #[.int .i64 0, .slice none 0 0, .int .i64 0] ((n + 1) * 3)) 103)).heap.size := by simp
  generalize (w.alloc (.cells (madeCells #[.int .i64 0, .slice none 0 0, .int .i64 0] ((n + 1) * 3)) 103)) = W0 at *
  clear hmk e1 e2
  obtain ⟨O, hO⟩ : ∃ O, O = w.heap.size := ⟨_, rfl⟩
  rw [← hO] at hrow tO s0 ⊢
  have HO := hide hO
  clear hO
  go_loopw [9] (fun fr wr => (∃ d f : Nat, f + d + 1 = n ∧ fr = .int .i64 (f : Int) ∧ wr.there O 0 ((n + 1) * 3) ∧ (∀ i, i ≤ n → TdAt wr O (i * 3) (tabT x lw n d i) [O]) ∧ Below w.heap.size w wr ∧ O < wr.heap.size) ∨
      (fr = .int .i64 (-1) ∧ (∀ i, i ≤ n → TdAt wr O (i * 3) (tabT x lw n n i) [O]) ∧ Below w.heap.size w wr ∧ O < wr.heap.size))
    (fun fr _ => (intOf fr + 1).toNat)
  case atStart =>
    by_cases hn0 : n = 0
    · subst hn0; exact .inr ⟨rfl, hrow, b0, s0⟩
    · exact .inl ⟨0, n - 1, by omega, by congr 1; omega, tO, hrow, b0, s0⟩
  case round =>
    clear hrow tO b0 s0
    rcases hrel with ⟨d, f, hfd, rfl, tO, hrow, hB, hsO⟩ | ⟨rfl, hrow, hB, hsO⟩
    · have hi0 : (0 : Int) ≤ f := by omega
      have e1 := IntWalk.i64_in ((f : Int) + 1) ⟨by omega, by omega⟩
      go_wp2
      have hB1 := hB.alloc hB.size (.cells #[.int .i64 (-1), .slice none 0 0, .int .i64 0] 103)
      have hba : Below wr.heap.size wr (wr.alloc (.cells #[.int .i64 (-1), .slice none 0 0, .int .i64 0] 103)) := (Below.refl _ _).alloc (Nat.le_refl _) _
      have hrow1 : ∀ i, i ≤ n → TdAt (wr.alloc (.cells #[.int .i64 (-1), .slice none 0 0, .int .i64 0] 103)) O (i * 3) (tabT x lw n d i) [wr.heap.size, O] := fun i hi => ((hrow i hi).more (Nat.le_refl _)).go hba hsO
      have tO1 := there_below tO hba hsO
      have tb1 : (wr.alloc (.cells #[.int .i64 (-1), .slice none 0 0, .int .i64 0] 103)).there wr.heap.size 0 3 := there_newg rfl rfl
      have hbest : TdAt (wr.alloc (.cells #[.int .i64 (-1), .slice none 0 0, .int .i64 0] 103)) wr.heap.size 0 (bestT x lw n f (tabT x lw n d) 0) [wr.heap.size, O] :=
        ⟨none, 0, fun _ => rfl, rangeAt_new wr [.int .i64 (-1), .slice none 0 0, .int .i64 0] _, IntsAt.nil _ _ _, fun q _ h => by cases h⟩
      have s1 : wr.heap.size < (wr.alloc (.cells #[.int .i64 (-1), .slice none 0 0, .int .i64 0] 103)).heap.size := by simp
      obtain ⟨B, hBq⟩ : ∃ B, B = wr.heap.size := ⟨_, rfl⟩
      rw [← hBq] at hrow1 tb1 hbest s1 ⊢
      have hOB : O < B := by omega
      have hwB : w.heap.size ≤ B := by rw [hBq]; exact hB.size
      generalize wr.alloc (.cells #[.int .i64 (-1), .slice none 0 0, .int .i64 0] 103) = Wb at *
      clear hrow tO hB hsO hba hBq e1 hi0
      have hTAB : ∀ m, cntT x lw n f = m → ∀ i, tabT x lw n (d + 1) i = if i = f then bestT x lw n f (tabT x lw n d) m else tabT x lw n d i := fun m hm i => by
        have : n - (d + 1) = f := by omega
        rw [tabT, this, hm]
      have HTAB := hide hTAB
      clear hTAB
      have hTB : ∀ i, i ≤ n → tdB n i (tabT x lw n d i) := tabT_bd hx1 (fun f t h1 h2 => (HLWB.out f t h1 h2).1) d (by omega)
      have HTB := hide hTB
      clear hTB
      generalize hTT : tabT x lw n d = T at *
      clear hTT
      go_loopw [11] (fun tq w2 => ∃ m t : Nat, t = f + 1 + m ∧ m ≤ n - f ∧ tq = .int .i64 (t : Int) ∧ Hid (∀ j, j < m → lw f (f + 1 + j) ≤ x) ∧ w2.there B 0 3 ∧ TdAt w2 B 0 (bestT x lw n f T m) [B, O] ∧ w2.there O 0 ((n + 1) * 3) ∧ (∀ i, i ≤ n → TdAt w2 O (i * 3) (T i) [B, O]) ∧ Below w.heap.size w w2 ∧ B < w2.heap.size)
        (fun tq _ => n + 2 - (intOf tq).toNat)
      case atStart => exact ⟨0, f + 1, rfl, by omega, by go_num, hide (fun j h => by omega), tb1, hbest, tO1, hrow1, hB1, s1⟩
      case round =>
        clear hB1 hrow1 tO1 tb1 hbest s1
        obtain ⟨m, t, ht, hm, rfl, hfit, tB, hbest, tO, hrow, hB, hsB⟩ := hrel
        by_cases hle : t ≤ n
        · have hle' : (t : Int) ≤ n := by omega
          have hi0 : (0 : Int) ≤ f := by omega
          have hft : (f : Int) ≤ t := by omega
          have hfc : (f : Int) < c2 := by omega
          have hft1 : (f : Int) ≤ (f : Int) + 1 + m := by omega
          have htc : (f : Int) + 1 + m ≤ c2 := by omega
          have htt : (t : Int) = (f : Int) + 1 + m := by omega
          obtain ⟨hl0, hl1⟩ := HLWB.out f t (by omega) hle
          have hne : bas ws ≠ [] := by intro e; have := congrArg List.length e; simp at this; rw [← List.length_eq_zero_iff, ← HL.out] at this; omega
          obtain ⟨b2, o2, rfl, hb2, hps⟩ := hS hne
          have HLI := HLN.out f t hle (some ⟨b2, o2 + f, none⟩) (c2 - f) wr hB ((strsAt_seg (fun j y hy => (hB.cell (p := ⟨b2, o2 + j, none⟩) hb2).trans (hps j y hy)) hb2 f t).mono hB.size)
          have hL' : lineL F (seg ws f t) = lw f t := by rw [HLW.out]; rfl
          rw [hL'] at HLI
          have HLI := hide HLI
          clear hne hps hL'
          obtain ⟨L, hLq⟩ : ∃ L, L = lw f t := ⟨_, rfl⟩
          rw [← hLq] at HLI hl0 hl1
          have e5 := IntWalk.i64_in (x - L) ⟨by omega, by omega⟩
          have HLQ := hide hLq
          clear hLq
          subst ht
          by_cases hw : L ≤ x
          · have hneg : ¬ x - L < 0 := by omega
            go_wp2_with fail
            refine HLI.out.mono ?_
            rintro e w3 ⟨rfl, hb3⟩
            go_upto_if 47 with fail
            have hb5 : Below w3.heap.size w3 ((w3.alloc (.cells #[] 2)).alloc (.cells #[.int .i64 0, .slice (some ⟨w3.heap.size, 0, none⟩) 0 0, .int .i64 1] 103)) := ((Below.refl _ _).alloc (Nat.le_refl _) _).alloc (by simp) _
            have hs3 := hb3.size
            obtain ⟨q, hq⟩ : ∃ q, q = w3.heap.size + 1 := ⟨_, rfl⟩
            have hqs : q = (w3.alloc (.cells #[] 2)).heap.size := by rw [hq]; simp
            have hBq : B < q := by omega
            have hq5 : TdAt ((w3.alloc (.cells #[] 2)).alloc (.cells #[.int .i64 0, .slice (some ⟨w3.heap.size, 0, none⟩) 0 0, .int .i64 1] 103)) q 0 ⟨0, [], 1⟩ [q, B, O] :=
              ⟨some ⟨w3.heap.size, 0, none⟩, 0, (fun h => by cases h), by rw [hqs]; exact rangeAt_new _ [.int .i64 0, .slice (some ⟨w3.heap.size, 0, none⟩) 0 0, .int .i64 1] _, IntsAt.nil _ _ _, fun q _ h => by cases h⟩
            have tq5 : ((w3.alloc (.cells #[] 2)).alloc (.cells #[.int .i64 0, .slice (some ⟨w3.heap.size, 0, none⟩) 0 0, .int .i64 1] 103)).there q 0 3 := there_newg hqs rfl
            have hs5 : q < ((w3.alloc (.cells #[] 2)).alloc (.cells #[.int .i64 0, .slice (some ⟨w3.heap.size, 0, none⟩) 0 0, .int .i64 1] 103)).heap.size := by rw [hq]; simp
            have hb35 : Below wr.heap.size wr ((w3.alloc (.cells #[] 2)).alloc (.cells #[.int .i64 0, .slice (some ⟨w3.heap.size, 0, none⟩) 0 0, .int .i64 1] 103)) := hb3.trans (hb5.mono hs3)
            have hbest5 := (hbest.more (q := q) (by omega)).go hb35 hsB
            have tB5 := there_below tB hb35 hsB
            have tO5 := there_below tO hb35 (by omega)
            have hB5 := hB.trans (hb35.mono hB.size)
            have hrow5 : ∀ i, i ≤ n → TdAt ((w3.alloc (.cells #[] 2)).alloc (.cells #[.int .i64 0, .slice (some ⟨w3.heap.size, 0, none⟩) 0 0, .int .i64 1] 103)) O (i * 3) (T i) [q, B, O] := fun i hi => ((hrow i hi).more (q := q) (by omega)).go hb35 (by omega)
            generalize ((w3.alloc (.cells #[] 2)).alloc (.cells #[.int .i64 0, .slice (some ⟨w3.heap.size, 0, none⟩) 0 0, .int .i64 1] 103)) = W5 at *
            try simp only [size_alloc]
            rw [← hq]
            clear hb35 hb5 hqs hq hrow hbest tB tO hB
            go_cut [] (fun wx => ¬ (f + 1 + m < n ∧ (T (f + 1 + m)).u < 0) ∧ TdAt wx q 0 (ownT x lw n f (f + 1 + m) T) [q, B, O] ∧ wx.there q 0 3 ∧ TdAt wx B 0 (bestT x lw n f T m) [q, B, O] ∧ wx.there B 0 3 ∧ wx.there O 0 ((n + 1) * 3) ∧ (∀ i, i ≤ n → TdAt wx O (i * 3) (T i) [q, B, O]) ∧ Below w.heap.size w wx ∧ q < wx.heap.size)
            case first =>
              by_cases htn : f + 1 + m < n
              · have htn' : (f : Int) + 1 + m < n := by omega
                have ht0 : (0 : Int) ≤ (f : Int) + 1 + m := by omega
                have htn1 : (f : Int) + 1 + m < (n : Int) + 1 := by omega
                have htN : ((f : Int) + 1 + (m : Int)).toNat = f + 1 + m := by omega
                have hrt := hrow5 (f + 1 + m) (by omega)
                have hTb := HTB.out (f + 1 + m) (by omega)
                obtain ⟨tr, htr⟩ : ∃ tr, tr = T (f + 1 + m) := ⟨_, rfl⟩
                rw [← htr] at hrt hTb
                have HTR := hide htr
                clear htr
                obtain ⟨tu, tbs, tw⟩ := tr
                obtain ⟨At, ct, ht0', ht1, ht2, ht3⟩ := hrt
                have x0 : W5.cell? ⟨O, (f + 1 + m) * 3, none⟩ = some (.int .i64 tu) := ht1 0 _ rfl
                have x1 : W5.cell? ⟨O, (f + 1 + m) * 3 + 1, none⟩ = some (.slice At tbs.length ct) := ht1 1 _ rfl
                have x2 : W5.cell? ⟨O, (f + 1 + m) * 3 + 2, none⟩ = some (.int .i64 tw) := ht1 2 _ rfl
                by_cases hu : tu < 0
                · have hst : bestT x lw n f T (m + 1) = bestT x lw n f T m := by
                    rw [bestT, roundT, if_pos ⟨htn, by rw [← HTR.out]; exact hu⟩]
                  have HST := hide hst
                  have HROW := hide hrow5
                  clear hst hrow5 ht1 ht2 ht3 hTb
                  go_wp2_with fail
                  refine ⟨⟨m + 1, f + 1 + (m + 1), rfl, by omega, by go_num, hide (fun j hj => ?_), tB5, ?_, tO5, fun i hi => (HROW.out i hi).less (by simp), hB5, by omega⟩, by simp [intOf]; omega⟩
                  · rcases Nat.lt_or_ge j m with h | h
                    · exact hfit.out j h
                    · obtain rfl : j = m := by omega
                      rw [← HLQ.out]; exact hw
                  · rw [HST.out]
                    exact hbest5.less (by simp)
                · have hsq := sq_bd (a := x - L) (by omega) (by omega)
                  have htu := hTb.u1
                  have htl := hTb.bl
                  simp only at htu htl
                  have e6 := IntWalk.i64_in ((x - L) * (x - L)) ⟨by omega, by omega⟩
                  have e7 := IntWalk.i64_in ((x - L) * (x - L) + tu) ⟨by omega, by omega⟩
                  obtain ⟨vq0, yq0, fq0⟩ := there_some tq5 (j := 0) (by omega)
                  rw [Nat.zero_add] at yq0 fq0
                  have hot : ownT x lw n f (f + 1 + m) T = ⟨(x - L) * (x - L) + tu, ((f + 1 + m : Nat) : Int) :: tbs, tw⟩ := by
                    rw [ownT, if_pos htn, ← HTR.out, ← HLQ.out]
                  have HOT := hide hot
                  have hng : ¬ (f + 1 + m < n ∧ (T (f + 1 + m)).u < 0) := fun h => hu (by have := h.2; rw [← HTR.out] at this; exact this)
                  have HNG := hide hng
                  clear ht1 hTb hot hng
                  go_upto_region 16 with fail
                  generalize hV : (x - L) * (x - L) + tu = V at *
                  have HV := hide hV
                  clear hV
                  have hown6 := hq5.setn (by simp) 0 (by omega) (.int .i64 V) ⟨V, [], 1⟩ (fun A c => rfl) rfl
                  have hbest6 : TdAt (W5.setCell ⟨q, 0, none⟩ (.int .i64 V)) B 0 (bestT x lw n f T m) [q, B, O] := hbest5.set (by simp) (.inl (by omega)) _
                  have tq6 := there_set tq5 ⟨q, 0, none⟩ (.int .i64 V)
                  have tB6 := there_set tB5 ⟨q, 0, none⟩ (.int .i64 V)
                  have tO6 := there_set tO5 ⟨q, 0, none⟩ (.int .i64 V)
                  have hB6 := hB5.setCell (p := ⟨q, 0, none⟩) (show w.heap.size ≤ q by omega) (.int .i64 V)
                  have hs6 : q < (W5.setCell ⟨q, 0, none⟩ (.int .i64 V)).heap.size := by rw [size_setCell]; exact hs5
                  have hrow6 : ∀ i, i ≤ n → TdAt (W5.setCell ⟨q, 0, none⟩ (.int .i64 V)) O (i * 3) (T i) [q, B, O] := fun i hi => (hrow5 i hi).set (by simp) (.inl (by omega)) _
                  have hIt : IntsAt (W5.setCell ⟨q, 0, none⟩ (.int .i64 V)) (W5.setCell ⟨q, 0, none⟩ (.int .i64 V)).heap.size At tbs := by
                    have h := hrow6 (f + 1 + m) (by omega)
                    intro hn
                    obtain ⟨b', o', rfl, hlt, hc⟩ := ht2 hn
                    have hne : q ≠ b' := fun e => ht3 q (by simp) (by rw [blkI_some hn, e])
                    refine ⟨b', o', rfl, by rw [size_setCell]; exact hlt, fun k x hx => ?_⟩
                    rw [World.cell?_setCell_other _ _ _ _ (by intro h; injection h with h _; exact hne h)]
                    exact hc k x hx
                  have x1' : (W5.setCell ⟨q, 0, none⟩ (.int .i64 V)).cell? ⟨O, (f + 1 + m) * 3 + 1, none⟩ = some (.slice At tbs.length ct) := by
                    rw [World.cell?_setCell_other _ _ _ _ (by intro h; injection h with h _; omega)]; exact x1
                  have x2' : (W5.setCell ⟨q, 0, none⟩ (.int .i64 V)).cell? ⟨O, (f + 1 + m) * 3 + 2, none⟩ = some (.int .i64 tw) := by
                    rw [World.cell?_setCell_other _ _ _ _ (by intro h; injection h with h _; omega)]; exact x2
                  clear hq5 hbest5 tq5 tB5 tO5 hB5 hs5 hrow5 x0 x1 x2 yq0 fq0 ht2 ht3 e6 e7 hsq
                  generalize W5.setCell ⟨q, 0, none⟩ (.int .i64 V) = W6 at *
                  have x1a : (W6.alloc (.cells #[.int .i64 ((f : Int) + 1 + m)] 2)).cell? ⟨O, (f + 1 + m) * 3 + 1, none⟩ = some (.slice At tbs.length ct) := (((Below.refl _ _).alloc (Nat.le_refl _) _).cell (p := ⟨O, (f + 1 + m) * 3 + 1, none⟩) (show O < W6.heap.size by omega)).trans x1'
                  go_wp2_with (at_builtin; refine wpList_append_ints rfl (.tmp 65) (.tmp 70) 41 rfl W6.heap.size 2 i0 (.int .i64 0) Try.underlying41 hq0 hz0 hz1 hz2 rfl _ 1 [(f : Int) + 1 + m] rfl (World.ownsRow_lit W6 #[.int .i64 ((f : Int) + 1 + m)] 1 (Nat.le_refl _) (by unfold maxLen; omega) rfl) At ct tbs rfl ?c1 ht0' ?c2 (by simp) ?_)
                  case c1 => simpa using hIt.go ((Below.refl W6.heap.size W6).alloc (Nat.le_refl _) (.cells #[.int .i64 ((f : Int) + 1 + m)] 2))
                  case c2 => omega
                  intro v' w7 hown7 hg7 _
                  obtain ⟨A5, c5, hv5, hc5, hI5⟩ := intsIn_of_own (xs := [(f : Int) + 1 + m] ++ tbs) hown7
                  have hlen : 1 + tbs.length = tbs.length + 1 := by omega
                  rw [hlen] at hv5
                  clear hlen
                  subst hv5
                  have hb7 : Below W6.heap.size W6 w7 := ((Below.refl _ _).alloc (Nat.le_refl _) _).grown hg7 (by simp) (fun k hk => Nat.le_of_eq (show W6.heap.size = k by simpa [Value.ownBlock] using hk))
                  have hown8 := hown6.go hb7 hs6
                  have hbest7 := hbest6.go hb7 (by omega)
                  have tq7 := there_below tq6 hb7 hs6
                  have tB7 := there_below tB6 hb7 (by omega)
                  have tO7 := there_below tO6 hb7 (by omega)
                  have hB7 := hB6.trans (hb7.mono hB6.size)
                  have hs7 : q < w7.heap.size := Nat.lt_of_lt_of_le hs6 hb7.size
                  have hrow7 : ∀ i, i ≤ n → TdAt w7 O (i * 3) (T i) [q, B, O] := fun i hi => (hrow6 i hi).go hb7 (by omega)
                  have x2'' := (hb7.cell (p := ⟨O, (f + 1 + m) * 3 + 2, none⟩) (show O < W6.heap.size by omega)).trans x2'
                  have hbk : ∀ r ∈ [q, B, O], blkI A5 ([(f : Int) + 1 + m] ++ tbs) ≠ some r := fun r hr e => by
                    have := (blkI_bd hI5 r e).1
                    simp at hr
                    omega
                  have hA5 : A5 = none → c5 = 0 := fun h => by
                    obtain ⟨b', o', e, _⟩ := hI5 (by simp)
                    rw [h] at e; cases e
                  have hown9 : TdAt (w7.setCell ⟨q, 1, none⟩ (.slice A5 (tbs.length + 1) c5)) q 0 ⟨V, ((f : Int) + 1 + m) :: tbs, 1⟩ [q, B, O] := hown8.setb (bs := ((f : Int) + 1 + m) :: tbs) (by simp) (c := c5) hA5 hI5.at_ hbk
                  have hbest8 : TdAt (w7.setCell ⟨q, 1, none⟩ (.slice A5 (tbs.length + 1) c5)) B 0 (bestT x lw n f T m) [q, B, O] := hbest7.set (by simp) (.inl (by omega)) _
                  have tq8 := there_set tq7 ⟨q, 1, none⟩ (.slice A5 (tbs.length + 1) c5)
                  have tB8 := there_set tB7 ⟨q, 1, none⟩ (.slice A5 (tbs.length + 1) c5)
                  have tO8 := there_set tO7 ⟨q, 1, none⟩ (.slice A5 (tbs.length + 1) c5)
                  have hB8 := hB7.setCell (p := ⟨q, 1, none⟩) (show w.heap.size ≤ q by omega) (.slice A5 (tbs.length + 1) c5)
                  have hs8 : q < (w7.setCell ⟨q, 1, none⟩ (.slice A5 (tbs.length + 1) c5)).heap.size := by rw [size_setCell]; exact hs7
                  have hrow8 : ∀ i, i ≤ n → TdAt (w7.setCell ⟨q, 1, none⟩ (.slice A5 (tbs.length + 1) c5)) O (i * 3) (T i) [q, B, O] := fun i hi => (hrow7 i hi).set (by simp) (.inl (by omega)) _
                  have x28 : (w7.setCell ⟨q, 1, none⟩ (.slice A5 (tbs.length + 1) c5)).cell? ⟨O, (f + 1 + m) * 3 + 2, none⟩ = some (.int .i64 tw) := by
                    rw [World.cell?_setCell_other _ _ _ _ (by intro h; injection h with h _; omega)]; exact x2''
                  obtain ⟨_, yq1, fq1⟩ := there_some tq7 (j := 1) (by omega)
                  rw [Nat.zero_add] at yq1 fq1
                  clear hown6 hbest6 tq6 tB6 tO6 hB6 hs6 hrow6 hIt x1' x1a x2' x2'' hown7 hg7 hI5 hb7 hown8 hbest7 tq7 tB7 tO7 hB7 hs7 hrow7 hA5 hbk
                  go_upto_region 17 with fail
                  generalize w7.setCell ⟨q, 1, none⟩ (.slice A5 (tbs.length + 1) c5) = W8 at *
                  clear yq1 fq1
                  obtain ⟨_, yq2, fq2⟩ := there_some tq8 (j := 2) (by omega)
                  rw [Nat.zero_add] at yq2 fq2
                  have hsB8 : q < (W8.setCell ⟨q, 2, none⟩ (.int .i64 tw)).heap.size := by rw [size_setCell]; exact hs8
                  go_wp2_with fail
                  go_meet
                  refine ⟨HNG.out, ?_, there_set tq8 _ _, hbest8.set (by simp) (.inl (by omega)) _, there_set tB8 _ _, there_set tO8 _ _, fun i hi => (hrow8 i hi).set (by simp) (.inl (by omega)) _, hB8.setCell (show w.heap.size ≤ q by omega) _, hsB8⟩
                  rw [HOT.out]
                  exact hown9.setn (by simp) 2 (by omega) _ _ (fun A c => by rw [show ((f + 1 + m : Nat) : Int) = (f : Int) + 1 + m by omega]; rfl) (by simp only; rw [show ((f + 1 + m : Nat) : Int) = (f : Int) + 1 + m by omega])
              · have htn' : ¬ (f : Int) + 1 + m < n := by omega
                go_wp2_with fail
                go_meet
                refine ⟨fun h => htn h.1, ?_, tq5, hbest5, tB5, tO5, hrow5, hB5, hs5⟩
                unfold ownT
                rw [if_neg htn]
                exact hq5
            case rest =>
              obtain ⟨hgo, hown, tq, hbest, tB, tO, hrow, hB, hs⟩ := hcut
              have hstep : bestT x lw n f T (m + 1) = stepT (ownT x lw n f (f + 1 + m) T) (bestT x lw n f T m) := by
                rw [bestT, roundT, if_neg hgo]
              have hfit' : Hid (∀ j, j < m + 1 → lw f (f + 1 + j) ≤ x) := hide (fun j hj => by
                rcases Nat.lt_or_ge j m with h | h
                · exact hfit.out j h
                · obtain rfl : j = m := by omega
                  rw [← HLQ.out]; exact hw)
              have hbd := bestT_bd (x := x) (lw := lw) (n := n) (f := f) (T := T) (by omega) hx1 (fun t h1 h2 => (HLWB.out f t h1 h2).1) (fun t _ h2 => HTB.out t h2) (m + 1) (by omega) hfit'.out
              have hbm := bestT_bd (x := x) (lw := lw) (n := n) (f := f) (T := T) (by omega) hx1 (fun t h1 h2 => (HLWB.out f t h1 h2).1) (fun t _ h2 => HTB.out t h2) m (by omega) hfit.out
              have hpw := pw_le (k := n - f) (by omega)
              have hob : (ownT x lw n f (f + 1 + m) T).bs.length ≤ 61 := by
                unfold ownT
                split
                · have := (HTB.out (f + 1 + m) (by omega)).bl
                  simp only [List.length_cons]; omega
                · simp
              rw [hstep, stepT_wy] at hbd
              have hbl := hbm.2.2.2.2
              have hbl : (bestT x lw n f T m).bs.length ≤ 61 := by omega
              have e8 := IntWalk.i64_in ((ownT x lw n f (f + 1 + m) T).wy + (bestT x lw n f T m).wy) ⟨by omega, by omega⟩
              have HSTEP := hide hstep
              clear hstep hbd hpw hbm hgo
              generalize ownT x lw n f (f + 1 + m) T = o at *
              generalize bestT x lw n f T m = bt at *
              obtain ⟨ou, obs, ow⟩ := o
              obtain ⟨u, bs, wy⟩ := bt
              have hown6 := hown.setn (by simp) 2 (by omega) (.int .i64 (ow + wy)) ⟨ou, obs, ow + wy⟩ (fun A c => rfl) rfl
              have hbest6 : TdAt (wc.setCell ⟨q, 2, none⟩ (.int .i64 (ow + wy))) B 0 ⟨u, bs, wy⟩ [q, B, O] := hbest.set (by simp) (.inl (by omega)) _
              have tB6 := there_set tB ⟨q, 2, none⟩ (.int .i64 (ow + wy))
              have tO6 := there_set tO ⟨q, 2, none⟩ (.int .i64 (ow + wy))
              have hB6 := hB.setCell (p := ⟨q, 2, none⟩) (show w.heap.size ≤ q by omega) (.int .i64 (ow + wy))
              have hs6 : q < (wc.setCell ⟨q, 2, none⟩ (.int .i64 (ow + wy))).heap.size := by rw [size_setCell]; exact hs
              have hrow6 : ∀ i, i ≤ n → TdAt (wc.setCell ⟨q, 2, none⟩ (.int .i64 (ow + wy))) O (i * 3) (T i) [q, B, O] := fun i hi => (hrow i hi).set (by simp) (.inl (by omega)) _
              obtain ⟨Ao, co, ho0, ho1, ho2, ho3⟩ := hown
              obtain ⟨Ab, cb, hb0, hb1, hb2', hb3'⟩ := hbest
              have y2 : wc.cell? ⟨q, 2, none⟩ = some (.int .i64 ow) := ho1 2 _ rfl
              have z2 : wc.cell? ⟨B, 2, none⟩ = some (.int .i64 wy) := hb1 2 _ rfl
              obtain ⟨_, _, fq2⟩ := there_some tq (j := 2) (by omega)
              rw [Nat.zero_add] at fq2
              clear ho0 ho1 ho2 ho3 hb0 hb1 hb2' hb3' hrow hB tO tB tq
              go_upto_region 19 with fail
              generalize wc.setCell ⟨q, 2, none⟩ (.int .i64 (ow + wy)) = W6 at *
              clear y2 z2 fq2
              go_cut [108] (fun r wx => r = .bool (better ⟨ou, obs, ow + wy⟩ ⟨u, bs, wy⟩) ∧ Below W6.heap.size W6 wx)
              case first =>
                obtain ⟨Ao, co, ho0, ho1, ho2, ho3⟩ := hown6
                obtain ⟨Ab, cb, hb0, hb1, hb2', hb3'⟩ := hbest6
                have y0 := rangeAt_cell ho1 (k := 0) rfl
                have y1 := rangeAt_cell ho1 (k := 1) rfl
                have z0 := rangeAt_cell hb1 (k := 0) rfl
                have z1 := rangeAt_cell hb1 (k := 1) rfl
                simp only at y1 z1
                have HBF := hide (l02Before_any Ao Ab obs bs co cb W6 (by unfold maxLen; simp only at hob; omega) (by unfold maxLen; simp only at hbl; omega) ho2 hb2')
                clear ho0 ho1 ho2 ho3 hb0 hb1 hb2' hb3' hrow6 hB6 tO6 tB6 hbest5 hB5 hrow5 hq5 tq5 tB5 tO5
                by_cases h1 : u < 0
                · have d1 : decide (u < 0) = true := by simp [h1]
                  go_wp2_with fail
                  go_meet
                  exact ⟨congrArg Value.bool (by simp [better, d1]), Below.refl _ _⟩
                · have d1 : decide (u < 0) = false := by simp [h1]
                  by_cases h2 : ou < u
                  · have d2 : decide (ou < u) = true := by simp [h2]
                    go_wp2_with fail
                    go_meet
                    exact ⟨congrArg Value.bool (by simp [better, d2]), Below.refl _ _⟩
                  · have d2 : decide (ou < u) = false := by simp [h2]
                    by_cases h3 : ou = u
                    · have d3 : decide (ou = u) = true := by simp [h3]
                      have d4 : (ou == u) = true := by simp [h3]
                      have hbt : better ⟨ou, obs, ow + wy⟩ ⟨u, bs, wy⟩ = lexL obs bs := by simp [better, d1, d2, d3]
                      have HBT := hide hbt
                      clear hbt h3
                      go_wp2_with (go_at_call 135; refine HBF.out.mono ?_; rintro e w1 ⟨rfl, hb1⟩)
                      go_meet
                      exact ⟨congrArg Value.bool (HBT.out.symm), hb1⟩
                    · have d3 : decide (ou = u) = false := by simp [h3]
                      have d4 : (ou == u) = false := by simp [h3]
                      have hbt : better ⟨ou, obs, ow + wy⟩ ⟨u, bs, wy⟩ = false := by simp [better, d1, d2, d3]
                      have HBT := hide hbt
                      clear hbt
                      go_wp2_with fail
                      go_meet
                      exact ⟨congrArg Value.bool (HBT.out.symm), Below.refl _ _⟩
              case rest =>
                obtain ⟨rfl, hb7⟩ := hcut
                have hbS : B < W6.heap.size := by omega
                have hown7 := hown6.go hb7 hs6
                have hbest7 := hbest6.go hb7 hbS
                have tB7 := there_below tB6 hb7 hbS
                have tO7 := there_below tO6 hb7 (by omega)
                have hB7 := hB6.trans (hb7.mono hB6.size)
                have hrow7 : ∀ i, i ≤ n → TdAt wc O (i * 3) (T i) [q, B, O] := fun i hi => (hrow6 i hi).go hb7 (by omega)
                have hs7 : q < wc.heap.size := Nat.lt_of_lt_of_le hs6 hb7.size
                clear hown6 hbest6 tB6 tO6 hB6 hrow6 hb7 hbest5 hB5 hrow5 hq5 tq5 tB5 tO5 hs6 hbS
                obtain ⟨_, _, fB0⟩ := there_some tB7 (j := 0) (by omega)
                obtain ⟨_, _, fB1⟩ := there_some tB7 (j := 1) (by omega)
                obtain ⟨_, _, fB2⟩ := there_some tB7 (j := 2) (by omega)
                rw [Nat.zero_add] at fB0 fB1 fB2
                have hown7' := hown7
                have hbest7' := hbest7
                obtain ⟨Ao, co, ho0, ho1, ho2, ho3⟩ := hown7
                obtain ⟨Ab, cb, hb0, hb1, hb2', hb3'⟩ := hbest7
                have y0 := rangeAt_cell ho1 (k := 0) rfl
                have y1 := rangeAt_cell ho1 (k := 1) rfl
                have y2 := rangeAt_cell ho1 (k := 2) rfl
                have z0 := rangeAt_cell hb1 (k := 0) rfl
                have z1 := rangeAt_cell hb1 (k := 1) rfl
                have z2 := rangeAt_cell hb1 (k := 2) rfl
                simp only at y1 z1 y2 z2
                cases hbt : better ⟨ou, obs, ow + wy⟩ ⟨u, bs, wy⟩
                · have hst : bestT x lw n f T (m + 1) = ⟨u, bs, ow + wy⟩ := by
                    rw [HSTEP.out, stepT, if_neg (by rw [show better ⟨ou, obs, ow⟩ ⟨u, bs, wy⟩ = better ⟨ou, obs, ow + wy⟩ ⟨u, bs, wy⟩ from rfl, hbt]; decide)]
                  have HST := hide hst
                  clear hst hbt ho0 ho1 ho2 ho3 hb0 hb1 hb2' hb3'
                  go_wp2_with fail
                  refine ⟨⟨m + 1, f + 1 + (m + 1), rfl, by omega, by go_num, hfit', there_set tB7 _ _, ?_, there_set tO7 _ _, fun i hi => ((hrow7 i hi).less (by simp)).set (by simp) (.inl (by omega)) _, hB7.setCell (show w.heap.size ≤ B by omega) _, by rw [size_setCell]; omega⟩, by simp [intOf]; omega⟩
                  rw [HST.out]
                  exact (hbest7'.less (by simp)).setn (by simp) 2 (by omega) _ _ (fun A c => rfl) rfl
                · have hst : bestT x lw n f T (m + 1) = ⟨ou, obs, ow + wy⟩ := by
                    rw [HSTEP.out, stepT, if_pos (by rw [show better ⟨ou, obs, ow⟩ ⟨u, bs, wy⟩ = better ⟨ou, obs, ow + wy⟩ ⟨u, bs, wy⟩ from rfl, hbt])]
                  have HST := hide hst
                  have HP := hide (TdAt.put3_at (w := wc) (b := B) (o := 0) (Os := [B, O]) (t := ⟨ou, obs, ow + wy⟩) ho0 ho2 (fun q hq => ho3 q (List.mem_cons_of_mem _ hq)) (by simp) (isSome_of_there tB7 (by omega)))
                  clear hst hbt ho0 ho1 ho2 ho3 hb0 hb1 hb2' hb3'
                  go_wp2_with fail
                  refine ⟨⟨m + 1, f + 1 + (m + 1), rfl, by omega, by go_num, hfit', there_set (there_set (there_set tB7 _ _) _ _) _ _, ?_, there_set (there_set (there_set tO7 _ _) _ _) _ _, fun i hi => ((hrow7 i hi).less (by simp)).put3_off (by simp) (.inl (by omega)) ⟨ou, obs, ow + wy⟩ Ao co, below_put3 hB7 (show w.heap.size ≤ B by omega) 0 ⟨ou, obs, ow + wy⟩ Ao co, by rw [size_setCell, size_setCell, size_setCell]; omega⟩, by simp [intOf]; omega⟩
                  rw [HST.out]
                  exact HP.out
          · have hneg : x - L < 0 := by omega
            have hif : (f : Int) < (n : Int) + 1 := by omega
            have e3 := IntWalk.i64_in ((f : Int) - 1) ⟨by omega, by omega⟩
            go_wp2_with fail
            refine HLI.out.mono ?_
            rintro e w3 ⟨rfl, hb3⟩
            replace hbest := hbest.go hb3 hsB
            replace tO := there_below tO hb3 (by omega)
            replace hB := hB.trans (hb3.mono hB.size)
            have hrow3 : ∀ i, i ≤ n → TdAt w3 O (i * 3) (T i) [B, O] := fun i hi => (hrow i hi).go hb3 (by omega)
            have hs3 := hb3.size
            obtain ⟨A3, c3, h4, h1, h2, h3⟩ := hbest
            have HT1 := hide (HTAB.out m (cntT_eq hm hfit.out (.inr (by rw [← HLQ.out]; omega))))
            generalize bestT x lw n f T m = bt at h1 h2 h3 HT1
            obtain ⟨u, bs, wy⟩ := bt
            have c0 : w3.cell? ⟨B, 0, none⟩ = some (.int .i64 u) := h1 0 _ rfl
            have c1 : w3.cell? ⟨B, 1, none⟩ = some (.slice A3 bs.length c3) := h1 1 _ rfl
            have c2' : w3.cell? ⟨B, 2, none⟩ = some (.int .i64 wy) := h1 2 _ rfl
            obtain ⟨v0, d0, f0⟩ := there_some tO (j := f * 3) (by omega)
            obtain ⟨v1, d1, f1⟩ := there_some tO (j := f * 3 + 1) (by omega)
            obtain ⟨v2, d2, f2⟩ := there_some tO (j := f * 3 + 2) (by omega)
            rw [Nat.zero_add] at d0 d1 d2 f0 f1 f2
            have HP := hide (tab_put (A := A3) (c := c3) hfd (by rw [HO.out]; exact Nat.le_refl _) HT1.out tO hrow3 h4 h2 h3 hB (by omega))
            clear tO hrow hrow3 tB
            go_wp2
            refine ⟨?_, by simp [intOf]⟩
            by_cases hf0 : f = 0
            · exact .inr ⟨by congr 1; omega, by have h := HP.out.2.1; rw [show d + 1 = n by omega] at h; exact h, HP.out.2.2.1, HP.out.2.2.2⟩
            · exact .inl ⟨d + 1, f - 1, by omega, by congr 1; omega, HP.out⟩
        · have hle' : ¬ (t : Int) ≤ n := by omega
          have hi0 : (0 : Int) ≤ f := by omega
          have hif : (f : Int) < (n : Int) + 1 := by omega
          have e3 := IntWalk.i64_in ((f : Int) - 1) ⟨by omega, by omega⟩
          obtain ⟨A3, c3, h4, h1, h2, h3⟩ := hbest
          have HT1 := hide (HTAB.out m (cntT_eq hm hfit.out (.inl (by omega))))
          generalize bestT x lw n f T m = bt at h1 h2 h3 HT1
          obtain ⟨u, bs, wy⟩ := bt
          have c0 : wr.cell? ⟨B, 0, none⟩ = some (.int .i64 u) := h1 0 _ rfl
          have c1 : wr.cell? ⟨B, 1, none⟩ = some (.slice A3 bs.length c3) := h1 1 _ rfl
          have c2' : wr.cell? ⟨B, 2, none⟩ = some (.int .i64 wy) := h1 2 _ rfl
          obtain ⟨v0, d0, f0⟩ := there_some tO (j := f * 3) (by omega)
          obtain ⟨v1, d1, f1⟩ := there_some tO (j := f * 3 + 1) (by omega)
          obtain ⟨v2, d2, f2⟩ := there_some tO (j := f * 3 + 2) (by omega)
          rw [Nat.zero_add] at d0 d1 d2 f0 f1 f2
          clear tB
          have HP := hide (tab_put (A := A3) (c := c3) hfd (by rw [HO.out]; exact Nat.le_refl _) HT1.out tO hrow h4 h2 h3 hB (by omega))
          clear tO hrow
          go_wp2
          refine ⟨?_, by simp [intOf]⟩
          by_cases hf0 : f = 0
          · exact .inr ⟨by congr 1; omega, by have h := HP.out.2.1; rw [show d + 1 = n by omega] at h; exact h, HP.out.2.2.1, HP.out.2.2.2⟩
          · exact .inl ⟨d + 1, f - 1, by omega, by congr 1; omega, HP.out⟩
    · go_wp2
      go_ret
      exact ⟨O, rfl, by rw [HO.out]; exact Nat.le_refl _, hsO, hrow, hB⟩
end Go.Proofs.Ytgklhdacnklhdaa
