/- Words are not empty; the widest word; how many words fit. · A loop over the words of a text. · Texts of one's own lie on where another block is written. -/
import Derived.Test.YtngondeaeipcfaaGreatDoorG7
import Derived.Test.YtngondeaeipcfaaGreatDoorG6
import Derived.Test.YtngondeaeipcfaaGreatDoorG1
import Derived.Test.YtngondeaeipcfaaGreatDoorG2

namespace Go.Proofs.YtngondeaeipcfaaGreatDoor
open Go Go.RowKit

/-- No blank at the end, none behind a blank. -/
def goodT (L : List UInt8) : Prop := ∀ i, byteAt L i = 32 → i < L.length → i + 1 < L.length ∧ byteAt L (i + 1) ≠ 32
theorem byteAt_cons1 (c : UInt8) (cs : List UInt8) (i : Nat) : byteAt (c :: cs) (i + 1) = byteAt cs i := by simp [byteAt]
theorem byteAt_head (c : UInt8) (cs : List UInt8) : byteAt (c :: cs) 0 = c.toNat := by simp [byteAt]
theorem goodT_tail {c : UInt8} {cs : List UInt8} (h : goodT (c :: cs)) : goodT cs := fun i hi hl => by
  have := h (i + 1) (by rw [byteAt_cons1]; exact hi) (by simpa using hl)
  rw [byteAt_cons1] at this
  simpa using this
theorem split_ne : ∀ L : List UInt8, goodT L → ∃ h t, splitL L = h :: t ∧ (∀ x ∈ t, x ≠ []) ∧ (L ≠ [] → byteAt L 0 ≠ 32 → h ≠ [])
  | [], _ => ⟨[], [], rfl, by simp, fun h => (h rfl).elim⟩
  | c :: cs, hg => by
    obtain ⟨h, t, e, h1, h2⟩ := split_ne cs (goodT_tail hg)
    by_cases hc : c = 32
    · subst hc
      have := hg 0 (by rw [byteAt_head]; rfl) (by simp)
      rw [byteAt_cons1] at this
      refine ⟨[], splitL cs, by rw [splitL_32], ?_, fun _ hh => absurd (by rw [byteAt_head]; rfl) hh⟩
      rw [e]
      intro x hx
      rcases List.mem_cons.1 hx with rfl | hx
      · exact h2 (by intro e; subst e; simp at this) this.2
      · exact h1 x hx
    · refine ⟨c :: h, t, by rw [splitL_other _ hc, e]; rfl, h1, fun _ _ => by simp⟩
theorem goodT_of {L : List UInt8} (h : vtext L = true) : goodT L := fun i hi hl => by
  obtain ⟨_, hg⟩ := vtext_true.1 h
  have h1 := hg i hl
  unfold good at h1
  rw [cap_32 hi] at h1
  rcases h1 with ⟨_, h2, h3, _⟩ | h1
  · refine ⟨h3, fun h4 => ?_⟩
    have h5 := hg (i + 1) h3
    unfold good at h5
    rw [cap_32 h4] at h5
    rcases h5 with ⟨_, _, _, h6⟩ | h5
    · exact h6 (by simpa using hi)
    · cases h5
  · cases h1
theorem words_ne {L x : List UInt8} (h : vtext L = true) (hx : x ∈ wordsL L) : x ≠ [] := by
  unfold wordsL at hx
  split at hx
  · simp at hx
  · rename_i hn
    obtain ⟨y, t, e, h1, h2⟩ := split_ne L (goodT_of h)
    rw [e] at hx
    rcases List.mem_cons.1 hx with rfl | hx
    · refine h2 hn (fun h0 => ?_)
      have := (vtext_true.1 h).2 0 (List.length_pos_iff.2 hn)
      unfold good at this
      rw [cap_32 h0] at this
      rcases this with ⟨_, h3, _⟩ | h3
      · omega
      · cases h3
    · exact h1 x hx
theorem wideL_pos {F : Fc} (hF : F.ok) (h : vface F = true) {L : List UInt8} (hc : allCap L) (hn : L ≠ []) : 1 ≤ wideL F L := by
  have := (wideTo_bd hF h hc L.length (Nat.le_refl _)).1
  have := List.length_pos_iff.2 hn
  unfold wideL; omega

/-- The widest one of the first words: its index and its width. -/
def wiTo (F : Fc) (ws : List (List UInt8)) : Nat → Nat × Int
  | 0 => (0, 0)
  | k + 1 => if (wiTo F ws k).2 < wideL F (ws.getD k []) then (k, wideL F (ws.getD k [])) else wiTo F ws k
theorem wiTo_bd {F : Fc} {ws : List (List UInt8)} (hw : ∀ k, k < ws.length → 0 ≤ wideL F (ws.getD k []) ∧ wideL F (ws.getD k []) ≤ 3600) : ∀ k, k ≤ ws.length → (wiTo F ws k).1 ≤ k ∧ 0 ≤ (wiTo F ws k).2 ∧ (wiTo F ws k).2 ≤ 3600
  | 0, _ => by simp [wiTo]
  | k + 1, hk => by
    have ih := wiTo_bd hw k (by omega)
    have := hw k (by omega)
    rw [wiTo]; split
    · exact ⟨by dsimp only; omega, this⟩
    · omega
theorem wiTo_next {F : Fc} {ws : List (List UInt8)} {k : Nat} (h : (wiTo F ws k).2 < wideL F (ws.getD k [])) : wiTo F ws (k + 1) = (k, wideL F (ws.getD k [])) := by rw [wiTo, if_pos h]
theorem wiTo_same {F : Fc} {ws : List (List UInt8)} {k : Nat} (h : ¬ (wiTo F ws k).2 < wideL F (ws.getD k [])) : wiTo F ws (k + 1) = wiTo F ws k := by rw [wiTo, if_neg h]
noncomputable def wiC (F : Fc) (L : List UInt8) : Int := if vface F = true ∧ vtext L = true then (if L = [] then 6 else 0) else 1
noncomputable def wiI (F : Fc) (L : List UInt8) : Int := if wiC F L = 0 then ((wiTo F (wordsL L) (wordsL L).length).1 : Int) else 0
noncomputable def wiV (F : Fc) (L : List UInt8) : Int := if wiC F L = 0 then (wiTo F (wordsL L) (wordsL L).length).2 else 0
theorem wi_no {F : Fc} {L : List UInt8} (h : ¬ (vface F = true ∧ vtext L = true)) : wiC F L = 1 ∧ wiI F L = 0 ∧ wiV F L = 0 ∧ askC F L true = 1 := by
  have e : wiC F L = 1 := by unfold wiC; rw [if_neg h]
  exact ⟨e, by unfold wiI; rw [e, if_neg (by decide)], by unfold wiV; rw [e, if_neg (by decide)], ask_no h⟩
theorem wi_empty {F : Fc} {L : List UInt8} (h1 : vface F = true) (h2 : vtext L = true) (h : L = []) : wiC F L = 6 ∧ wiI F L = 0 ∧ wiV F L = 0 ∧ askC F L true = 0 := by
  have e : wiC F L = 6 := by unfold wiC; rw [if_pos ⟨h1, h2⟩, if_pos h]
  exact ⟨e, by unfold wiI; rw [e, if_neg (by decide)], by unfold wiV; rw [e, if_neg (by decide)], by rw [ask_ok h1 h2]; rfl⟩
theorem wi_ok {F : Fc} {L : List UInt8} (h1 : vface F = true) (h2 : vtext L = true) (h : L ≠ []) : wiC F L = 0 ∧ wiI F L = ((wiTo F (wordsL L) (wordsL L).length).1 : Int) ∧ wiV F L = (wiTo F (wordsL L) (wordsL L).length).2 ∧ askC F L true = 0 := by
  have e : wiC F L = 0 := by unfold wiC; rw [if_pos ⟨h1, h2⟩, if_neg h]
  exact ⟨e, by unfold wiI; rw [e, if_pos rfl], by unfold wiV; rw [e, if_pos rfl], by rw [ask_ok h1 h2]; rfl⟩

/-- How many words fit, going on from k of them: the first one with which the line is too wide ends it. -/
def lfTo (F : Fc) (ws : List (List UInt8)) (x : Int) : Nat → Nat
  | 0 => 0
  | k + 1 => if lfTo F ws x k = k ∧ preL F ws k + wideL F (ws.getD k []) ≤ x then k + 1 else lfTo F ws x k
theorem lfTo_le (F : Fc) (ws : List (List UInt8)) (x : Int) : ∀ k, lfTo F ws x k ≤ k
  | 0 => Nat.le_refl _
  | k + 1 => by have := lfTo_le F ws x k; rw [lfTo]; split <;> omega
theorem lfTo_stop {F : Fc} {ws : List (List UInt8)} {x : Int} {j : Nat} (h : lfTo F ws x j = j) (h2 : x < preL F ws j + wideL F (ws.getD j [])) : ∀ k, j ≤ k → lfTo F ws x k = j
  | 0, hk => by have : j = 0 := by omega
                subst this; rfl
  | k + 1, hk => by
    by_cases e : j = k + 1
    · rw [← e]; exact h
    · have ih := lfTo_stop h h2 k (by omega)
      rw [lfTo, ih]
      split
      · rename_i hh
        obtain ⟨h3, h4⟩ := hh
        subst h3; omega
      · rfl
theorem lfTo_step {F : Fc} {ws : List (List UInt8)} {x : Int} {k : Nat} (h : lfTo F ws x k = k) (h2 : preL F ws k + wideL F (ws.getD k []) ≤ x) : lfTo F ws x (k + 1) = k + 1 := by rw [lfTo, if_pos ⟨h, h2⟩]
theorem preL_app (F : Fc) (ws r : List (List UInt8)) : ∀ k, k ≤ ws.length → preL F (ws ++ r) k = preL F ws k
  | 0, _ => rfl
  | k + 1, hk => by
    have e : (ws ++ r).getD k [] = ws.getD k [] := by
      rw [List.getD_eq_getElem?_getD, List.getD_eq_getElem?_getD, List.getElem?_append_left (by omega)]
    rw [preL, preL, preL_app F ws r k (by omega), e]
theorem lfTo_app (F : Fc) (ws r : List (List UInt8)) (x : Int) : ∀ k, k ≤ ws.length → lfTo F (ws ++ r) x k = lfTo F ws x k
  | 0, _ => rfl
  | k + 1, hk => by
    have e : (ws ++ r).getD k [] = ws.getD k [] := by
      rw [List.getD_eq_getElem?_getD, List.getD_eq_getElem?_getD, List.getElem?_append_left (by omega)]
    rw [lfTo, lfTo, lfTo_app F ws r x k (by omega), preL_app F ws r k (by omega), e]
def lfL (F : Fc) (ws : List (List UInt8)) (x : Int) : Nat := lfTo F ws x ws.length
/-- One word more fits. -/
theorem lfL_step {F : Fc} {ws : List (List UInt8)} {x : Int} {y : List UInt8} (h : lfL F ws x = ws.length) (h2 : preL F ws ws.length + wideL F y ≤ x) : lfL F (ws ++ [y]) x = (ws ++ [y]).length := by
  have e : (ws ++ [y]).getD ws.length [] = y := by simp
  unfold lfL at *
  rw [List.length_append, List.length_singleton]
  exact lfTo_step (by rw [lfTo_app F ws [y] x _ (Nat.le_refl _)]; exact h) (by rw [e, preL_app F ws [y] _ (Nat.le_refl _)]; exact h2)
/-- One word more does not fit: nor does any behind it. -/
theorem lfL_stop {F : Fc} {ws r : List (List UInt8)} {x : Int} {y : List UInt8} (h : lfL F ws x = ws.length) (h2 : x < preL F ws ws.length + wideL F y) : lfL F (ws ++ [y] ++ r) x = ws.length := by
  have e : (ws ++ [y] ++ r).getD ws.length [] = y := by simp
  unfold lfL at *
  refine lfTo_stop ?_ ?_ _ (by simp)
  · rw [List.append_assoc, lfTo_app F ws _ x _ (Nat.le_refl _)]; exact h
  · rw [e, List.append_assoc, preL_app F ws _ _ (Nat.le_refl _)]; exact h2
noncomputable def lfV (F : Fc) (L : List UInt8) (x : Int) : Int := if askC F L (inB x 0 4000) = 0 then (lfL F (wordsL L) x : Int) else 0

/-! A block of one cell, for an append. -/
theorem one_cell {w : World} {t : TypeId} (v : Value) : ∀ (j : Nat) (u : Value), [v][j]? = some u → (w.alloc (.cells #[v] t)).cell? ((⟨w.heap.size, 0, none⟩ : Addr).add j) = some u := by
  intro j u hj
  match j, hj with
  | 0, hj => simp at hj; subst hj; simp [Addr.add]
theorem one_one {v : Value} (h : v.oneCell' = true) : ∀ u ∈ [v], u.oneCell' = true := by
  intro u hu; simp at hu; subst hu; exact h

theorem drewN_size (w : World) (n : Nat) : (w.drewN n).heap.size = w.heap.size := rfl
end Go.Proofs.YtngondeaeipcfaaGreatDoor

namespace Go.Proofs.YtngondeaeipcfaaGreatDoor
open Go Go.RowKit Go.Shelf Go.Sort

/-- A word, as the iterator hands it on. -/
abbrev Wd := { x : List UInt8 // x.length ≤ 60 ∧ allCap x }
def sumW (F : Fc) (ws : List Wd) : Int := (ws.map fun x => wideL F x.1).sum

theorem words_sub {L : List UInt8} (h : vtext L = true) : ∃ ws : List Wd, ws.map (·.1) = itW L := by
  have hall : ∀ x ∈ itW L, x.length ≤ 60 ∧ allCap x := fun x hx => words_mem h (by rw [← itW_words h]; exact hx)
  exact ⟨(itW L).attach.map (fun x => ⟨x.1, hall _ x.2⟩), by simp [List.map_map, Function.comp_def]⟩
theorem sumW_snoc (F : Fc) (pre : List Wd) (x : Wd) : sumW F (pre ++ [x]) = sumW F pre + wideL F x.1 := by simp [sumW]
theorem sumW_bd {F : Fc} (hF : F.ok) (h : vface F = true) : ∀ ws : List Wd, 0 ≤ sumW F ws ∧ sumW F ws ≤ 3600 * ws.length
  | [] => by simp [sumW]
  | x :: r => by
    have ih := sumW_bd hF h r
    have hx := wideL_bd hF h x.2.2 x.2.1
    have e : sumW F (x :: r) = wideL F x.1 + sumW F r := by simp [sumW]
    rw [e]; simp only [List.length_cons]; omega

theorem frozen_below {a b : World} {B : Nat} (h : Below a.heap.size a b) (hB : B < a.heap.size) (hf : a.frozen? ⟨B, 0, none⟩ = false) : b.frozen? ⟨B, 0, none⟩ = false := by
  unfold World.frozen? at *; rw [h.block B hB]; exact hf


/-- The loop goes through the words of the text, or is left. -/
theorem words_range {ps : Array Tmp} {assign body : Code} {Q : Exit → Act → World → Prop} {a : Act} {w : World} {g : Operand} (s : ByteArray) (ws : List Wd) (hws : ws.map (·.1) = itW s.data.toList) (hs : s.size ≤ 1048576) (Bm : Nat)
    (hg : a.eval g = .func (.func 214) #[] #[.pointer (some ⟨Bm, 0, none⟩)]) (hBm : Bm < w.heap.size) (hm : w.cell? ⟨Bm, 0, none⟩ = some (.string s)) (hps : ps.size = 1)
    (I : List Wd → World → Prop) (Ix : Code → List Wd → World → Prop) (hI : OwnFrom w.heap.size I) (hIx : ∀ c, OwnFrom w.heap.size (Ix c)) (h0 : I [] w) (a₁ : Wd → Act)
    (hassign : ∀ (l : Nat) (x : Wd) (W : World) (K : Act → World → Prop), K (a₁ x) W →
      assign.wpIn (Fence.wide.inRound l) (4 - 1 - 1) Tryz.prog (Exit.then K (fun _ _ _ => False)) { tmps := (ps.zip #[encStr x.1]).foldl (fun t (p, v) => t.setIfInBounds p v) a.tmps, defers := [] } W)
    (hbody : ∀ (l : Nat) (pre : List Wd) (x : Wd) (W : World), I pre W → pre.length < ws.length → body.wpIn (Fence.wide.inRound l) (4 - 1 - 1) Tryz.prog (ownPostK KeepsWalks I Ix (pre ++ [x]) W) (a₁ x) W)
    (hdone : ∀ (D : Nat) (W : World), w.heap.size ≤ D → I ws W → W.heap[D]? = some (.deferred (some [])) → Q .normal { a with defers := { target := .collected D, args := #[] } :: a.defers } W)
    (hstop : ∀ (D : Nat) (c : Code) (pre : List Wd) (W : World), w.heap.size ≤ D → pre <+: ws → Ix c pre W → W.heap[D]? = some (.deferred (some [])) → c.wpIn Fence.wide 4 Tryz.prog Q { a with defers := { target := .collected D, args := #[] } :: a.defers } W) :
    (Code.rangeFunc g ps assign body).wpIn Fence.wide 4 Tryz.prog Q a w :=
  wpIn_rangeFunc_ownF (F := Fence.wide) (n := 4) rfl (by omega) (gf := 214) hg trivial (enters_of Tryz.func214 (by kernel_rfl) rfl)
    (encs := fun x : Wd => #[encStr x.1]) (Kp := KeepsWalks) (S := fun ys => ys = ws) (Sp := fun pre => pre <+: ws) (N := ws.length) (w0 := w)
    (fun l J Jx W hW hJ hJx hY h0 => (wordsIter_in (fun x : Wd => x.1) s ws hws hs (4 - 1) (by omega) l Bm J Jx hY W hJ ((hW.cell (p := ⟨Bm, 0, none⟩) hBm).trans hm) h0))
    walksK_t walksK_b (Below.refl _ _) (fun _ => by rw [hps]; rfl) I Ix hI hIx h0 a₁ hassign hbody
    (fun D xs W hD hx hi hd => by subst hx; exact hdone D W hD hi hd) hstop

theorem keeps_normal {I : List Wd → World → Prop} {Ix : Code → List Wd → World → Prop} {xs : List Wd} {W W' : World} {a : Act} (hk : KeepsOthers W W') (hi : I xs W') : ownPostK KeepsWalks I Ix xs W .normal a W' := ⟨hk, hk.walks, hi⟩
theorem keeps_below {W W' : World} (hb : Below W.heap.size W W') : KeepsOthers W W' := KeepsOthers.of_grownBy (row := none) (grown_below hb) (fun j o h => by cases h)
theorem ownB_below {β : Type} {n₀ B : Nat} {w₀ : World} (hn : n₀ ≤ w₀.heap.size) (hB : n₀ ≤ B) : OwnFrom B (fun (_ : β) W => Below n₀ w₀ W) := ownFrom_below hn hB
theorem own_row {β : Type} {B b o : Nat} {cs : List Value} : OwnFrom B (fun (_ : β) W => W.rangeAt b o cs) := (Own.from (fun _ _ _ _ hs hg hr => fun j v hv => cell_kept (hs j v hv) hg hr) _)
theorem own_cell {β : Type} {B b : Nat} {f : β → Value} : OwnFrom B (fun (x : β) W => W.cell? ⟨b, 0, none⟩ = some (f x) ∧ W.frozen? ⟨b, 0, none⟩ = false) :=
  (Own.from (fun _ _ _ _ hs hg hr => ⟨cell_kept hs.1 hg hr, (frozen_kept hs.1 hg hr).trans hs.2⟩) _)
/-- A variable that holds a row of the call's own. -/
theorem own_owns {β : Type} {B b base e sz : Nat} {n : β → Nat} {cs : β → List Value} : OwnFrom B (fun (x : β) W => ∃ v, (W.cell? ⟨b, 0, none⟩ = some v ∧ W.frozen? ⟨b, 0, none⟩ = false) ∧ W.ownsRow base e sz v (n x) (cs x)) :=
  Own.from (fun s A B row ⟨v, ⟨h1, h2⟩, h3⟩ hg hr => ⟨v, ⟨cell_kept h1 hg hr, (frozen_kept h1 hg hr).trans h2⟩, h3.kept hg (by
    cases hv : v.ownBlock with
    | none => exact .inl rfl
    | some g =>
      refine .inr fun e => ?_
      obtain ⟨o, ho, hc⟩ := hr g e.symm
      rcases h3.2 with ⟨rfl, _⟩ | ⟨g', cap, cur, rfl, _, hg', _⟩
      · cases hv
      · cases hv
        rw [hg'] at ho
        injection ho with ho
        subst ho
        cases hc)⟩) _
theorem own_ne {w : World} {base e sz n : Nat} {v : Value} {cs : List Value} (h : w.ownsRow base e sz v n cs) {b : Nat} (hb : b < base) : some b ≠ v.ownBlock := fun e => by
  have := (h.lt b e.symm).1; omega
theorem own_set {w : World} {base e sz n : Nat} {v : Value} {cs : List Value} (h : w.ownsRow base e sz v n cs) {b : Nat} (hb : b < base) (o : Nat) (u : Value) : (w.setCell ⟨b, o, none⟩ u).ownsRow base e sz v n cs :=
  h.kept (grown_set (grown_refl w _) o u) (by
    cases hv : v.ownBlock with
    | none => exact .inl rfl
    | some g => exact .inr fun e => own_ne h hb (by rw [hv]; exact e.symm))
theorem own_cells {w : World} {base e sz n : Nat} {v : Value} {cs : List Value} (h : w.ownsRow base e sz v n cs) : ∀ (j : Nat) (o : Obj), v.ownBlock = some j → w.heap[j]? = some o → o.isCells = true := by
  intro j o hj ho
  rcases h.2 with ⟨rfl, _⟩ | ⟨g', cap, cur, rfl, _, hg', _⟩
  · cases hj
  · cases hj
    rw [hg'] at ho
    injection ho with ho
    subst ho
    rfl
theorem own_go {w w' : World} {base e sz n : Nat} {v : Value} {cs : List Value} (h : w.ownsRow base e sz v n cs) (hb : Below w.heap.size w w') : w'.ownsRow base e sz v n cs :=
  h.kept (row := none) (grown_below hb) (by cases v.ownBlock with | none => exact .inl rfl | some g => exact .inr (fun e => by cases e))
theorem own_putObj {w : World} {base e sz n : Nat} {v : Value} {cs : List Value} (h : w.ownsRow base e sz v n cs) {D : Nat} {o : Obj} (hD : w.heap[D]? = some o) (ho : o.isCells = false) (o' : Obj) : (w.putObj D o').ownsRow base e sz v n cs :=
  h.kept (grownBy_putObj' w D o') (by
    cases hv : v.ownBlock with
    | none => exact .inl rfl
    | some g => exact .inr fun e => by cases e; rw [own_cells h D o hv hD] at ho; cases ho)
/-- What comes back lies in cells, also when the loop's list of deferred calls has been taken. -/
theorem cellsIn_putObj {w : World} {base e sz n : Nat} {v : Value} {cs : List Value} (h : w.ownsRow base e sz v n cs) (hz : 0 < sz) {D : Nat} {o : Obj} (hD : w.heap[D]? = some o) (ho : o.isCells = false) :
    ∃ A c, v = .slice A n c ∧ n ≤ c ∧ ∀ o', CellsIn (w.putObj D o') base A cs := by
  obtain ⟨A, c, rfl, hc, _⟩ := cellsIn_of_own h hz
  refine ⟨A, c, rfl, hc, fun o' => ?_⟩
  obtain ⟨A2, c2, e, _, h2⟩ := cellsIn_of_own (own_putObj h hD ho o') hz
  injection e with e1 e2 e3
  subst e1
  exact h2
theorem grown_frozen {w w' : World} {r : Option Nat} (h : w.grownBy w' r) {b : Nat} (hb : b < w.heap.size) (hne : some b ≠ r) (hf : w.frozen? ⟨b, 0, none⟩ = false) : w'.frozen? ⟨b, 0, none⟩ = false := by
  rw [World.frozen?_of_block (a := ⟨b, 0, none⟩) (h.block b hb hne)]; exact hf
end Go.Proofs.YtngondeaeipcfaaGreatDoor

namespace Go.Proofs.YtngondeaeipcfaaGreatDoor
open Go.RowKit
theorem grown_strsIn {w w' : World} {r : Option Nat} {L : Nat} (h : w.grownBy w' r) {A : Option Addr} {xs : List ByteArray} (hP : StrsIn w L A xs) (hne : ∀ b, blkS A xs = some b → some b ≠ r) : StrsIn w' L A xs := fun hn => by
  obtain ⟨b, o, rfl, h1, h2, h3, h4⟩ := hP hn
  have hb := hne b (blkS_some hn)
  exact ⟨b, o, rfl, h1, Nat.lt_of_lt_of_le h2 h.size, fun k x hx => h.cell (h3 k x hx) hb, grown_there h h4 h2 hb⟩
end Go.Proofs.YtngondeaeipcfaaGreatDoor
