/- Which words have a short, and the words in which some are replaced: the model's. -/
import Derived.Test.YtikmmeohmkjbeaaShAt
import Derived.Test.YtikmmeohmkjbeaaLoosenW
namespace Go.Proofs.Ytikmmeohmkjbeaa
open Go Go.RowKit Go.Shelf Go.Sort Go.Maps

set_option maxRecDepth 100000 in
set_option maxHeartbeats 4000000 in
theorem l02Which_any (A2 : Option Addr) (xs : List ByteArray) (c2 : Nat) (A : Option Addr) (ps : List Sh) (c : Nat) (w : World) (hn : ps.length ≤ maxLen) (hxn : xs.length ≤ 1048576) (hX : StrsAt w w.heap.size A2 xs) (hA : ShsAt w w.heap.size A ps) :
    Calls Try.prog 118 #[.slice A2 xs.length c2, .slice A ps.length c] w (IntsBk (canL ps xs) w) := by
  obtain ⟨i0, hi0, hz0, hz1, hz2⟩ := info_parts Try.infoI64
  have HH := hide (fun x W (hW : Below w.heap.size w W) => l02Of_any A ps c x W hn (hA.go hW))
  have HLN := hide (canTo_len ps xs)
  have HY := hide (fun k => @canTo_yes ps xs k)
  have HNO := hide (fun k => @canTo_no ps xs k)
  unfold canL
  obtain ⟨n, hL⟩ : ∃ n, xs.length = n := ⟨_, rfl⟩
  have HL := hide hL
  rw [hL] at hxn ⊢
  clear hL hA hn
  generalize ps.length = m at *
  have hb0 : Below w.heap.size w (w.alloc (.cells #[] 2)) := (Below.refl _ _).alloc (Nat.le_refl _) _
  have hown0 : (w.alloc (.cells #[] 2)).ownsRow w.heap.size 2 1 (.slice (some ⟨w.heap.size, 0, none⟩) 0 0) 0 [] := World.ownsRow_lit w #[] 0 (Nat.le_refl _) (by unfold maxLen; omega) rfl
  have HO0 := hide hown0
  clear hown0
  go_enter Try.func118, Try.ntmps118
  go_wp2
  go_loopw [5, 6] (fun br i wr => ∃ k : Nat, k ≤ n ∧ i = .int .i64 k ∧ wr.ownsRow w.heap.size 2 1 br (canTo ps xs k).length ((canTo ps xs k).map (.int .i64)) ∧ Below w.heap.size w wr)
    (fun _ i _ => n - (intOf i).toNat)
  case atStart => exact ⟨0, by omega, rfl, HO0.out, hb0⟩
  case round =>
    obtain ⟨k, hk, rfl, hown, hB⟩ := hrel
    obtain ⟨Ab, cbb, rfl, hcap, _⟩ := cellsIn_of_own hown (by omega)
    have hbs := hB.size
    have HOWN := hide hown
    clear hown
    by_cases hlt : k < n
    · obtain ⟨b, o, rfl, hb, hxs⟩ := hX (by intro e; rw [e] at HL; have := HL.out; simp at this; omega)
      obtain ⟨x, hx⟩ : ∃ x, xs[k]? = some x := ⟨xs[k]'(by rw [HL.out]; exact hlt), List.getElem?_eq_getElem _⟩
      have c0 : wr.cell? ⟨b, o + k, none⟩ = some (.string x) := (hB.cell (p := ⟨b, o + k, none⟩) hb).trans (hxs k x hx)
      have hi : (k : Int) < n := by omega
      have h0 : (0 : Int) ≤ k := by omega
      have HX := hide (getD_get hx)
      have hln := HLN.out k
      clear hxs hx
      have HC := hide (HH.out x _ hB)
      cases hof : (ofS ps x).isSome
      · have HE := hide (HNO.out k (by rw [HX.out]; exact hof))
        rw [hof] at HC
        go_wp2_with (go_at_call 111; refine HC.out.mono ?_; rintro e w1 ⟨rfl, hb1⟩)
        refine ⟨⟨k + 1, by omega, by go_num, ?_, hB.trans (hb1.mono hbs)⟩, by simp [intOf]; omega⟩
        rw [HE.out]
        exact own_go HOWN.out hb1
      · have HE := hide (HY.out k (by rw [HX.out]; exact hof))
        rw [hof] at HC
        go_wp2_with fail
        refine HC.out.mono ?_
        rintro e w1 ⟨rfl, hb1⟩
        have hown3 := own_go HOWN.out hb1
        have hB3 := hB.trans (hb1.mono hbs)
        have hs3 := hB3.size
        clear hb1 HC
        go_wp2_with (at_builtin; refine wpList_append_own _ rfl (.tmp 26) (.tmp 28) 27 rfl w.heap.size 2 i0 (.int .i64 0) 1 8 Try.underlying27 hi0 hz0 hz1 hz2 rfl (by decide) _ (canTo ps xs k).length _ rfl (hown3.alloc _) ⟨w1.heap.size, 0, none⟩ 1 1 [.int .i64 k] rfl rfl (one_cell _) (one_one rfl) ?h1 ?h2 ?h3 ?_)
        case h1 => unfold maxLen; omega
        case h2 => omega
        case h3 => simp; omega
        intro v' w4 hown4 hg4 _
        obtain ⟨A4, c4, rfl, _, _⟩ := cellsIn_of_own hown4 (by omega)
        have H4 := hide hown4
        have hg34 : w1.grownBy w4 _ := grown_trans (World.grownBy_alloc w1 _ _) hg4
        have hB4 := hB3.trans (grown_toBelow hg34 (by omega) (fun k hk => (hown3.lt k hk).1))
        clear hown4 hg4 hg34 hown3
        go_wp2
        refine ⟨⟨k + 1, by omega, by go_num, ?_, hB4⟩, by simp [intOf]; omega⟩
        rw [HE.out, List.map_append, List.length_append]
        exact H4.out
    · obtain rfl : k = n := by omega
      obtain ⟨Ag, cg, e, _, hI⟩ := intsIn_of_own HOWN.out
      injection e with e1 e2 e3
      subst e1 e3
      have HI := hide hI
      clear hI
      go_wp2
      go_ret
      exact ⟨Ab, cbb, rfl, hcap, HI.out, hB⟩

/-- The words in which those with some indices have been replaced. -/
def rp (ps : List Sh) (xs : List ByteArray) (bs : List Int) : Nat → List ByteArray
  | 0 => xs
  | k + 1 => match ofS ps (xs.getD (bs.getD k 0).toNat ⟨#[]⟩) with
    | some s => (rp ps xs bs k).set (bs.getD k 0).toNat s
    | none => rp ps xs bs k
theorem rp_len (ps : List Sh) (xs : List ByteArray) (bs : List Int) : ∀ k, (rp ps xs bs k).length = xs.length
  | 0 => rfl
  | k + 1 => by unfold rp; split <;> simp [rp_len ps xs bs k]
theorem rp_some {ps : List Sh} {xs : List ByteArray} {bs : List Int} {k i : Nat} {x s : ByteArray} (hi : (bs.getD k 0).toNat = i) (hx : xs.getD i ⟨#[]⟩ = x) (h : ofS ps x = some s) : rp ps xs bs (k + 1) = (rp ps xs bs k).set i s := by
  subst hi hx; simp only [rp, h]
theorem rp_none {ps : List Sh} {xs : List ByteArray} {bs : List Int} {k i : Nat} {x : ByteArray} (hi : (bs.getD k 0).toNat = i) (hx : xs.getD i ⟨#[]⟩ = x) (h : ofS ps x = none) : rp ps xs bs (k + 1) = rp ps xs bs k := by
  subst hi hx; simp only [rp, h]
/-- What is not among the first k indices has not been replaced. -/
theorem rp_keep (ps : List Sh) (xs : List ByteArray) (bs : List Int) (i : Nat) : ∀ k, (∀ j, j < k → (bs.getD j 0).toNat ≠ i) → (rp ps xs bs k)[i]? = xs[i]?
  | 0, _ => rfl
  | k + 1, h => by
    have ih := rp_keep ps xs bs i k (fun j hj => h j (by omega))
    unfold rp; split
    · rw [List.getElem?_set_ne (h k (by omega))]; exact ih
    · exact ih
theorem rp_mem {ps : List Sh} {xs : List ByteArray} {bs : List Int} {P : ByteArray → Prop} (hx : ∀ x ∈ xs, P x) (hp : ∀ p ∈ ps, P p.2) : ∀ k, ∀ y ∈ rp ps xs bs k, P y
  | 0 => hx
  | k + 1 => by
    intro y hy
    unfold rp at hy; split at hy
    · rename_i s hs
      rcases List.mem_or_eq_of_mem_set hy with h | h
      · exact rp_mem hx hp k y h
      · obtain ⟨p, hp1, hp2, _⟩ := ofS_mem hs
        rw [h, ← hp2]; exact hp p hp1
    · exact rp_mem hx hp k y hy

/-- A text is put into a list of the call's own. -/
theorem StrsIn.put {w : World} {L : Nat} {A : Option Addr} {xs : List ByteArray} (h : StrsIn w L A xs) {b o i : Nat} (hA : A = some ⟨b, o, none⟩) (hi : i < xs.length) (s : ByteArray) : StrsIn (w.setCell ⟨b, o + i, none⟩ (.string s)) L A (xs.set i s) := by
  intro hne
  obtain ⟨b', o', e, h1, h2, h3, h4⟩ := h (by intro e; subst e; simp at hi)
  rw [hA] at e
  injection e with e; injection e with e1 e2; subst e1 e2
  refine ⟨b, o, hA, h1, by rw [size_setCell]; exact h2, fun k x hx => ?_, by rw [List.length_set]; exact there_set h4 _ _⟩
  by_cases e : i = k
  · subst e
    rw [List.getElem?_set_self hi] at hx
    injection hx with hx; subst hx
    exact World.cell?_setCell_same' _ _ _ (h4 i hi).1
  · rw [List.getElem?_set_ne e] at hx
    rw [World.cell?_setCell_other _ _ _ _ (by intro he; injection he with _ he; omega)]
    exact h3 k x hx

/-- The indices are those of words. -/
def idxOk (n : Nat) (bs : List Int) : Prop := ∀ (k : Nat) (v : Int), bs[k]? = some v → 0 ≤ v ∧ v < n
theorem enc_bytes (xs : List ByteArray) : (xs.map byts).map encStr = xs.map (.string) := by
  rw [List.map_map]
  refine List.map_congr_left fun x _ => ?_
  show Value.string _ = _
  congr 1
theorem bas_of (xs : List ByteArray) : bas (xs.map byts) = xs := by
  show List.map _ (List.map byts xs) = xs
  rw [List.map_map]
  exact (List.map_congr_left (fun x _ => rfl)).trans (List.map_id xs)

set_option maxRecDepth 10000 in
/-- Texts are appended to an empty slice of the call's own. -/
theorem wpList_append_strs {w : World} {ops : Array Oper} {rest : List Oper} {o : Oper} {a : Act} {Q : Exit → Act → World → Prop} (hgd : o.guard = none) (s x : Operand)
    (ho : o.op = .call { callee := .builtin .append, args := #[s, x], argTypes := #[45, 45] })
    (base B : Nat) (v : Value) (hs : a.eval s = v) (hown : w.ownsRow base 9 1 v 0 []) (hbase : base ≤ w.heap.size)
    (A : Option Addr) (xs : List ByteArray) (c : Nat) (hx : a.eval x = .slice A xs.length c) (hn : xs.length ≤ 1048576) (hA : StrsAt w B A xs) (hB : B ≤ w.heap.size)
    (h : ∀ A' c' w1, xs.length ≤ c' → StrsIn w1 base A' xs → w.grownBy w1 v.ownBlock → wpList Try.prog ops Q rest (a.put o.dst (.slice A' xs.length c')) w1) : wpList Try.prog ops Q (o :: rest) a w := by
  obtain ⟨i0, hi0, hz0, hz1, hz2⟩ := info_parts Try.infoString
  cases A with
  | none =>
    have hps : xs = [] := by
      cases xs with
      | nil => rfl
      | cons p r => obtain ⟨b, o, e, _⟩ := hA (by simp); cases e
    subst hps
    obtain ⟨A', c', rfl, hc', hP⟩ := strsIn_of_own (ss := []) hown rfl
    exact wpList_append_none_any hgd s x 45 ho base 9 i0 1 Try.underlying45 hi0 _ 0 c _ hs hown hx (h A' c' w hc' hP (grown_refl _ _))
  | some ad =>
    have hnews : ∀ j u, (xs.map Value.string)[j]? = some u → w.cell? (ad.add j) = some u := by
      intro j u hu
      rw [List.getElem?_map] at hu
      obtain ⟨y, hy, rfl⟩ := Option.map_eq_some_iff.1 hu
      obtain ⟨b, o', e, hb, hps⟩ := hA (by intro e; subst e; simp at hy)
      injection e with e
      subst e
      rw [addr_add b o' j]
      exact hps j y hy
    refine wpList_append_own _ hgd s x 45 ho base 9 i0 _ 1 16 Try.underlying45 hi0 hz0 hz1 hz2 rfl (by decide) v 0 [] hs hown ad xs.length c (xs.map Value.string) hx (by simp) hnews (by intro u hu; obtain ⟨y, _, rfl⟩ := List.mem_map.1 hu; rfl) (by unfold maxLen; omega) (by omega) hbase ?_
    intro v' w1 hown1 hgrow _
    rw [List.nil_append, Nat.zero_add, ← enc_bytes] at hown1
    obtain ⟨A', c', rfl, hc', hP⟩ := strsIn_of_own hown1 (List.length_map _).symm
    exact h A' c' w1 hc' ((congrArg (StrsIn w1 base A') (bas_of xs)).mp hP) hgrow

def StrsBk (xs : List ByteArray) (w : World) : Ending → World → Prop := fun e w' => ∃ A' c', e = .returned (.slice A' xs.length c') ∧ xs.length ≤ c' ∧ StrsIn w' w.heap.size A' xs ∧ Below w.heap.size w w'

set_option maxRecDepth 100000 in
set_option maxHeartbeats 4000000 in
theorem l02At_any (A2 : Option Addr) (xs : List ByteArray) (c2 : Nat) (A : Option Addr) (ps : List Sh) (c : Nat) (B : Option Addr) (bs : List Int) (cb : Nat) (w : World) (hn : ps.length ≤ maxLen) (hxn : xs.length ≤ 1048576) (hbn : bs.length ≤ maxLen) (hi : idxOk xs.length bs) (hX : StrsAt w w.heap.size A2 xs) (hA : ShsAt w w.heap.size A ps) (hB : IntsAt w w.heap.size B bs) :
    Calls Try.prog 112 #[.slice A2 xs.length c2, .slice A ps.length c, .slice B bs.length cb] w (StrsBk (rp ps xs bs bs.length) w) := by
  have HH := hide (fun x W (hW : Below w.heap.size w W) => l02Of_any A ps c x W hn (hA.go hW))
  have HIX := hide hi
  have HSO := hide (fun k i x s => @rp_some ps xs bs k i x s)
  have HNO := hide (fun k i x => @rp_none ps xs bs k i x)
  have HXB := hide (fun W (hW : Below w.heap.size w W) => hX.below hW)
  have HLN := hide (fun k => rp_len ps xs bs k)
  unfold StrsBk
  rw [HLN.out]
  unfold maxLen at hbn
  obtain ⟨n, hL⟩ : ∃ n, xs.length = n := ⟨_, rfl⟩
  have HL := hide hL
  obtain ⟨m, hM⟩ : ∃ m, bs.length = m := ⟨_, rfl⟩
  have HM := hide hM
  rw [hL] at hxn HIX HLN ⊢
  rw [hM] at hbn ⊢
  clear hL hA hn hM hi
  generalize ps.length = r at *
  have hb0 : Below w.heap.size w (w.alloc (.cells #[] 9)) := (Below.refl _ _).alloc (Nat.le_refl _) _
  have hown0 : (w.alloc (.cells #[] 9)).ownsRow w.heap.size 9 1 (.slice (some ⟨w.heap.size, 0, none⟩) 0 0) 0 [] := World.ownsRow_lit w #[] 0 (Nat.le_refl _) (by unfold maxLen; omega) rfl
  have HO0 := hide hown0
  clear hown0
  go_enter Try.func112, Try.ntmps112
  go_wp2_with (at_builtin; refine wpList_append_strs rfl (.tmp 11) (.tmp 12) rfl w.heap.size w.heap.size _ rfl HO0.out ?h1 A2 xs c2 (by rw [HL.out]; rfl) (by rw [HL.out]; exact hxn) (HXB.out _ hb0) ?h2 ?_)
  case h1 => simp
  case h2 => simp
  intro A4 c4 w4 hc4 hP4 hg4
  rw [HL.out] at hc4 ⊢
  have hb4 : Below w.heap.size w w4 := hb0.grown hg4 (by simp) (fun k e => by cases e; exact Nat.le_refl _)
  have HP4 := hide hP4
  clear hP4 hg4 HO0 hb0
  go_wp2
  go_loopw [8] (fun i wr => ∃ k : Nat, k ≤ m ∧ i = .int .i64 k ∧ Hid (StrsIn wr w.heap.size A4 (rp ps xs bs k)) ∧ Below w.heap.size w wr)
    (fun i _ => m - (intOf i).toNat)
  case atStart => exact ⟨0, by omega, rfl, HP4, hb4⟩
  case round =>
    obtain ⟨k, hk, rfl, hS, hBl⟩ := hrel
    have hbs := hBl.size
    by_cases hlt : k < m
    · obtain ⟨b3, o3, rfl, hb3, hbcs⟩ := hB (by intro e; rw [e] at HM; have := HM.out; simp at this; omega)
      obtain ⟨v, hv⟩ : ∃ v, bs[k]? = some v := ⟨bs[k]'(by rw [HM.out]; exact hlt), List.getElem?_eq_getElem _⟩
      obtain ⟨v0, v1⟩ := HIX.out k v hv
      obtain ⟨i, rfl⟩ : ∃ i : Nat, v = i := ⟨v.toNat, by omega⟩
      obtain ⟨b, o, rfl, hb, hxs⟩ := hX (by intro e; rw [e] at HL; have := HL.out; simp at this; omega)
      obtain ⟨x, hx⟩ : ∃ x, xs[i]? = some x := ⟨xs[i]'(by rw [HL.out]; omega), List.getElem?_eq_getElem _⟩
      have c0 : wr.cell? ⟨b, o + i, none⟩ = some (.string x) := (hBl.cell (p := ⟨b, o + i, none⟩) hb).trans (hxs i x hx)
      have c1 : wr.cell? ⟨b3, o3 + k, none⟩ = some (.int .i64 i) := (hBl.cell (p := ⟨b3, o3 + k, none⟩) hb3).trans (hbcs k _ hv)
      have hi : (k : Int) < m := by omega
      have h0 : (0 : Int) ≤ k := by omega
      have hin : i < n := by omega
      have HGI := hide (show (bs.getD k 0).toNat = i by simp [List.getD, hv])
      have HX := hide (getD_get hx)
      have HC := hide (HH.out x _ hBl)
      clear hxs hx hbcs hv
      cases hof : ofS ps x with
      | none =>
        have HE := hide (HNO.out k i x HGI.out HX.out hof)
        rw [hof] at HC
        go_wp2_with (go_at_call 111; refine HC.out.mono ?_; rintro e w1 ⟨rfl, hb1⟩)
        exact ⟨⟨k + 1, by omega, by go_num, hide (by rw [HE.out]; exact hS.out.go hb1), hBl.trans (hb1.mono hbs)⟩, by simp [intOf]; omega⟩
      | some s =>
        have HE := hide (HSO.out k i x s HGI.out HX.out hof)
        rw [hof] at HC
        go_wp2_with fail
        refine HC.out.mono ?_
        rintro e w1 ⟨rfl, hb1⟩
        have hS1 := hS.out.go hb1
        have hrl := HLN.out k
        obtain ⟨b4, o4, rfl, hb41, hb42, _, hth⟩ := hS1 (by intro e; rw [e] at hrl; simp at hrl; omega)
        rw [hrl] at hth
        obtain ⟨z, hz, hfz⟩ := there_some hth hin
        have d1 := (hb1.cell (p := ⟨b3, o3 + k, none⟩) (by show b3 < _; omega)).trans c1
        have HS2 := hide (hS1.put rfl (i := i) (by rw [hrl]; exact hin) s)
        have hB3 := hBl.trans (hb1.mono hbs)
        clear c0 c1 hth hS1 HC hb1 hrl
        go_wp2
        exact ⟨⟨k + 1, by omega, by go_num, hide (by rw [HE.out]; exact HS2.out), hB3.setCell (p := ⟨b4, o4 + i, none⟩) hb41 _⟩, by simp [intOf]; omega⟩
    · obtain rfl : k = m := by omega
      go_wp2
      go_ret
      exact ⟨A4, c4, rfl, hc4, hS.out, hBl⟩
end Go.Proofs.Ytikmmeohmkjbeaa
