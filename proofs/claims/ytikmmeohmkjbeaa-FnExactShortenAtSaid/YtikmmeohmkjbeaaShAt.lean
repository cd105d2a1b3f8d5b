/- Words that have shorts: what is told of them as data, and the functions that look for a short. -/
import Derived.Test.YtikmmeohmkjbeaaShTextS
namespace Go.Proofs.Ytikmmeohmkjbeaa
open Go Go.RowKit Go.Shelf Go.Sort Go.Maps

theorem bytes_eq {a b : ByteArray} : (a.toList == b.toList) = true ↔ a = b := by
  rw [beq_iff_eq, ByteArray.toList_eq, ByteArray.toList_eq]
  exact ⟨fun h => (ba_ext h).trans (ba_ext rfl).symm, fun h => by rw [h]⟩
def ofS (ps : List Sh) (x : ByteArray) : Option ByteArray := (ps.find? (fun p => p.1.toList == x.toList)).map Prod.snd
def noS (ps : List Sh) (x : ByteArray) (k : Nat) : Prop := ∀ j p, j < k → ps[j]? = some p → (p.1.toList == x.toList) = false
theorem noS_zero (ps : List Sh) (x : ByteArray) : noS ps x 0 := fun j p h => absurd h (by omega)
theorem noS_succ {ps : List Sh} {x : ByteArray} {k : Nat} {p : Sh} (h : noS ps x k) (hp : ps[k]? = some p) (e : (p.1.toList == x.toList) = false) : noS ps x (k + 1) := fun j q hj hq => by
  by_cases e1 : j = k
  · subst e1; rw [hp] at hq; injection hq with hq; subst hq; exact e
  · exact h j q (by omega) hq
theorem ofS_hit {ps : List Sh} {x : ByteArray} {k : Nat} {p : Sh} (h : noS ps x k) (hp : ps[k]? = some p) (e : (p.1.toList == x.toList) = true) : ofS ps x = some p.2 := by
  obtain ⟨hk, rfl⟩ := List.getElem?_eq_some_iff.1 hp
  have : ps.find? (fun p => p.1.toList == x.toList) = some ps[k] := List.find?_eq_some_iff_getElem.2 ⟨e, k, hk, rfl, fun j hj => by
    rw [h j _ hj (List.getElem?_eq_getElem (by omega))]; rfl⟩
  unfold ofS; rw [this]; rfl
theorem ofS_none {ps : List Sh} {x : ByteArray} (h : noS ps x ps.length) : ofS ps x = none := by
  have : ps.find? (fun p => p.1.toList == x.toList) = none := List.find?_eq_none.2 fun p hp => by
    obtain ⟨k, hk⟩ := List.getElem?_of_mem hp
    rw [h k p (List.getElem?_eq_some_iff.1 hk).1 hk]; simp
  unfold ofS; rw [this]; rfl
theorem ofS_mem {ps : List Sh} {x s : ByteArray} (h : ofS ps x = some s) : ∃ p ∈ ps, p.2 = s ∧ p.1 = x := by
  unfold ofS at h
  obtain ⟨p, hp, rfl⟩ := Option.map_eq_some_iff.1 h
  have := List.find?_some hp
  exact ⟨p, List.mem_of_find?_eq_some hp, rfl, bytes_eq.1 this⟩
theorem ret_sb {s t : ByteArray} {a b : Bool} (h : s = t) (h' : a = b) : Ending.returned (.tuple #[.string s, .bool a]) = .returned (.tuple #[.string t, .bool b]) := by rw [h, h']

set_option maxRecDepth 100000 in
set_option maxHeartbeats 4000000 in
theorem l02Of_any (A : Option Addr) (ps : List Sh) (c : Nat) (x : ByteArray) (w : World) (hn : ps.length ≤ maxLen) (hA : ShsAt w w.heap.size A ps) :
    Calls Try.prog 111 #[.slice A ps.length c, .string x] w fun e w' => e = .returned (.tuple #[.string ((ofS ps x).getD ⟨#[]⟩), .bool (ofS ps x).isSome]) ∧ Below w.heap.size w w' := by
  unfold maxLen at hn
  have HH := hide (fun k p => @ofS_hit ps x k p)
  have HN := hide (@ofS_none ps x)
  generalize ofS ps x = R at *
  obtain ⟨n, hL⟩ : ∃ n, ps.length = n := ⟨_, rfl⟩
  have HL := hide hL
  rw [hL] at hn HN ⊢
  clear hL
  go_enter Try.func111, Try.ntmps111
  go_wp2
  go_loopw [6] (fun i wr => ∃ k : Nat, k ≤ n ∧ i = .int .i64 k ∧ Hid (noS ps x k) ∧ Below w.heap.size w wr)
    (fun i _ => n - (intOf i).toNat)
  case atStart => exact ⟨0, by omega, rfl, hide (noS_zero _ _), Below.refl _ _⟩
  case round =>
    obtain ⟨k, hk, rfl, hg, hB⟩ := hrel
    by_cases hlt : k < n
    · obtain ⟨b, o, rfl, hb, hps⟩ := hA (by intro e; rw [e] at HL; have := HL.out; simp at this; omega)
      obtain ⟨p, hp⟩ : ∃ p, ps[k]? = some p := ⟨ps[k]'(by rw [HL.out]; exact hlt), List.getElem?_eq_getElem _⟩
      obtain ⟨y, z⟩ := p
      have hq0 := rangeAt_below (hps k _ hp) hB (by omega)
      have c0 : wr.cell? ⟨b, o + k * 2, none⟩ = some (.string y) := hq0 0 _ rfl
      have c1 : wr.cell? ⟨b, o + k * 2 + 1, none⟩ = some (.string z) := hq0 1 _ rfl
      have hi : (k : Int) < n := by omega
      have h0 : (0 : Int) ≤ k := by omega
      have HP := hide hp
      clear hq0 hps hp
      cases he : (y.toList == x.toList)
      · have hgo := hide (noS_succ hg.out HP.out he)
        go_wp2
        exact ⟨⟨k + 1, by omega, by go_num, hgo, hB⟩, by simp [intOf]; omega⟩
      · have HR := hide (HH.out k _ hg.out HP.out he)
        go_wp2
        go_ret2
        exact ⟨ret_sb (by rw [HR.out]; rfl) (by rw [HR.out]; rfl), hB⟩
    · obtain rfl : k = n := by omega
      have HR := hide (HN.out hg.out)
      go_wp2
      go_ret2
      exact ⟨ret_sb (by rw [HR.out]; rfl) (by rw [HR.out]; rfl), hB⟩

set_option maxHeartbeats 1000000 in
theorem sameLong_any (y z x : ByteArray) (Bm : Nat) (w : World) (hB : Bm < w.heap.size) (hm : w.cell? ⟨Bm, 0, none⟩ = some (.string x)) :
    Calls Try.prog 163 #[.agg #[.string y, .string z], .pointer (some ⟨Bm, 0, none⟩)] w fun e w' => e = .returned (.bool (y.toList == x.toList)) ∧ Below w.heap.size w w' := by
  have hb : Below w.heap.size w (w.alloc (.cells #[.string y, .string z] 132)) := (Below.refl _ _).alloc (Nat.le_refl _) _
  have hm1 := (hb.cell (p := ⟨Bm, 0, none⟩) hB).trans hm
  clear hm
  go_enter Try.func163, Try.ntmps163
  go_wp2
  go_ret
  exact ⟨rfl, hb⟩

set_option maxRecDepth 100000 in
set_option maxHeartbeats 4000000 in
theorem indexShort_any (A : Option Addr) (ps : List Sh) (c : Nat) (x : ByteArray) (Bm : Nat) (w : World) (hn : ps.length ≤ maxLen) (hA : ShsAt w w.heap.size A ps) (hB0 : Bm < w.heap.size) (hm : w.cell? ⟨Bm, 0, none⟩ = some (.string x)) :
    Calls Try.prog 186 #[.slice A ps.length c, .func (.func 163) #[] #[.pointer (some ⟨Bm, 0, none⟩)]] w fun e w' => ∃ v : Int, e = .returned (.int .i64 v) ∧ (0 ≤ v ↔ (ofS ps x).isSome = true) ∧ Below w.heap.size w w' := by
  unfold maxLen at hn
  have HH := hide (fun k p => @ofS_hit ps x k p)
  have HN := hide (@ofS_none ps x)
  generalize ofS ps x = R at *
  obtain ⟨n, hL⟩ : ∃ n, ps.length = n := ⟨_, rfl⟩
  have HL := hide hL
  rw [hL] at hn HN ⊢
  clear hL
  go_enter Try.func186, Try.ntmps186
  go_wp2
  go_loopw [8] (fun i wr => ∃ k : Nat, k ≤ n ∧ i = .int .i64 k ∧ Hid (noS ps x k) ∧ Below w.heap.size w wr)
    (fun i _ => n - (intOf i).toNat)
  case atStart => exact ⟨0, by omega, rfl, hide (noS_zero _ _), Below.refl _ _⟩
  case round =>
    obtain ⟨k, hk, rfl, hg, hB⟩ := hrel
    by_cases hlt : k < n
    · obtain ⟨b, o, rfl, hb, hps⟩ := hA (by intro e; rw [e] at HL; have := HL.out; simp at this; omega)
      obtain ⟨p, hp⟩ : ∃ p, ps[k]? = some p := ⟨ps[k]'(by rw [HL.out]; exact hlt), List.getElem?_eq_getElem _⟩
      obtain ⟨y, z⟩ := p
      have hq0 := rangeAt_below (hps k _ hp) hB (by omega)
      have c0 : wr.cell? ⟨b, o + k * 2, none⟩ = some (.string y) := hq0 0 _ rfl
      have c1 : wr.cell? ⟨b, o + k * 2 + 1, none⟩ = some (.string z) := hq0 1 _ rfl
      have cm : wr.cell? ⟨Bm, 0, none⟩ = some (.string x) := (hB.cell (p := ⟨Bm, 0, none⟩) hB0).trans hm
      have hi : (k : Int) < n := by omega
      have h0 : (0 : Int) ≤ k := by omega
      have HP := hide hp
      clear hq0 hps hp
      have HC := hide (sameLong_any y z x Bm wr (Nat.lt_of_lt_of_le hB0 hB.size) cm)
      clear cm
      cases he : (y.toList == x.toList)
      · have hgo := hide (noS_succ hg.out HP.out he)
        rw [he] at HC
        go_wp2_with (go_at_call 163; refine HC.out.mono ?_; rintro e w1 ⟨rfl, hb1⟩)
        exact ⟨⟨k + 1, by omega, by go_num, hgo, hB.trans (hb1.mono hB.size)⟩, by simp [intOf]; omega⟩
      · have HR := hide (HH.out k _ hg.out HP.out he)
        rw [he] at HC
        go_wp2_with (go_at_call 163; refine HC.out.mono ?_; rintro e w1 ⟨rfl, hb1⟩)
        go_ret
        exact ⟨k, rfl, by rw [HR.out]; simp, hB.trans (hb1.mono hB.size)⟩
    · obtain rfl : k = n := by omega
      have HR := hide (HN.out hg.out)
      go_wp2
      go_ret
      exact ⟨-1, rfl, by rw [HR.out]; simp, hB⟩

set_option maxHeartbeats 1000000 in
theorem hasShort_any (A : Option Addr) (ps : List Sh) (c : Nat) (x : ByteArray) (Bm : Nat) (w : World) (hn : ps.length ≤ maxLen) (hA : ShsAt w w.heap.size A ps) (hB0 : Bm < w.heap.size) (hm : w.cell? ⟨Bm, 0, none⟩ = some (.string x)) :
    Calls Try.prog 162 #[.slice A ps.length c, .func (.func 163) #[] #[.pointer (some ⟨Bm, 0, none⟩)]] w fun e w' => e = .returned (.bool (ofS ps x).isSome) ∧ Below w.heap.size w w' := by
  have HI := hide (indexShort_any A ps c x Bm w hn hA hB0 hm)
  clear hA hm hB0 hn
  generalize ps.length = n at *
  generalize (ofS ps x).isSome = R at *
  go_enter Try.func162, Try.ntmps162
  go_wp2_with fail
  refine HI.out.mono ?_
  rintro e w1 ⟨v, rfl, hv, hb1⟩
  have HV := hide hv
  clear hv
  go_wp2
  go_ret
  exact ⟨ret_bool (by
    have := HV.out
    cases R
    · simp at this ⊢; omega
    · simp at this ⊢; omega), hb1⟩

/-- The indices of the words that have a short. -/
def canTo (ps : List Sh) (xs : List ByteArray) (k : Nat) : List Int := ((List.range k).filter (fun i => (ofS ps (xs.getD i ⟨#[]⟩)).isSome)).map (fun (i : Nat) => (i : Int))
def canL (ps : List Sh) (xs : List ByteArray) : List Int := canTo ps xs xs.length
theorem canTo_yes {ps : List Sh} {xs : List ByteArray} {k : Nat} (h : (ofS ps (xs.getD k ⟨#[]⟩)).isSome = true) : canTo ps xs (k + 1) = canTo ps xs k ++ [(k : Int)] := by
  unfold canTo; rw [List.range_succ, List.filter_append, List.filter_cons_of_pos (by simpa using h)]; simp
theorem canTo_no {ps : List Sh} {xs : List ByteArray} {k : Nat} (h : (ofS ps (xs.getD k ⟨#[]⟩)).isSome = false) : canTo ps xs (k + 1) = canTo ps xs k := by
  unfold canTo; rw [List.range_succ, List.filter_append, List.filter_cons_of_neg (by rw [h]; simp)]; simp
theorem canTo_len (ps : List Sh) (xs : List ByteArray) (k : Nat) : (canTo ps xs k).length ≤ k := by
  unfold canTo; rw [List.length_map]; exact Nat.le_trans (List.length_filter_le _ _) (by simp)
theorem canTo_mem {ps : List Sh} {xs : List ByteArray} {k : Nat} {v : Int} (h : v ∈ canTo ps xs k) : ∃ i : Nat, i < k ∧ v = i ∧ (ofS ps (xs.getD i ⟨#[]⟩)).isSome = true := by
  obtain ⟨i, hi, rfl⟩ := List.mem_map.1 h
  obtain ⟨h1, h2⟩ := List.mem_filter.1 hi
  exact ⟨i, List.mem_range.1 h1, rfl, h2⟩
theorem canTo_nodup (ps : List Sh) (xs : List ByteArray) (k : Nat) : (canTo ps xs k).Nodup := by
  unfold canTo
  exact List.Pairwise.map (S := fun a b => a ≠ b) _ (fun a b h e => h (Int.ofNat.inj e)) (List.Pairwise.filter _ List.nodup_range)
theorem getD_get {xs : List ByteArray} {k : Nat} {x : ByteArray} (h : xs[k]? = some x) : xs.getD k ⟨#[]⟩ = x := by simp [List.getD, h]
def IntsBk (R : List Int) (w : World) : Ending → World → Prop := fun e w' => ∃ A' c', e = .returned (.slice A' R.length c') ∧ R.length ≤ c' ∧ IntsIn w' w.heap.size A' R ∧ Below w.heap.size w w'
theorem ownsRow_ints_nil (w : World) (b : Nat) (e : TypeId) : w.ownsRow b e 1 (.slice none 0 0) 0 (([] : List Int).map (.int .i64)) := World.ownsRow_nil _ _ _ _

set_option maxRecDepth 100000 in
set_option maxHeartbeats 4000000 in
theorem shortable_any (A2 : Option Addr) (xs : List ByteArray) (c2 : Nat) (A : Option Addr) (ps : List Sh) (c : Nat) (w : World) (hn : ps.length ≤ maxLen) (hxn : xs.length ≤ 1048576) (hX : StrsAt w w.heap.size A2 xs) (hA : ShsAt w w.heap.size A ps) :
    Calls Try.prog 116 #[.slice A2 xs.length c2, .slice A ps.length c] w (IntsBk (canL ps xs) w) := by
  obtain ⟨i0, hi0, hz0, hz1, hz2⟩ := info_parts Try.infoI64
  have HH := hide (fun Bm x W (hW : Below w.heap.size w W) (hB0 : Bm < W.heap.size) (hm : W.cell? ⟨Bm, 0, none⟩ = some (.string x)) => hasShort_any A ps c x Bm W hn (hA.go hW) hB0 hm)
  have HLN := hide (canTo_len ps xs)
  have HY := hide (fun k => @canTo_yes ps xs k)
  have HNO := hide (fun k => @canTo_no ps xs k)
  unfold canL
  obtain ⟨n, hL⟩ : ∃ n, xs.length = n := ⟨_, rfl⟩
  have HL := hide hL
  rw [hL] at hxn ⊢
  clear hL hA hn
  generalize ps.length = m at *
  go_enter Try.func116, Try.ntmps116
  go_wp2
  go_loopw [5, 10] (fun br i wr => ∃ k : Nat, k ≤ n ∧ i = .int .i64 k ∧ wr.ownsRow w.heap.size 2 1 br (canTo ps xs k).length ((canTo ps xs k).map (.int .i64)) ∧ Below w.heap.size w wr)
    (fun _ i _ => n - (intOf i).toNat)
  case atStart => exact ⟨0, by omega, rfl, ownsRow_ints_nil _ _ _, Below.refl _ _⟩
  case round =>
    obtain ⟨k, hk, rfl, hown, hB⟩ := hrel
    obtain ⟨Ab, cbb, rfl, hcap, _⟩ := cellsIn_of_own hown (by omega)
    have hbs := hB.size
    have HOWN := hide hown
    clear hown
    by_cases hlt : k < n
    · obtain ⟨b, o, rfl, hb, hxs⟩ := hX (by intro e; rw [e] at HL; have := HL.out; simp at this; omega)
      obtain ⟨x, hx⟩ : ∃ x, xs[k]? = some x := ⟨xs[k]'(by rw [HL.out]; exact hlt), List.getElem?_eq_getElem _⟩
      have c0 : wr.cell? ⟨b, o + k, none⟩ = some (.string x) := (hB.cell (p := ⟨b, o + k, none⟩) hb).trans (hxs k x hx)
      have hi : (k : Int) < n := by omega
      have h0 : (0 : Int) ≤ k := by omega
      have HX := hide (getD_get hx)
      have hln := HLN.out k
      clear hxs hx
      have hB1 : Below w.heap.size w (wr.alloc (.cells #[.string x] 9)) := hB.alloc hbs _
      have hm1 := rangeAt_new' wr #[.string x] 9 0 _ rfl
      have hs1 : wr.heap.size < (wr.alloc (.cells #[.string x] 9)).heap.size := by simp
      have HC := hide (HH.out wr.heap.size x _ hB1 hs1 hm1)
      have HO1 := hide (HOWN.out.alloc (.cells #[.string x] 9))
      clear hm1
      cases hof : (ofS ps x).isSome
      · have HE := hide (HNO.out k (by rw [HX.out]; exact hof))
        rw [hof] at HC
        go_wp2_with (go_at_call 162; refine HC.out.mono ?_; rintro e w1 ⟨rfl, hb1⟩)
        refine ⟨⟨k + 1, by omega, by go_num, ?_, hB1.trans (hb1.mono hB1.size)⟩, by simp [intOf]; omega⟩
        rw [HE.out]
        exact own_go HO1.out hb1
      · have HE := hide (HY.out k (by rw [HX.out]; exact hof))
        rw [hof] at HC
        have hB1s := hB1.size
        go_wp2_with fail
        refine HC.out.mono ?_
        rintro e w1 ⟨rfl, hb1⟩
        have hown3 := own_go HO1.out hb1
        have hB3 := hB1.trans (hb1.mono hB1s)
        have hs3 := hB3.size
        clear hb1 HC hs1
        go_wp2_with (at_builtin; refine wpList_append_own _ rfl (.tmp 18) (.tmp 20) 27 rfl w.heap.size 2 i0 (.int .i64 0) 1 8 Try.underlying27 hi0 hz0 hz1 hz2 rfl (by decide) _ (canTo ps xs k).length _ rfl (hown3.alloc _) ⟨w1.heap.size, 0, none⟩ 1 1 [.int .i64 k] rfl rfl (one_cell _) (one_one rfl) ?h1 ?h2 ?h3 ?_)
        case h1 => unfold maxLen; omega
        case h2 => omega
        case h3 => simp; omega
        intro v' w4 hown4 hg4 _
        obtain ⟨A4, c4, rfl, _, _⟩ := cellsIn_of_own hown4 (by omega)
        have H4 := hide hown4
        have hg34 : w1.grownBy w4 _ := grown_trans (World.grownBy_alloc w1 _ _) hg4
        have hB4 := hB3.trans (grown_toBelow hg34 (by omega) (fun k hk => (hown3.lt k hk).1))
        clear hown4 hg4 hg34 hown3
        go_wp2
        refine ⟨⟨k + 1, by omega, by go_num, ?_, hB4⟩, by simp [intOf]; omega⟩
        rw [HE.out, List.map_append, List.length_append]
        exact H4.out
    · obtain rfl : k = n := by omega
      obtain ⟨Ag, cg, e, _, hI⟩ := intsIn_of_own HOWN.out
      injection e with e1 e2 e3
      subst e1 e3
      have HI := hide hI
      clear hI
      go_wp2
      go_ret
      exact ⟨Ab, cbb, rfl, hcap, HI.out, hB⟩
end Go.Proofs.Ytikmmeohmkjbeaa
