/- Two systems are equal: the model's SameSystem and the program's. -/
import Derived.Test.YtgklhdacnklhdaaSys
import Derived.Laws.StructEq
namespace Go.Proofs.Ytgklhdacnklhdaa
open Go.RowKit

theorem run_neq_sign (x y a b : Int) (w : World) :
    (binOp .neq 143 (.agg #[.int .u8 x, .int .i16 y]) (.agg #[.int .u8 a, .int .i16 b])).run Try.prog w = .ok (.bool (!decide ((x, y) = (a, b)))) w := by
  have hS : Try.prog.underlying 143 = some (.struct (Try.prog.fieldsOf 143)) := by kernel_rfl
  have hp : Try.prog.stoodInHeld 143 = false := by kernel_rfl
  have hf : (Try.prog.fieldsOf 143).toList = [⟨"Letter", 5, 0, false, "", "", 0⟩, ⟨"Value", 141, 1, false, "", "", 2⟩] := by kernel_rfl
  rw [run_neq_struct, show (10000 : Nat) = 9999 + 1 from rfl, run_equalIn_agg w 9999 _ _ _ hS hp, hf]
  by_cases h1 : x = a
  · by_cases h2 : y = b
    · subst h1; subst h2
      simp [Op.eqFields, Go.part, isAgg, go_sem]
    · simp [Op.eqFields, Go.part, isAgg, go_sem, h1, h2]
  · simp [Op.eqFields, Go.part, isAgg, go_sem, h1]
theorem run_neq_a2 (x y a b : Int) (w : World) :
    (binOp .neq 144 (.agg #[.int .u8 x, .int .u8 y]) (.agg #[.int .u8 a, .int .u8 b])).run Try.prog w = .ok (.bool (!decide ((x, y) = (a, b)))) w := by
  rw [run_neq_struct, show (10000 : Nat) = 9998 + 2 from rfl, Op.equalIn]
  have hsz : ∀ w, (sizeOf 5).run Try.prog w = .ok 1 w := fun _ => by kernel_rfl
  have ht : Try.prog.underlying 144 = some (.array 2 5) := Try.underlying144
  have e1 := fun k a b => run_equalIn_int (P := Try.prog) w 9998 k .u8 .u8 a b
  by_cases h1 : x = a
  · by_cases h2 : y = b
    · subst h1; subst h2
      simp [Sem.run_bind, run_underlying ht, Result.andThen_ok, hsz, Std.Legacy.Range.forIn_eq_forIn_range', Std.Legacy.Range.size, Go.part, isAgg, run_underlying Try.underlying5, go_sem, List.range', run_equalIn_int, Try.underlying5]
    · simp [Sem.run_bind, run_underlying ht, Result.andThen_ok, hsz, Std.Legacy.Range.forIn_eq_forIn_range', Std.Legacy.Range.size, Go.part, isAgg, run_underlying Try.underlying5, go_sem, List.range', run_equalIn_int, Try.underlying5, h1, h2]
  · simp [Sem.run_bind, run_underlying ht, Result.andThen_ok, hsz, Std.Legacy.Range.forIn_eq_forIn_range', Std.Legacy.Range.size, Go.part, isAgg, run_underlying Try.underlying5, go_sem, List.range', run_equalIn_int, Try.underlying5, h1]

/-- Two lists are equal up to place k. -/
def eqUp (ps qs : List Dub) (k : Nat) : Prop := ∀ j, j < k → ps[j]? = qs[j]?
theorem eqUp_succ {ps qs : List Dub} {k : Nat} (h : eqUp ps qs k) (hk : ps[k]? = qs[k]?) : eqUp ps qs (k + 1) := fun j hj => by
  by_cases e : j = k
  · rw [e]; exact hk
  · exact h j (by omega)
theorem eqUp_all {ps qs : List Dub} (hl : ps.length = qs.length) (h : eqUp ps qs ps.length) : ps = qs := by
  apply List.ext_getElem?
  intro j
  by_cases hj : j < ps.length
  · exact h j hj
  · rw [List.getElem?_eq_none (by omega), List.getElem?_eq_none (by omega)]

set_option maxRecDepth 100000 in
set_option maxHeartbeats 2000000 in
theorem slicesEqSg_any (A A' : Option Addr) (ps qs : List Dub) (c c' : Nat) (w : World) (hn : ps.length ≤ maxLen) (hn' : qs.length ≤ maxLen) (hA : SgAt w w.heap.size A ps) (hA' : SgAt w w.heap.size A' qs) :
    Calls Try.prog 105 #[.slice A ps.length c, .slice A' qs.length c'] w fun e w' => e = .returned (.bool (decide (ps = qs))) ∧ Below w.heap.size w w' := by
  unfold maxLen at hn hn'
  have HR := hide run_neq_sign
  generalize hS : decide (ps = qs) = S
  have HS := hide hS
  clear hS
  by_cases hl : ps.length = qs.length
  · have hln : ((ps.length : Int) != qs.length) = false := by simp [hl]
    have HL := hide hl
    rw [← hl]
    have hln' : ((ps.length : Int) != ps.length) = false := by simp
    clear hl hln
    go_enter Try.func105, Try.ntmps105
    go_wp2
    go_loopw [13] (fun i wr => ∃ k m : Nat, k ≤ ps.length ∧ i = .int .i64 k ∧ wr = w.drewN m ∧ Hid (eqUp ps qs k))
      (fun i _ => ps.length - (intOf i).toNat)
    case atStart => exact ⟨0, 0, by omega, rfl, rfl, hide (fun j hj => absurd hj (by omega))⟩
    case round =>
      obtain ⟨k, m, hk, rfl, rfl, hg⟩ := hrel
      by_cases hlt : k < ps.length
      · obtain ⟨b, o, rfl, hb, hps⟩ := hA (by intro e; rw [e] at hlt; simp at hlt)
        obtain ⟨b', o', rfl, hb', hps'⟩ := hA' (by intro e; have := HL.out; rw [e] at this; simp at this; rw [this] at hlt; simp at hlt)
        obtain ⟨p, hp⟩ : ∃ p, ps[k]? = some p := ⟨ps[k]'hlt, List.getElem?_eq_getElem _⟩
        obtain ⟨q, hq⟩ : ∃ q, qs[k]? = some q := ⟨qs[k]'(by rw [← HL.out]; exact hlt), List.getElem?_eq_getElem _⟩
        have hcell := hps k p hp
        have hcell' := hps' k q hq
        obtain ⟨x, y⟩ := p
        obtain ⟨x', y'⟩ := q
        have c0 : w.cell? ⟨b, o + k * 2, none⟩ = some (.int .u8 x) := hcell 0 _ rfl
        have c1 : w.cell? ⟨b, o + k * 2 + 1, none⟩ = some (.int .i16 y) := hcell 1 _ rfl
        have d0 : w.cell? ⟨b', o' + k * 2, none⟩ = some (.int .u8 x') := hcell' 0 _ rfl
        have d1 : w.cell? ⟨b', o' + k * 2 + 1, none⟩ = some (.int .i16 y') := hcell' 1 _ rfl
        have hi : (k : Int) < ps.length := by omega
        have h0 : (0 : Int) ≤ k := by omega
        have hr := fun w => HR.out x y x' y' w
        cases hd : decide ((x, y) = (x', y'))
        · simp only [hd] at hr
          go_wp2
          go_quiet (fail)
          clear c0 c1 d0 d1 hr
          go_wp2
          go_ret
          refine ⟨ret_bool ?_, below_drewN (below_drewN (Below.refl _ _) _) _⟩
          rw [← HS.out]
          have hne : ps ≠ qs := fun e => by rw [e, hq] at hp; injection hp with hp; rw [hp] at hd; simp at hd
          simp [hne]
        · simp only [hd] at hr
          go_wp2
          go_quiet (fail)
          clear c0 c1 d0 d1 hr
          go_wp2
          exact ⟨⟨k + 1, _, by omega, by go_num, rfl, hide (eqUp_succ hg.out (by rw [hp, hq, of_decide_eq_true hd]))⟩, by simp [intOf]; omega⟩
      · obtain rfl : k = ps.length := by omega
        go_wp2
        go_ret
        refine ⟨ret_bool ?_, below_drewN (Below.refl _ _) _⟩
        rw [← HS.out, eqUp_all HL.out hg.out]; simp
  · have hln : ((ps.length : Int) != qs.length) = true := by simp; omega
    have hln2 : (ps.length != qs.length) = true := by simp; omega
    have HN := hide hl
    clear hl
    go_enter Try.func105, Try.ntmps105
    go_wp2
    go_ret
    refine ⟨ret_bool ?_, Below.refl _ _⟩
    rw [← HS.out]
    have hne : ps ≠ qs := fun e => HN.out (by rw [e])
    simp [hne]


set_option maxRecDepth 100000 in
set_option maxHeartbeats 2000000 in
theorem slicesEqA2_any (A A' : Option Addr) (ps qs : List Dub) (c c' : Nat) (w : World) (hn : ps.length ≤ maxLen) (hn' : qs.length ≤ maxLen) (hA : A2At w w.heap.size A ps) (hA' : A2At w w.heap.size A' qs) :
    Calls Try.prog 106 #[.slice A ps.length c, .slice A' qs.length c'] w fun e w' => e = .returned (.bool (decide (ps = qs))) ∧ Below w.heap.size w w' := by
  unfold maxLen at hn hn'
  have HR := hide run_neq_a2
  generalize hS : decide (ps = qs) = S
  have HS := hide hS
  clear hS
  by_cases hl : ps.length = qs.length
  · have hln : ((ps.length : Int) != qs.length) = false := by simp [hl]
    have HL := hide hl
    rw [← hl]
    have hln' : ((ps.length : Int) != ps.length) = false := by simp
    clear hl hln
    go_enter Try.func106, Try.ntmps106
    go_wp2
    go_loopw [13] (fun i wr => ∃ k m : Nat, k ≤ ps.length ∧ i = .int .i64 k ∧ wr = w.drewN m ∧ Hid (eqUp ps qs k))
      (fun i _ => ps.length - (intOf i).toNat)
    case atStart => exact ⟨0, 0, by omega, rfl, rfl, hide (fun j hj => absurd hj (by omega))⟩
    case round =>
      obtain ⟨k, m, hk, rfl, rfl, hg⟩ := hrel
      by_cases hlt : k < ps.length
      · obtain ⟨b, o, rfl, hb, hps⟩ := hA (by intro e; rw [e] at hlt; simp at hlt)
        obtain ⟨b', o', rfl, hb', hps'⟩ := hA' (by intro e; have := HL.out; rw [e] at this; simp at this; rw [this] at hlt; simp at hlt)
        obtain ⟨p, hp⟩ : ∃ p, ps[k]? = some p := ⟨ps[k]'hlt, List.getElem?_eq_getElem _⟩
        obtain ⟨q, hq⟩ : ∃ q, qs[k]? = some q := ⟨qs[k]'(by rw [← HL.out]; exact hlt), List.getElem?_eq_getElem _⟩
        have hcell := hps k p hp
        have hcell' := hps' k q hq
        obtain ⟨x, y⟩ := p
        obtain ⟨x', y'⟩ := q
        have c0 : w.cell? ⟨b, o + k * 2, none⟩ = some (.int .u8 x) := hcell 0 _ rfl
        have c1 : w.cell? ⟨b, o + k * 2 + 1, none⟩ = some (.int .u8 y) := hcell 1 _ rfl
        have d0 : w.cell? ⟨b', o' + k * 2, none⟩ = some (.int .u8 x') := hcell' 0 _ rfl
        have d1 : w.cell? ⟨b', o' + k * 2 + 1, none⟩ = some (.int .u8 y') := hcell' 1 _ rfl
        have hi : (k : Int) < ps.length := by omega
        have h0 : (0 : Int) ≤ k := by omega
        have hr := fun w => HR.out x y x' y' w
        cases hd : decide ((x, y) = (x', y'))
        · simp only [hd] at hr
          go_wp2
          go_quiet (fail)
          clear c0 c1 d0 d1 hr
          go_wp2
          go_ret
          refine ⟨ret_bool ?_, below_drewN (below_drewN (Below.refl _ _) _) _⟩
          rw [← HS.out]
          have hne : ps ≠ qs := fun e => by rw [e, hq] at hp; injection hp with hp; rw [hp] at hd; simp at hd
          simp [hne]
        · simp only [hd] at hr
          go_wp2
          go_quiet (fail)
          clear c0 c1 d0 d1 hr
          go_wp2
          exact ⟨⟨k + 1, _, by omega, by go_num, rfl, hide (eqUp_succ hg.out (by rw [hp, hq, of_decide_eq_true hd]))⟩, by simp [intOf]; omega⟩
      · obtain rfl : k = ps.length := by omega
        go_wp2
        go_ret
        refine ⟨ret_bool ?_, below_drewN (Below.refl _ _) _⟩
        rw [← HS.out, eqUp_all HL.out hg.out]; simp
  · have hln : ((ps.length : Int) != qs.length) = true := by simp; omega
    have hln2 : (ps.length != qs.length) = true := by simp; omega
    have HN := hide hl
    clear hl
    go_enter Try.func106, Try.ntmps106
    go_wp2
    go_ret
    refine ⟨ret_bool ?_, Below.refl _ _⟩
    rw [← HS.out]
    have hne : ps ≠ qs := fun e => HN.out (by rw [e])
    simp [hne]


/-- Two systems are equal. -/
def sameS (S T : Sy) : Bool := decide (S.sg = T.sg) && decide (S.mn = T.mn)

set_option maxRecDepth 100000 in
set_option maxHeartbeats 2000000 in
theorem implSameSystem_any (S T : Sy) (hS : S.ok) (hT : T.ok) (A D A' D' : Option Addr) (c d c' d' : Nat) (w : World) (hA : SyAt w w.heap.size A D S) (hA' : SyAt w w.heap.size A' D' T) :
    Calls Try.prog 44 #[sv S A D c d, sv T A' D' c' d'] w fun e w' => e = .returned (.bool (sameS S T)) ∧ Below w.heap.size w w' := by
  obtain ⟨ps, qs⟩ := S
  obtain ⟨ps', qs'⟩ := T
  have hn := hS.n
  have hm := hS.m
  have hn' := hT.n
  have hm' := hT.m
  simp only at hn hm hn' hm'
  have hs : sameS ⟨ps, qs⟩ ⟨ps', qs'⟩ = (decide (ps = ps') && decide (qs = qs')) := rfl
  have HS := hide hs
  clear hs
  generalize sameS ⟨ps, qs⟩ ⟨ps', qs'⟩ = C at *
  have b0 : Below w.heap.size w ((w.alloc (Obj.cells #[.slice A ps.length c, .slice D qs.length d] 69)).alloc (Obj.cells #[.slice A' ps'.length c', .slice D' qs'.length d'] 69)) :=
    ((Below.refl _ _).alloc (Nat.le_refl _) _).alloc (by simp) _
  have r0 : ((w.alloc (Obj.cells #[.slice A ps.length c, .slice D qs.length d] 69)).alloc (Obj.cells #[.slice A' ps'.length c', .slice D' qs'.length d'] 69)).rangeAt w.heap.size 0 [.slice A ps.length c, .slice D qs.length d] :=
    World.rangeAt_alloc (rangeAt_new w [.slice A ps.length c, .slice D qs.length d] _) _
  have r1 : ((w.alloc (Obj.cells #[.slice A ps.length c, .slice D qs.length d] 69)).alloc (Obj.cells #[.slice A' ps'.length c', .slice D' qs'.length d'] 69)).rangeAt (w.heap.size + 1) 0 [.slice A' ps'.length c', .slice D' qs'.length d'] :=
    rangeAt_newg (by simp) rfl
  have s0 : ((w.alloc (Obj.cells #[.slice A ps.length c, .slice D qs.length d] 69)).alloc (Obj.cells #[.slice A' ps'.length c', .slice D' qs'.length d'] 69)).heap.size = w.heap.size + 1 + 1 := by simp
  go_enter Try.func44, Try.ntmps44
  go_wp2_with fail
  generalize ((w.alloc (Obj.cells #[.slice A ps.length c, .slice D qs.length d] 69)).alloc (Obj.cells #[.slice A' ps'.length c', .slice D' qs'.length d'] 69)) = W0 at *
  have hB := (hA.below b0).mono b0.size
  have hB' := (hA'.below b0).mono b0.size
  refine (slicesEqSg_any A A' ps ps' c c' W0 hn hn' hB.1 hB'.1).mono ?_
  rintro e w1 ⟨rfl, hb1⟩
  have b1 := b0.trans (hb1.mono b0.size)
  cases h1 : decide (ps = ps')
  · clear r0 r1
    have H1 := hide h1
    clear h1
    go_wp2
    go_ret
    exact ⟨ret_bool (by rw [HS.out, H1.out]; rfl), b1⟩
  · have c1 : w1.cell? ⟨w.heap.size, 1, none⟩ = some (.slice D qs.length d) := rangeAt_below r0 hb1 (by omega) 1 _ rfl
    have c2 : w1.cell? ⟨w.heap.size + 1, 1, none⟩ = some (.slice D' qs'.length d') := rangeAt_below r1 hb1 (by omega) 1 _ rfl
    have H1 := hide h1
    clear r0 r1 h1
    go_wp2_with fail
    refine (slicesEqA2_any D D' qs qs' d d' w1 hm hm' (hB.go hb1).2 (hB'.go hb1).2).mono ?_
    rintro e w2 ⟨rfl, hb2⟩
    go_wp2
    go_ret
    exact ⟨ret_bool (by rw [HS.out, H1.out]; rfl), b1.trans (hb2.mono b1.size)⟩
end Go.Proofs.Ytgklhdacnklhdaa
