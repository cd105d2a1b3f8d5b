/- The program's search for a pair: BinarySearchFunc, findPair, byOf. · The face's part of every law. · The program's width of a word. · The program's test of a text. · ValidText: the model and the program give the same answer for every text. · Lists of texts in memory: how big they are, their copies, and whether two are equal. -/
import Derived.Test.YtngondeaeipcfaaGreatDoorG3
import Derived.Test.YtngondeaeipcfaaGreatDoorG4
import Derived.Test.YtngondeaeipcfaaGreatDoorG2
import Derived.Test.YtngondeaeipcfaaGreatDoorG1
import Derived.LoopTactic
import Derived.Laws.EntriesVeiled
import Derived.Laws.IdiomStrings
import Derived.Deep.QuietTactic
import Derived.BigQuiet

namespace Go.Proofs.YtngondeaeipcfaaGreatDoor
open Go.RowKit

theorem ret_ib {i j : Int} {a b : Bool} (h : i = j) (h' : a = b) : Ending.returned (.tuple #[.int .i64 i, .bool a]) = .returned (.tuple #[.int .i64 j, .bool b]) := by rw [h, h']
theorem ret_ii {i j a b : Int} {k k' : IntKind} (h : i = j) (h' : a = b) : Ending.returned (.tuple #[.int k i, .int k' a]) = .returned (.tuple #[.int k j, .int k' b]) := by rw [h, h']
set_option maxRecDepth 100000 in
set_option maxHeartbeats 4000000 in
theorem search_any (A : Option Addr) (ps : List Tri) (c : Nat) (x y : Int) (w : World) (hn : ps.length ≤ maxLen / 4) (hs : sortedP ps) (hA : PairsAt w w.heap.size A ps) :
    Calls Tryz.prog 260 #[.slice A ps.length c, .agg #[.int .u8 x, .int .u8 y, .int .i8 0], .func (.func 258) #[] #[]] w fun e w' =>
      e = .returned (.tuple #[.int .i64 (lb ps (x, y, 0)), .bool (hit ps (x, y, 0))]) ∧ Below w.heap.size w w' := by
  unfold maxLen at hn
  have hn' : ps.length ≤ 2305843009213693951 := by omega
  clear hn
  have HS := hide hs
  clear hs
  have hb0 : Below w.heap.size w (w.alloc (.cells #[.int .u8 x, .int .u8 y, .int .i8 0] 119)) := (Below.refl _ _).alloc (Nat.le_refl _) _
  have e0 := rangeAt_new' w #[.int .u8 x, .int .u8 y, .int .i8 0] 119
  have hz1 : w.heap.size < (w.alloc (.cells #[.int .u8 x, .int .u8 y, .int .i8 0] 119)).heap.size := by simp
  have BA := hA.below hb0
  clear hA
  go_enter Tryz.func260, Tryz.ntmps260
  go_wp2
  generalize (w.alloc (.cells #[.int .u8 x, .int .u8 y, .int .i8 0] 119)) = W0 at *
  have hBs := hb0.size
  go_loopw [9, 10] (fun i j wr => ∃ l h : Nat, l ≤ h ∧ h ≤ ps.length ∧ i = .int .i64 l ∧ j = .int .i64 h ∧ Below W0.heap.size W0 wr ∧
      Hid (∀ k q, k < l → ps[k]? = some q → ahead q (x, y, 0) = true) ∧ Hid (∀ k q, h ≤ k → ps[k]? = some q → ahead q (x, y, 0) = false))
    (fun i j _ => (intOf j).toNat - (intOf i).toNat)
  case atStart => exact ⟨0, ps.length, by omega, by omega, rfl, rfl, Below.refl _ _, hide (fun k q hk => by omega), hide (fun k q hk hq => by have := (List.getElem?_eq_some_iff.1 hq).1; omega)⟩
  case round =>
    obtain ⟨l, h, hlh, hhn, rfl, rfl, hB, hlo, hhi⟩ := hrel
    by_cases hlt : l < h
    · have hi : (l : Int) < h := by omega
      have hm : ((l : Int) + h) / 2 = ((l + h) / 2 : Nat) := by omega
      have hm1 : l ≤ (l + h) / 2 := by omega
      have hm2 : (l + h) / 2 < h := by omega
      have HM := hide hm
      clear hm
      go_wp2
      simp only [HM.out]
      clear HM
      generalize (l + h) / 2 = m at *
      have hmn : m < ps.length := by omega
      obtain ⟨b, o, rfl, hb, hps⟩ := BA (by intro e; rw [e] at hmn; simp at hmn)
      obtain ⟨p, hp⟩ : ∃ p, ps[m]? = some p := ⟨ps[m]'hmn, List.getElem?_eq_getElem _⟩
      have hcell := rangeAt_below (hps m _ hp) hB (by omega)
      have hcellx := rangeAt_below e0 hB hz1
      obtain ⟨r, s, t⟩ := p
      have c0 := Over.get (hcell 0 _ rfl)
      have c1 := Over.get (hcell 1 _ rfl)
      have c2 := Over.get (hcell 2 _ rfl)
      have d0 := Over.get (hcellx 0 _ rfl)
      have d1 := Over.get (hcellx 1 _ rfl)
      have d2 := Over.get (hcellx 2 _ rfl)
      simp only [Nat.add_zero, Nat.zero_add] at c0 d0 d1 d2
      have i0 : (0 : Int) ≤ m := by omega
      have i1 : (m : Int) < ps.length := by omega
      clear hcell hcellx hps
      cases ha : ahead (r, s, t) (x, y, 0)
      · have hc0 : decide (cmpP (r, s, t) (x, y, 0) < 0) = false := by
          have : ¬ cmpP (r, s, t) (x, y, 0) < 0 := fun e => by rw [cmpP_neg.1 e] at ha; cases ha
          simpa using this
        refine wp_region_over (by kernel_rfl) (by kernel_rfl) ?_
        repeat (go_big_quiet_step (first | (go_at_call 258; exact over_call (comparePairs_any _ _ _ _ _ _ _))))
        refine wpQuiet_nil ?_
        intro w1 hb1
        have hB1 := hB.trans (hb1.mono hB.size)
        clear hb1 c0 c1 c2 d0 d1 d2
        go_wp2
        refine ⟨⟨l, m, by omega, by omega, rfl, rfl, hB1, hlo, hide (fun k q hk hq => ?_)⟩, by simp [intOf]; omega⟩
        by_cases e : k = m
        · subst e; rw [hp] at hq; injection hq with hq; subst hq; exact ha
        · cases e' : ahead q (x, y, 0)
          · rfl
          · have := ahead_trans (HS.out m k _ q (by omega) hp hq) e'
            rw [ha] at this; cases this
      · have hc0 : decide (cmpP (r, s, t) (x, y, 0) < 0) = true := by have := cmpP_neg.2 ha; simpa using this
        refine wp_region_over (by kernel_rfl) (by kernel_rfl) ?_
        repeat (go_big_quiet_step (first | (go_at_call 258; exact over_call (comparePairs_any _ _ _ _ _ _ _))))
        refine wpQuiet_nil ?_
        intro w1 hb1
        have hB1 := hB.trans (hb1.mono hB.size)
        clear hb1 c0 c1 c2 d0 d1 d2
        go_wp2
        refine ⟨⟨m + 1, h, by omega, by omega, by go_num, rfl, hB1, hide (fun k q hk hq => ?_), hhi⟩, by simp [intOf]; omega⟩
        by_cases e : k = m
        · subst e; rw [hp] at hq; injection hq with hq; subst hq; exact ha
        · exact ahead_trans (HS.out k m q _ (by omega) hq hp) ha
    · obtain rfl : l = h := by omega
      have hl : l = lb ps (x, y, 0) := lb_eq hhn (fun k q hk hq => hlo.out k q hk hq) (fun q hq => hhi.out l q (Nat.le_refl _) hq)
      have HL := hide hl
      clear hl hlt hlh
      by_cases hln : l < ps.length
      · have hi : decide ((l : Int) < ps.length) = true := by simp; omega
        have hi' : decide (l < ps.length) = true := by simp; omega
        obtain ⟨b, o, rfl, hb, hps⟩ := BA (by intro e; rw [e] at hln; simp at hln)
        obtain ⟨p, hp⟩ : ∃ p, ps[l]? = some p := ⟨ps[l]'hln, List.getElem?_eq_getElem _⟩
        have hcell := rangeAt_below (hps l _ hp) hB (by omega)
        have hcellx := rangeAt_below e0 hB hz1
        obtain ⟨r, s, t⟩ := p
        have c0 := Over.get (hcell 0 _ rfl)
        have c1 := Over.get (hcell 1 _ rfl)
        have c2 := Over.get (hcell 2 _ rfl)
        have d0 := Over.get (hcellx 0 _ rfl)
        have d1 := Over.get (hcellx 1 _ rfl)
        have d2 := Over.get (hcellx 2 _ rfl)
        simp only [Nat.add_zero, Nat.zero_add] at c0 d0 d1 d2
        have i0 : (0 : Int) ≤ l := by omega
        have i1 : (l : Int) < ps.length := by omega
        have hh : hit ps (x, y, 0) = (cmpP (r, s, t) (x, y, 0) == 0) := by simp only [hit]; rw [← HL.out, hp]
        have HH := hide hh
        clear hcell hcellx hps hh
        go_wp2
        refine wp_region_over (by kernel_rfl) (by kernel_rfl) ?_
        repeat (go_big_quiet_step (first | (go_at_call 258; exact over_call (comparePairs_any _ _ _ _ _ _ _))))
        refine wpQuiet_nil ?_
        intro w1 hb1
        have hB1 := hB.trans (hb1.mono hB.size)
        clear hb1 c0 c1 c2 d0 d1 d2
        go_wp2
        go_ret2
        exact ⟨ret_ib (by rw [← HL.out]) HH.out.symm, hb0.trans (hB1.mono hBs)⟩
      · have hi : decide ((l : Int) < ps.length) = false := by simp; omega
        have hi' : decide (l < ps.length) = false := by simp; omega
        have hh : hit ps (x, y, 0) = false := by simp only [hit]; rw [← HL.out, List.getElem?_eq_none (by omega)]
        have HH := hide hh
        clear hh
        go_wp2
        refine wp_region_over (by kernel_rfl) (by kernel_rfl) ?_
        repeat (go_big_quiet_step (fail))
        refine wpQuiet_nil ?_
        intro w1 hb1
        have hB1 := hB.trans (hb1.mono hB.size)
        clear hb1
        go_wp2
        go_ret2
        exact ⟨ret_ib (by rw [← HL.out]) HH.out.symm, hb0.trans (hB1.mono hBs)⟩

set_option maxHeartbeats 2000000 in
theorem findPair_any (A : Option Addr) (ps : List Tri) (c : Nat) (x y : Int) (w : World) (hn : ps.length ≤ maxLen / 4) (hs : sortedP ps) (hA : PairsAt w w.heap.size A ps) :
    Calls Tryz.prog 211 #[.slice A ps.length c, .int .u8 x, .int .u8 y] w fun e w' =>
      e = .returned (.tuple #[.int .i64 (lb ps (x, y, 0)), .bool (hit ps (x, y, 0))]) ∧ Below w.heap.size w w' := by
  have H := hide (search_any A ps c x y w hn hs hA)
  clear hn hs hA
  go_enter Tryz.func211, Tryz.ntmps211
  go_wp2_with (go_at_call 260; refine H.out.mono ?_; rintro e w1 ⟨rfl, hb1⟩)
  go_ret2
  exact ⟨rfl, hb1⟩

set_option maxRecDepth 100000 in
set_option maxHeartbeats 2000000 in
theorem byOf_any (F : Fc) (hF : F.ok) (A : Option Addr) (c : Nat) (x y : Int) (w : World) (hn : F.ps.length ≤ 1048576) (hs : sortedP F.ps) (hA : PairsAt w w.heap.size A F.ps) :
    Calls Tryz.prog 115 #[.agg (fc F (.slice A F.ps.length c)).toArray, .int .u8 x, .int .u8 y] w fun e w' =>
      e = .returned (.int .i64 (byL F.ps x y)) ∧ Below w.heap.size w w' := by
  have hW := hide hF.len
  have hr := rangeAt_new w (fc F (.slice A F.ps.length c)) 28
  have hb0 : Below w.heap.size w (w.alloc (.cells (fc F (.slice A F.ps.length c)).toArray 28)) := (Below.refl _ _).alloc (Nat.le_refl _) _
  have hs0 : w.heap.size < (w.alloc (.cells (fc F (.slice A F.ps.length c)).toArray 28)).heap.size := by simp
  have x28 := rangeAt_cell hr (fc_sl hW.out _)
  have BA := hA.below hb0
  have H := hide (findPair_any A F.ps c x y _ (by unfold maxLen; omega) hs (BA.mono hb0.size))
  obtain ⟨t1, t0⟩ := byL_hit hs x y
  have T1 := hide t1
  have T0 := hide t0
  clear t1 t0 hs hA
  cases hh : hit F.ps (x, y, 0)
  · have HH := hide hh
    go_enter Tryz.func115, Tryz.ntmps115
    go_wp2_with (go_at_call 211; refine H.out.mono ?_; rintro e w1 ⟨rfl, hb1⟩)
    go_ret
    exact ⟨ret_int (T0.out HH.out).symm, hb0.trans (hb1.mono hb0.size)⟩
  · obtain ⟨q, hq, hv⟩ := T1.out hh
    obtain ⟨r, s, t⟩ := q
    have hlt := (List.getElem?_eq_some_iff.1 hq).1
    obtain ⟨b, o, rfl, hb, hps⟩ := BA (by intro e; rw [e] at hlt; simp at hlt)
    have hcell := (hps _ _ hq) 2 _ rfl
    have HC := hide hcell
    have HX := hide x28
    have HV := hide hv
    have i0 : (0 : Int) ≤ (lb F.ps (x, y, 0) : Nat) := by omega
    have i1 : ((lb F.ps (x, y, 0) : Nat) : Int) < F.ps.length := by omega
    obtain ⟨⟨p1, p2⟩, ⟨p3, p4⟩, p5, p6⟩ := hF.pair hq
    clear hcell hps hv
    go_enter Tryz.func115, Tryz.ntmps115
    go_wp2_with fail
    generalize (w.alloc (.cells (fc F (.slice (some ⟨b, o, none⟩) F.ps.length c)).toArray 28)) = W0 at *
    refine H.out.mono ?_
    rintro e w1 ⟨rfl, hb1⟩
    have c28 : w1.cell? ⟨w.heap.size, 28, none⟩ = some (.slice (some ⟨b, o, none⟩) F.ps.length c) := (hb1.cell (p := ⟨w.heap.size, 28, none⟩) hs0).trans HX.out
    have c2 : w1.cell? ⟨b, o + lb F.ps (x, y, 0) * 3 + 2, none⟩ = some (.int .i8 t) := (hb1.cell (p := ⟨b, o + lb F.ps (x, y, 0) * 3 + 2, none⟩) (by show b < _; omega)).trans HC.out
    generalize lb F.ps (x, y, 0) = m at *
    go_wp2
    go_ret
    exact ⟨ret_int HV.out.symm, hb0.trans (hb1.mono hb0.size)⟩
end Go.Proofs.YtngondeaeipcfaaGreatDoor

namespace Go.Proofs.YtngondeaeipcfaaGreatDoor
open Go.RowKit

theorem loadAt_over {P : Program} {W : World} {b o : Nat} {cs : List Value} {ty : TypeId} {d : TypeDesc} (hc : W.rangeAt b o cs) (hlt : b < W.heap.size)
    (hu : P.underlying ty = some d) (hd : d.isRow = true) (hi : (P.info? ty).map (·.size) = some cs.length) :
    ∀ w', Below W.heap.size W w' → (Instr.loadAt ty (.pointer (some ⟨b, o, none⟩))).run P w' = .ok (.agg cs.toArray) w' :=
  fun w' h => run_loadAt_mid w' b o ty cs d (rangeAt_below hc h hlt) hu hd hi
theorem PairsAt.go {W w' : World} {B : Nat} {A : Option Addr} {ps : List (Int × Int × Int)} (h : PairsAt W B A ps) (hb : Below W.heap.size W w') (hB : B ≤ W.heap.size) : PairsAt w' w'.heap.size A ps :=
  (h.below (hb.mono hB)).mono (Nat.le_trans hB hb.size)
theorem PairsIn.go {W w' : World} {L : Nat} {A : Option Addr} {ps : List (Int × Int × Int)} (h : PairsIn W L A ps) (hb : Below W.heap.size W w') : PairsAt w' w'.heap.size A ps :=
  (h.below hb (Nat.le_refl _)).at_
theorem rangeAt_over {W w' : World} {b o : Nat} {cs : List Value} (h : W.rangeAt b o cs) (hb : Below W.heap.size W w') (hlt : b < W.heap.size) : w'.rangeAt b o cs := rangeAt_below h hb hlt
/-- Two rows are kept in every world over W. -/
theorem keepS {W w' : World} {b b' : Nat} {cs cs' : List Value} (hb : Below W.heap.size W w') (r : W.rangeAt b 0 cs) (hlt : b < W.heap.size) (r' : W.rangeAt b' 0 cs') (hlt' : b' < W.heap.size) :
    Below W.heap.size W w' ∧ w'.rangeAt b 0 cs ∧ w'.rangeAt b' 0 cs' := ⟨hb, rangeAt_below r hb hlt, rangeAt_below r' hb hlt'⟩
/-- A face that has come back from toFace is laid in a variable. -/
theorem stored_face (w : World) (F : Fc) (hW : F.W.length = 26) (sl : Value) : ∃ W5, W5 = (w.alloc (.cells #[.int .i8 0, .int .i8 0, .int .i8 0, .int .i8 0, .int .i8 0, .int .i8 0, .int .i8 0, .int .i8 0, .int .i8 0, .int .i8 0, .int .i8 0, .int .i8 0, .int .i8 0, .int .i8 0, .int .i8 0, .int .i8 0, .int .i8 0, .int .i8 0, .int .i8 0, .int .i8 0, .int .i8 0, .int .i8 0, .int .i8 0, .int .i8 0, .int .i8 0, .int .i8 0, .int .i8 0, .int .i8 0, .slice none 0 0] 28)).setCells w.heap.size 0 (fc F sl).toArray.toList ∧ W5.rangeAt w.heap.size 0 (fc F sl) ∧
    Below w.heap.size w W5 ∧ w.heap.size < W5.heap.size ∧ W5.there w.heap.size 0 29 ∧ (w.alloc (.cells #[.int .i8 0, .int .i8 0, .int .i8 0, .int .i8 0, .int .i8 0, .int .i8 0, .int .i8 0, .int .i8 0, .int .i8 0, .int .i8 0, .int .i8 0, .int .i8 0, .int .i8 0, .int .i8 0, .int .i8 0, .int .i8 0, .int .i8 0, .int .i8 0, .int .i8 0, .int .i8 0, .int .i8 0, .int .i8 0, .int .i8 0, .int .i8 0, .int .i8 0, .int .i8 0, .int .i8 0, .int .i8 0, .slice none 0 0] 28)).there w.heap.size 0 (fc F sl).toArray.size := by
  have t1 : (w.alloc (.cells #[.int .i8 0, .int .i8 0, .int .i8 0, .int .i8 0, .int .i8 0, .int .i8 0, .int .i8 0, .int .i8 0, .int .i8 0, .int .i8 0, .int .i8 0, .int .i8 0, .int .i8 0, .int .i8 0, .int .i8 0, .int .i8 0, .int .i8 0, .int .i8 0, .int .i8 0, .int .i8 0, .int .i8 0, .int .i8 0, .int .i8 0, .int .i8 0, .int .i8 0, .int .i8 0, .int .i8 0, .int .i8 0, .slice none 0 0] 28)).there w.heap.size 0 29 := there_newg rfl rfl
  refine ⟨_, rfl, ?_, ?_, ?_, ?_, ?_⟩
  · exact World.rangeAt_setCells_same _ _ _ _ (by rw [fc_length hW]; exact t1)
  · exact below_setCells _ _ _ _ ((Below.refl _ _).alloc (Nat.le_refl _) _) (Nat.le_refl _)
  · rw [size_setCells]; simp
  · exact World.there_setCells t1 _ _ _
  · simp only [List.size_toArray]; rw [fc_length hW]; exact t1
end Go.Proofs.YtngondeaeipcfaaGreatDoor

namespace Go.Proofs.YtngondeaeipcfaaGreatDoor
open Go.RowKit

set_option maxHeartbeats 1000000 in
theorem index_any (x : Int) (w : World) (h : cap x = true) :
    Calls Tryz.prog 213 #[.int .u8 x] w fun e w' => e = .returned (.int .i64 (x - 65)) ∧ w = w' := by
  obtain ⟨h1, h2⟩ := cap_true.1 h
  clear h
  go_enter Tryz.func213, Tryz.ntmps213
  go_wp2
  go_ret
  exact ⟨rfl, rfl⟩

set_option maxRecDepth 100000 in
set_option maxHeartbeats 4000000 in
theorem letterWide_any (F : Fc) (hF : F.ok) (sl : Value) (x : Int) (w : World) (h : cap x = true) :
    Calls Tryz.prog 118 #[.agg (fc F sl).toArray, .int .u8 x] w fun e w' => e = .returned (.int .i64 (F.W.getD (x - 65).toNat 0)) ∧ Below w.heap.size w w' := by
  have hW := hide hF.len
  obtain ⟨q1, q2⟩ := capIdx h
  obtain ⟨h1, h2⟩ := cap_true.1 h
  have hr := rangeAt_new w (fc F sl) 28
  have hb0 : Below w.heap.size w (w.alloc (.cells (fc F sl).toArray 28)) := (Below.refl _ _).alloc (Nat.le_refl _) _
  have hc := rangeAt_cell hr (fc_W hW.out _ q1)
  have H := hide (fun w => index_any x w h)
  obtain ⟨wk1, wk2⟩ := hF.at_ (x - 65).toNat
  have e3 : (0 : Int) ≤ x - 65 := by omega
  have e4 : x - 65 < 26 := by omega
  rw [← List.getD_eq_getElem?_getD] at wk1 wk2
  generalize F.W.getD (x - 65).toNat 0 = V at *
  clear h q1 q2 hr
  go_enter Tryz.func118, Tryz.ntmps118
  go_wp2_with (go_at_call 213; refine (H.out _).mono ?_; rintro e w' ⟨rfl, rfl⟩)
  go_ret
  exact ⟨rfl, hb0⟩

set_option maxRecDepth 100000 in
set_option maxHeartbeats 4000000 in
theorem gapOf_any (F : Fc) (hF : F.ok) (A : Option Addr) (c : Nat) (x y : Int) (w : World) (hv : vface F = true) (hA : PairsAt w w.heap.size A F.ps) :
    Calls Tryz.prog 145 #[.agg (fc F (.slice A F.ps.length c)).toArray, .int .u8 x, .int .u8 y] w fun e w' => e = .returned (.int .i64 (F.gp + byL F.ps x y)) ∧ Below w.heap.size w w' := by
  have hW := hide hF.len
  have hr := rangeAt_new w (fc F (.slice A F.ps.length c)) 28
  have hb0 : Below w.heap.size w (w.alloc (.cells (fc F (.slice A F.ps.length c)).toArray 28)) := (Below.refl _ _).alloc (Nat.le_refl _) _
  have hs0 : w.heap.size < (w.alloc (.cells (fc F (.slice A F.ps.length c)).toArray 28)).heap.size := by simp
  have HII := hide (show ∀ sl, (Tryz.prog.info? 28).map (·.size) = some (fc F sl).length from fun sl => by rw [fc_length hW.out]; kernel_rfl)
  have x27 := rangeAt_cell hr (fc_gp hW.out _)
  have BA := hA.below hb0
  have h12 := (vface_true.1 hv).1
  obtain ⟨gp1, gp2⟩ := shape_gap (vface_true.1 hv).2.gp
  obtain ⟨y1, y2, y3, y4⟩ := byL_bd hv x y
  have e1 := IntWalk.i64_in (F.gp + byL F.ps x y) ⟨by omega, by omega⟩
  have hss := sorted_vface hv
  have HSS := hide hss
  clear hA hss hv
  go_enter Tryz.func145, Tryz.ntmps145
  go_wp2
  generalize (w.alloc (.cells (fc F (.slice A F.ps.length c)).toArray 28)) = W0 at *
  have z27 := Over.get x27
  have hrow := over_row hr hs0
  have HROW := hide hrow
  have hBs := hb0.size
  have HBY := hide (fun (s : Over W0) => byOf_any F hF A c x y s.w (by omega) HSS.out ((BA.below (s.h.mono hBs)).mono (Nat.le_trans hBs s.size)))
  clear x27 hr hrow
  refine wp_region_over (by kernel_rfl) (by kernel_rfl) ?_
  repeat (first | (refine wpQuiet_load_row rfl 28 (.tmp 3) rfl _ 0 rfl _ _ HROW.out Tryz.underlying28 rfl (HII.out _) ?_; simp only [Act.put, List.setIfInBounds_toArray, List.set_cons_zero, List.set_cons_succ]) | go_big_quiet_step ((go_at_call 115; exact over_call (HBY.out _))))
  refine wpQuiet_nil ?_
  intro w1 hb1
  go_wp2
  go_ret
  exact ⟨rfl, hb0.trans (hb1.mono hBs)⟩
end Go.Proofs.YtngondeaeipcfaaGreatDoor

namespace Go.Proofs.YtngondeaeipcfaaGreatDoor
open Go.RowKit

def kindN (b : Int) : Int := if cap b then 0 else if b = 32 then 1 else 2

set_option maxRecDepth 100000 in
set_option maxHeartbeats 2000000 in
theorem kindOf_any (b : Int) (w : World) :
    Calls Tryz.prog 207 #[.int .u8 b] w fun e w' => e = .returned (.int .i64 (kindN b)) ∧ Below w.heap.size w w' := by
  have i0 : ∀ w, (Instr.index 270 (.agg #[.func (.func 210) #[] #[], .func (.func 259) #[] #[]]) (.int .i64 0)).run Tryz.prog w = .ok (.func (.func 210) #[] #[]) w := fun _ => by kernel_rfl
  have i1 : ∀ w, (Instr.index 270 (.agg #[.func (.func 210) #[] #[], .func (.func 259) #[] #[]]) (.int .i64 1)).run Tryz.prog w = .ok (.func (.func 259) #[] #[]) w := fun _ => by kernel_rfl
  generalize hK : kindN b = K
  have HK := hide hK
  clear hK
  have hb0 : Below w.heap.size w (w.alloc (.cells #[.func (.func 210) #[] #[], .func (.func 259) #[] #[]] 270)) := (Below.refl _ _).alloc (Nat.le_refl _) _
  go_enter Tryz.func207, Tryz.ntmps207
  go_wp2
  generalize (w.alloc (.cells #[.func (.func 210) #[] #[], .func (.func 259) #[] #[]] 270)) = W0 at *
  cases hc : cap b
  · cases h32 : (b == 32)
    · have hk : K = 2 := by rw [← HK.out]; unfold kindN; rw [hc]; simp at h32; simp [h32]
      have HKK := hide hk
      clear hk
      go_loop [8] (fun i => ∃ k : Nat, k ≤ 2 ∧ i = .int .i64 k) (fun i => 2 - (intOf i).toNat)
      case atStart => exact ⟨0, by omega, rfl⟩
      case round =>
        obtain ⟨k, hk, rfl⟩ := hrel
        have : k = 0 ∨ k = 1 ∨ k = 2 := by omega
        rcases this with rfl | rfl | rfl
        · go_wp2_with (first | (go_at_call 210; refine (isCapital_any _ _).mono ?_; rintro e w' ⟨rfl, rfl⟩) | (go_at_call 259; refine (isBlank_any _ _).mono ?_; rintro e w' ⟨rfl, rfl⟩))
          exact ⟨⟨1, by omega, by go_num⟩, by simp [intOf]⟩
        · go_wp2_with (first | (go_at_call 210; refine (isCapital_any _ _).mono ?_; rintro e w' ⟨rfl, rfl⟩) | (go_at_call 259; refine (isBlank_any _ _).mono ?_; rintro e w' ⟨rfl, rfl⟩))
          exact ⟨⟨2, by omega, by go_num⟩, by simp [intOf]⟩
        · go_wp2
          go_ret
          exact ⟨ret_int HKK.out.symm, hb0⟩
    · have hk : K = 1 := by rw [← HK.out]; unfold kindN; rw [hc]; simp at h32; simp [h32]
      have HKK := hide hk
      clear hk
      go_loop [8] (fun i => ∃ k : Nat, k ≤ 1 ∧ i = .int .i64 k) (fun i => 2 - (intOf i).toNat)
      case atStart => exact ⟨0, by omega, rfl⟩
      case round =>
        obtain ⟨k, hk, rfl⟩ := hrel
        have : k = 0 ∨ k = 1 := by omega
        rcases this with rfl | rfl
        · go_wp2_with (first | (go_at_call 210; refine (isCapital_any _ _).mono ?_; rintro e w' ⟨rfl, rfl⟩) | (go_at_call 259; refine (isBlank_any _ _).mono ?_; rintro e w' ⟨rfl, rfl⟩))
          exact ⟨⟨1, by omega, by go_num⟩, by simp [intOf]⟩
        · go_wp2_with (first | (go_at_call 210; refine (isCapital_any _ _).mono ?_; rintro e w' ⟨rfl, rfl⟩) | (go_at_call 259; refine (isBlank_any _ _).mono ?_; rintro e w' ⟨rfl, rfl⟩))
          go_ret
          exact ⟨ret_int HKK.out.symm, hb0⟩
  · have hk : K = 0 := by rw [← HK.out]; unfold kindN; rw [hc]; rfl
    have HKK := hide hk
    clear hk
    go_loop [8] (fun i => ∃ k : Nat, k ≤ 0 ∧ i = .int .i64 k) (fun i => 2 - (intOf i).toNat)
    case atStart => exact ⟨0, by omega, rfl⟩
    case round =>
      obtain ⟨k, hk, rfl⟩ := hrel
      obtain rfl : k = 0 := by omega
      go_wp2_with (first | (go_at_call 210; refine (isCapital_any _ _).mono ?_; rintro e w' ⟨rfl, rfl⟩) | (go_at_call 259; refine (isBlank_any _ _).mono ?_; rintro e w' ⟨rfl, rfl⟩))
      go_ret
      exact ⟨ret_int HKK.out.symm, hb0⟩

theorem kindN_cap {b : Int} (h : cap b = true) : kindN b = 0 := by unfold kindN; rw [h]; rfl
theorem kindN_blank {b : Int} (h : b = 32) : kindN b = 1 := by unfold kindN; rw [cap_32 h]; simp [h]
theorem kindN_other {b : Int} (h : cap b = false) (h' : b ≠ 32) : kindN b = 2 := by unfold kindN; rw [h]; simp [h']
theorem kindN_cases (b : Int) : (kindN b = 0 ∧ cap b = true) ∨ (kindN b = 1 ∧ b = 32) ∨ (kindN b = 2 ∧ cap b = false ∧ b ≠ 32) := by
  cases h : cap b
  · by_cases h' : b = 32
    · exact .inr (.inl ⟨kindN_blank h', h'⟩)
    · exact .inr (.inr ⟨kindN_other h h', rfl, h'⟩)
  · exact .inl ⟨kindN_cap h, rfl⟩

theorem below_trans_drew {w w' : World} {o : Obj} (h : w' = w.drew.alloc o) : Below w.heap.size w w' := by
  subst h; exact (Below.refl _ _).drew.alloc (Nat.le_refl _) o
/-- A text's bytes are laid in a new block. -/
theorem bytes_new (s : ByteArray) (w : World) : ∃ W1 c, (convert 9 22 (.string s)).run Tryz.prog w = .ok (.slice (some ⟨w.heap.size, 0, none⟩) s.size c) W1 ∧ Below w.heap.size w W1 ∧
    ∀ j (h : j < s.size), W1.cell? ⟨w.heap.size, j, none⟩ = some (.int .u8 (s[j].toNat : Int)) := by
  refine ⟨_, _, run_bytes_of_string w _ _ _ s Tryz.underlying9 Tryz.underlying22 Tryz.underlying5, below_trans_drew rfl, fun j h => ?_⟩
  exact (cell_of_row _ _ _ _ _ _ (heap_alloc_new w.drew _)).trans (bytesRow_at s _ j h)

/-- The kind of the byte before place k; the beginning counts as a blank. -/
def prevK (L : List UInt8) (k : Nat) : Int := if k = 0 then 1 else kindN (byteAt L (k - 1))
theorem prevK_zero (L : List UInt8) : prevK L 0 = 1 := rfl
theorem prevK_succ (L : List UInt8) (k : Nat) : prevK L (k + 1) = kindN (byteAt L k) := by simp [prevK]
theorem kindN_one {b : Int} : kindN b = 1 ↔ b = 32 := by
  refine ⟨fun h => ?_, kindN_blank⟩
  rcases kindN_cases b with ⟨h1, _⟩ | ⟨_, h2⟩ | ⟨h1, _⟩
  · omega
  · exact h2
  · omega
theorem prevK_one {L : List UInt8} {k : Nat} : prevK L k = 1 ↔ k = 0 ∨ byteAt L (k - 1) = 32 := by
  unfold prevK
  split
  · simp [*]
  · rw [kindN_one]; simp [*]
theorem prevK_bd (L : List UInt8) (k : Nat) : 0 ≤ prevK L k ∧ prevK L k ≤ 2 := by
  unfold prevK kindN
  (repeat' split) <;> omega
/-- The byte at place i is as it has to be, but for the text's end. -/
def goodP (L : List UInt8) (i : Nat) : Prop := (byteAt L i = 32 ∧ prevK L i ≠ 1) ∨ cap (byteAt L i) = true
theorem all_good {L : List UInt8} (h : ∀ i, i < L.length → goodP L i) (he : L.length = 0 ∨ prevK L L.length ≠ 1) : ∀ i, i < L.length → good L i := by
  intro i hi
  rcases h i hi with ⟨h1, h2⟩ | h1
  · have h3 : ¬ (i = 0 ∨ byteAt L (i - 1) = 32) := fun e => h2 (prevK_one.2 e)
    refine .inl ⟨h1, by omega, ?_, fun e => h3 (.inr e)⟩
    rcases he with he | he
    · omega
    · by_cases e : i + 1 < L.length
      · exact e
      · have : i = L.length - 1 := by omega
        exact (he (prevK_one.2 (.inr (by rw [← this]; exact h1)))).elim
  · exact .inr h1
theorem good_P {L : List UInt8} {i : Nat} (h : good L i) : goodP L i := by
  rcases h with ⟨h1, h2, _, h4⟩ | h
  · exact .inl ⟨h1, fun e => by
      rcases prevK_one.1 e with e | e
      · omega
      · exact h4 e⟩
  · exact .inr h
theorem good_end {L : List UInt8} (h : ∀ i, i < L.length → good L i) (h0 : 0 < L.length) : prevK L L.length ≠ 1 := by
  intro e
  rcases prevK_one.1 e with e | e
  · omega
  · rcases h (L.length - 1) (by omega) with ⟨_, _, h3, _⟩ | h
    · omega
    · rw [cap_32 e] at h; cases h

set_option maxRecDepth 100000 in
set_option maxHeartbeats 4000000 in
theorem implValidText_any (s : ByteArray) (w : World) (hs : s.size ≤ maxLen) :
    Calls Tryz.prog 105 #[.string s] w fun e w' => e = .returned (.bool (vtext s.data.toList)) ∧ Below w.heap.size w w' := by
  unfold maxLen at hs
  generalize hS : vtext s.data.toList = S
  have HS := hide hS
  clear hS
  by_cases hlen : s.size ≤ 60
  · have hd : decide ((60 : Int) < s.size) = false := by simp; omega
    have hd' : decide (60 < s.size) = false := by simp; omega
    obtain ⟨W1, c, hcv, hb1, hcells⟩ := bytes_new s w
    have HC := hide hcells
    have hL : s.data.toList.length = s.size := by simp
    have HL := hide hL
    clear hcells hL
    go_enter Tryz.func105, Tryz.ntmps105
    go_wp2
    clear hcv
    go_loopw [3, 13] (fun p i wr => ∃ k : Nat, k ≤ s.size ∧ i = .int .i64 k ∧ p = .int .i64 (prevK s.data.toList k) ∧ Below W1.heap.size W1 wr ∧ Hid (∀ j, j < k → goodP s.data.toList j))
      (fun _ i _ => s.size - (intOf i).toNat)
    case atStart => exact ⟨0, by omega, rfl, rfl, Below.refl _ _, hide (fun j hj => by omega)⟩
    case round =>
      obtain ⟨k, hk, rfl, rfl, hB, hg⟩ := hrel
      have hBs := hb1.size
      obtain ⟨p0, p2⟩ := prevK_bd s.data.toList k
      by_cases hlt : k < s.size
      · have hi : (k : Int) < s.size := by omega
        have h0 : (0 : Int) ≤ k := by omega
        have hbl : w.heap.size < W1.heap.size := World.block_lt_of_cell? W1 _ (HC.out k hlt)
        have hc : wr.cell? ⟨w.heap.size, k, none⟩ = some (.int .u8 (s[k].toNat : Int)) := by rw [hB.cell (p := ⟨w.heap.size, k, none⟩) hbl]; exact HC.out k hlt
        have hb := byteAt_get s k hlt
        have HBY := hide hb
        have hko := kindOf_any (s[k].toNat : Int)
        clear hb
        rcases kindN_cases (s[k].toNat : Int) with ⟨hk0, hcap⟩ | ⟨hk1, hbl1⟩ | ⟨hk2, hcap, hbl2⟩
        · rw [hk0] at hko
          have HKO := hide hko
          have HK0 := hide hk0
          clear hko hk0
          go_wp2_with (go_at_call 207; refine (HKO.out _).mono ?_; rintro e w2 ⟨rfl, hb2⟩)
          exact ⟨⟨k + 1, by omega, by go_num, by rw [prevK_succ, ← HBY.out, HK0.out], hB.trans (hb2.mono hB.size), hide (fun j hj => by
            by_cases e : j = k
            · subst e; exact .inr (by rw [← HBY.out]; exact hcap)
            · exact hg.out j (by omega))⟩, by simp [intOf]; omega⟩
        · rw [hk1] at hko
          have HKO := hide hko
          have HK1 := hide hk1
          have HB1 := hide hbl1
          clear hko hk1 hbl1
          cases hp : (prevK s.data.toList k == 1)
          · go_wp2_with (go_at_call 207; refine (HKO.out _).mono ?_; rintro e w2 ⟨rfl, hb2⟩)
            exact ⟨⟨k + 1, by omega, by go_num, by rw [prevK_succ, ← HBY.out, HK1.out], hB.trans (hb2.mono hB.size), hide (fun j hj => by
              by_cases e : j = k
              · subst e; exact .inl ⟨by rw [← HBY.out]; exact HB1.out, by simpa using hp⟩
              · exact hg.out j (by omega))⟩, by simp [intOf]; omega⟩
          · go_wp2_with (go_at_call 207; refine (HKO.out _).mono ?_; rintro e w2 ⟨rfl, hb2⟩)
            go_ret
            refine ⟨ret_bool ((vtext_false.2 fun h => ?_).symm.trans HS.out), hb1.trans ((hB.trans (hb2.mono hB.size)).mono hBs)⟩
            rcases good_P (h.2 k (by rw [HL.out]; exact hlt)) with ⟨_, h3⟩ | h3
            · exact h3 (by simpa using hp)
            · rw [cap_32 (by rw [← HBY.out]; exact HB1.out)] at h3; cases h3
        · rw [hk2] at hko
          have HKO := hide hko
          have HB2 := hide hbl2
          clear hko hk2 hbl2
          go_wp2_with (go_at_call 207; refine (HKO.out _).mono ?_; rintro e w2 ⟨rfl, hb2⟩)
          go_ret
          refine ⟨ret_bool ((vtext_false.2 fun h => ?_).symm.trans HS.out), hb1.trans ((hB.trans (hb2.mono hB.size)).mono hBs)⟩
          rcases good_P (h.2 k (by rw [HL.out]; exact hlt)) with ⟨h3, _⟩ | h3
          · exact HB2.out (by rw [HBY.out]; exact h3)
          · rw [← HBY.out, hcap] at h3; cases h3
      · obtain rfl : k = s.size := by omega
        by_cases h0 : s.size = 0
        · have he : s.toList = [] := toList_nil h0
          have H0 := hide h0
          clear h0
          go_wp2
          go_ret
          refine ⟨ret_bool ?_, hb1.trans (hB.mono hBs)⟩
          rw [← HS.out, eq_comm, vtext_true, HL.out, H0.out]
          exact ⟨by omega, fun i hi => by omega⟩
        · have he : s.toList.isEmpty = false := toList_cons h0
          have hpos : 0 < s.size := by omega
          have H0 := hide h0
          clear h0
          cases hp : (prevK s.data.toList s.size != 1)
          · go_wp2
            go_ret
            refine ⟨ret_bool ((vtext_false.2 fun h => ?_).symm.trans HS.out), hb1.trans (hB.mono hBs)⟩
            have := good_end h.2 (by rw [HL.out]; exact hpos)
            rw [HL.out] at this
            exact this (by simpa using hp)
          · go_wp2
            go_ret
            refine ⟨ret_bool ?_, hb1.trans (hB.mono hBs)⟩
            rw [← HS.out, eq_comm, vtext_true, HL.out]
            have := all_good (L := s.data.toList) (by rw [HL.out]; exact hg.out) (.inr (by rw [HL.out]; simpa using hp))
            rw [HL.out] at this
            exact ⟨hlen, this⟩
  · have hd : decide ((60 : Int) < s.size) = true := by simp; omega
    have hd' : decide (60 < s.size) = true := by simp; omega
    have HL := hide hlen
    clear hlen
    go_enter Tryz.func105, Tryz.ntmps105
    go_wp2
    go_ret
    exact ⟨ret_bool ((vtext_false.2 fun h => HL.out (by have := h.1; simpa using this)).symm.trans HS.out), Below.refl _ _⟩
end Go.Proofs.YtngondeaeipcfaaGreatDoor

namespace Go.Proofs.YtngondeaeipcfaaGreatDoor
open Go.RowKit

end Go.Proofs.YtngondeaeipcfaaGreatDoor

namespace Go.Proofs.YtngondeaeipcfaaGreatDoor
open Go.RowKit

/-- The texts xs lie at A, in a block below B. -/
def StrsAt (w : World) (B : Nat) (A : Option Addr) (xs : List ByteArray) : Prop :=
  xs ≠ [] → ∃ b o, A = some ⟨b, o, none⟩ ∧ b < B ∧ ∀ k x, xs[k]? = some x → w.cell? ⟨b, o + k, none⟩ = some (.string x)
theorem StrsAt.below {w w' : World} {B : Nat} {A : Option Addr} {xs : List ByteArray} (h : StrsAt w B A xs) (hb : Below B w w') : StrsAt w' B A xs :=
  fun hn => by obtain ⟨b, o, e, hlt, hc⟩ := h hn; exact ⟨b, o, e, hlt, fun k x hx => (hb.cell (p := ⟨b, o + k, none⟩) hlt).trans (hc k x hx)⟩
theorem StrsAt.mono {w : World} {B B' : Nat} {A : Option Addr} {xs : List ByteArray} (h : StrsAt w B A xs) (hB : B ≤ B') : StrsAt w B' A xs :=
  fun hn => by obtain ⟨b, o, e, hlt, hc⟩ := h hn; exact ⟨b, o, e, by omega, hc⟩
theorem StrsAt.nil (w : World) (B : Nat) (A : Option Addr) : StrsAt w B A [] := fun h => (h rfl).elim
theorem StrsAt.go {W w' : World} {A : Option Addr} {xs : List ByteArray} (h : StrsAt W W.heap.size A xs) (hb : Below W.heap.size W w') : StrsAt w' w'.heap.size A xs := (h.below hb).mono hb.size
/-- The texts xs lie at A, in a block from L on, and may be written there. -/
def StrsIn (w : World) (L : Nat) (A : Option Addr) (xs : List ByteArray) : Prop :=
  xs ≠ [] → ∃ b o, A = some ⟨b, o, none⟩ ∧ L ≤ b ∧ b < w.heap.size ∧ (∀ k x, xs[k]? = some x → w.cell? ⟨b, o + k, none⟩ = some (.string x)) ∧ w.there b o xs.length
theorem StrsIn.at_ {w : World} {L : Nat} {A : Option Addr} {xs : List ByteArray} (h : StrsIn w L A xs) : StrsAt w w.heap.size A xs :=
  fun hn => by obtain ⟨b, o, e, _, h2, h3, _⟩ := h hn; exact ⟨b, o, e, h2, h3⟩

/-- What a size leaves. -/
def szLoop (l : Int) : List ByteArray → Int
  | [] => l
  | x :: xs => if l - x.size < 0 then -1 else szLoop (l - x.size) xs
def szS (l : Int) (xs : List ByteArray) : Int := if l - xs.length < 0 then -1 else szLoop (l - xs.length) xs
theorem szLoop_ge : ∀ (xs : List ByteArray) (l : Int), 0 ≤ szLoop l xs → sumL (xs.map byts) ≤ l
  | [], l, h => by simpa [szLoop, sumL] using h
  | x :: xs, l, h => by
    unfold szLoop at h
    split at h
    · omega
    · have ih := szLoop_ge xs _ h
      have hx : (byts x).length = x.size := by simp [byts]
      simp only [sumL, List.map_cons, List.sum_cons] at ih ⊢
      omega
theorem szS_ge {xs : List ByteArray} {l : Int} (h : 0 ≤ szS l xs) (hl : 0 ≤ l) : (xs.length : Int) ≤ l ∧ sumL (xs.map byts) ≤ l := by
  unfold szS at h
  split at h
  · omega
  · have := szLoop_ge _ _ h; omega
theorem byts_len (x : ByteArray) : (byts x).length = x.size := by simp [byts]
theorem sum_mem {xs : List ByteArray} {x : ByteArray} (h : x ∈ xs) : x.size ≤ sumL (xs.map byts) := by
  induction xs with
  | nil => cases h
  | cons y r ih =>
    simp only [sumL, List.map_cons, List.sum_cons, List.mem_cons, byts_len] at *
    rcases h with rfl | h
    · omega
    · have := ih h; omega

theorem Tryz.infoString : (Tryz.prog.info? 9).map (fun i => (i.zero, i.size, i.bytes)) = some (some (.string ⟨#[]⟩), 1, 16) := by kernel_rfl

end Go.Proofs.YtngondeaeipcfaaGreatDoor
