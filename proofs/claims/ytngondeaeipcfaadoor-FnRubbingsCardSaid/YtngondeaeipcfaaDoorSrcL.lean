/- Rubbings that are drawn. · Two rubbings that are drawn, and numbers of the laws' own. · Two rubbings out of bytes; numbers of the laws' own. -/
import Derived.Test.YtngondeaeipcfaaDoorSrcN
import Derived.Test.YtngondeaeipcfaaDoorRbM
import Derived.Test.YtngondeaeipcfaaDoorScript2
import Derived.Test.YtngondeaeipcfaaDoorGs

namespace Go.Proofs.YtngondeaeipcfaaDoor
open Go Go.RowKit

/-- A rubbing comes back. -/
def DrawR (B b k : Nat) (w : World) : Ending → World → Prop := fun e w' => ∃ R, e = .returned (.agg (rwc R).toArray) ∧ rok R ∧ Drew B b k w w'
theorem Drew.len {B b k : Nat} {w w' : World} (h : Drew B b k w w') : w.heap.size ≤ w'.heap.size := h.2.size
/-- What lies behind the source's block stays as a draw found it. -/
theorem Drew.row {B b k : Nat} {w w' : World} (h : Drew B b k w w') {g : Nat} {cs : List Value} (hr : w.rangeAt g 0 cs) (hg : g < w.heap.size) (hne : g ≠ b) : w'.rangeAt g 0 cs := grown_row h.2 hr hg (by intro e; injection e with e; exact hne e)
theorem Drew.room {B b k : Nat} {w w' : World} (h : Drew B b k w w') {g n : Nat} (hr : w.there g 0 n) (hg : g < w.heap.size) (hne : g ≠ b) : w'.there g 0 n := grown_there h.2 hr hg (by intro e; injection e with e; exact hne e)
/-- A source behind new memory, and what was drawn so far. -/
theorem grown_alloc {w w' : World} {r : Option Nat} (h : w.grownBy w' r) (o : Obj) : w.grownBy (w'.alloc o) r := grown_trans h (World.grownBy_alloc w' _ _)
theorem SrcAt.alloc {w : World} {B b k : Nat} (h : SrcAt w B b k) (o : Obj) : SrcAt (w.alloc o) B b k := h.below ((Below.refl _ _).alloc (Nat.le_refl _) _) h.lt
theorem grown_far {a b : World} {r : Option Nat} (h : a.grownBy b r) {p : Addr} (hp : a.heap.size ≤ p.block) (v : Value) : a.grownBy (b.setCell p v) r :=
  ⟨h.os, h.tape, h.output, by rw [size_setCell]; exact h.size, fun i hi hr => (Below.heap_setCell _ _ _ _ (by omega)).trans (h.block i hi hr)⟩
theorem grown_fars {a : World} {r : Option Nat} : ∀ (vs : List Value) (g o : Nat) (b : World), a.grownBy b r → a.heap.size ≤ g → a.grownBy (b.setCells g o vs) r
  | [], _, _, _, h, _ => h
  | v :: l, g, o, b, h, hg => by rw [World.setCells]; exact grown_fars l g (o + 1) _ (grown_far (p := ⟨g, o, none⟩) h hg v) hg
theorem SrcAt.far {w : World} {B b k : Nat} (h : SrcAt w B b k) {p : Addr} (hp : b < p.block) (v : Value) : SrcAt (w.setCell p v) B b k :=
  h.below (show Below p.block w (w.setCell p v) from (Below.refl _ _).setCell (Nat.le_refl _) _) hp
theorem SrcAt.fars {w : World} {B b k : Nat} (h : SrcAt w B b k) (vs : List Value) (g o : Nat) (hg : b < g) : SrcAt (w.setCells g o vs) B b k :=
  h.below (below_setCells vs g o w (Below.refl g w) (Nat.le_refl _)) hg

set_option maxRecDepth 100000 in
set_option maxHeartbeats 8000000 in
theorem l07Drawn_any (B b k : Nat) (w : World) (h : SrcAt w B b k) (hk : k < 800000) :
    Calls Tryd.prog 120 #[.pointer (some ⟨b, 0, none⟩)] w (DrawR B b (k + 300) w) := by
  have HP := hide (fun k n w h hk hn => pick_any B b k n w h hk hn)
  have HO := hide (fun k n w h hk hn => one_any B b k n w h hk hn)
  unfold DrawI at HP
  have hbl := h.lt
  obtain ⟨W0, hW0⟩ : ∃ W0, W0 = ((w.alloc (.cells #[.int .u16 0, .int .u16 0, .int .u16 0, .int .u16 0, .int .u16 0, .int .u16 0, .int .u16 0, .int .u16 0] 26)).alloc (.cells #[.int .u16 0, .int .u16 0, .int .u16 0, .int .u16 0, .int .u16 0, .int .u16 0, .int .u16 0, .int .u16 0] 26)) := ⟨_, rfl⟩
  have S0 : SrcAt W0 B b k := by rw [hW0]; exact (h.alloc _).alloc _
  have g0 : w.grownBy W0 (some b) := by rw [hW0]; exact grown_alloc (grown_alloc (grown_refl _ _) _) _
  have s0 : W0.heap.size = w.heap.size + 2 := by rw [hW0]; simp
  have r0 : W0.rangeAt (w.heap.size + 1) 0 (rwc (List.replicate 8 0)) := by rw [hW0]; exact rangeAt_newg (by simp) rfl
  have t0 : W0.there (w.heap.size + 1) 0 8 := by rw [hW0]; exact there_newg (by simp) rfl
  have t1 : W0.there w.heap.size 0 8 := by rw [hW0]; exact World.there_alloc (there_newg rfl rfl) _
  have HW0 := hide hW0
  clear h hW0
  go_enter Tryd.func120, Tryd.ntmps120
  go_wp2_with fail
  rw [← HW0.out]
  refine (HP.out k 9 W0 S0 (by omega) (by omega)).mono ?_
  rintro e w1 ⟨v, rfl, hv, hd1⟩
  obtain ⟨K, rfl⟩ : ∃ K : Nat, v = (K : Int) := ⟨v.toNat, by omega⟩
  have r1 := hd1.row r0 (by omega) (by omega)
  have u0 := hd1.room t0 (by omega) (by omega)
  have u1 := hd1.room t1 (by omega) (by omega)
  have z1 := hd1.len
  have S1 := hide hd1.src
  have G1 := hide (grown_trans g0 hd1.2)
  have hK8 : K ≤ 8 := by omega
  clear hd1 S0 g0 r0 t0 t1
  go_wp2
  go_loopw [4] (fun i wr => ∃ (n : Nat) (R : List Nat), n ≤ 8 ∧ i = .int .i64 n ∧ Hid (rok R) ∧ wr.rangeAt (w.heap.size + 1) 0 (rwc R) ∧ wr.there (w.heap.size + 1) 0 8 ∧ wr.there w.heap.size 0 8 ∧ w.heap.size + 2 ≤ wr.heap.size ∧ Hid (SrcAt wr B b (k + 2 + (8 - n) * 24)) ∧ Hid (w.grownBy wr (some b)))
    (fun i _ => (intOf i).toNat)
  case atStart => exact ⟨K, List.replicate 8 0, hK8, rfl, hide ⟨rfl, fun x hx => by rw [List.eq_of_mem_replicate hx]; decide⟩, r1, u0, u1, by omega, hide (S1.out.more (by omega)), G1⟩
  case round =>
    obtain ⟨n, R, hn, rfl, HR, hr, ht, ht1, hsz, HS, HG⟩ := hrel
    clear r1 u0 u1 S1 G1
    cases n with
    | zero =>
      have HL := hide HR.out.1
      go_wp2_with (first
        | (refine wpList_load_mid rfl 26 (.tmp 3) rfl _ 0 rfl (rwc R) _ hr Tryd.underlying26 rfl (rub_info' HL.out) ?_)
        | (refine wpList_store_mid rfl 26 (.tmp 2) (.tmp 42) rfl w.heap.size 0 (rwc R).toArray rfl rfl (by simp only [List.size_toArray]; rw [rwc_length, HL.out]; exact ht1) (rub_info HL.out) (rwc_one _) ?_))
      refine bodyPost_ret (results_mid rfl _ _ w.heap.size 0 (rwc R) _ rfl (World.rangeAt_setCells_same _ _ _ _ (by rw [rwc_length, HL.out]; exact ht1)) Tryd.underlying26 rfl (rub_info' HL.out)) rfl ⟨R, rfl, HR.out, (HS.out.fars _ _ _ hbl).more (by omega), grown_fars _ _ _ _ HG.out (Nat.le_refl _)⟩
    | succ n =>
      have hi : (0 : Int) < ((n + 1 : Nat) : Int) := by omega
      go_wp2_with fail
      refine (HP.out _ 14 wr HS.out (by omega) (by omega)).mono ?_
      rintro e w1 ⟨v, rfl, hv, hd1⟩
      obtain ⟨X, rfl⟩ : ∃ X : Nat, v = (X : Int) := ⟨v.toNat, by omega⟩
      have hX : X < 16 := by omega
      have hr1 := hd1.row hr (by omega) (by omega)
      have ht2 := hd1.room ht (by omega) (by omega)
      have ht3 := hd1.room ht1 (by omega) (by omega)
      have z1 := hd1.len
      have S1 := hide hd1.src
      have G1 := hide (grown_trans HG.out hd1.2)
      clear hr ht ht1 hd1 HS HG hv
      go_wp2_with fail
      refine (HP.out _ 7 w1 S1.out (by omega) (by omega)).mono ?_
      rintro e w2 ⟨v, rfl, hv, hd1⟩
      obtain ⟨Y, rfl⟩ : ∃ Y : Nat, v = (Y : Int) := ⟨v.toNat, by omega⟩
      have hY : Y < 8 := by omega
      have hr2 := hd1.row hr1 (by omega) (by omega)
      have ht4 := hd1.room ht2 (by omega) (by omega)
      have ht5 := hd1.room ht3 (by omega) (by omega)
      have z2 := hd1.len
      have S2 := hide hd1.src
      have G2 := hide (grown_trans G1.out hd1.2)
      clear hr1 ht2 ht3 hd1 S1 G1 hv
      go_wp2_with fail
      refine (HP.out _ 8 w2 S2.out (by omega) (by omega)).mono ?_
      rintro e w3 ⟨v, rfl, hv, hd1⟩
      obtain ⟨Q, rfl⟩ : ∃ Q : Nat, v = (Q : Int) := ⟨v.toNat, by omega⟩
      have hQ : Q < 8 := by omega
      have hr3 := hd1.row hr2 (by omega) (by omega)
      have ht6 := hd1.room ht4 (by omega) (by omega)
      have ht7 := hd1.room ht5 (by omega) (by omega)
      have z3 := hd1.len
      have S3 := hide hd1.src
      have G3 := hide (grown_trans G2.out hd1.2)
      have hsz3 : w.heap.size + 2 ≤ w3.heap.size := by omega
      clear hr2 ht4 ht5 hd1 S2 G2 hv z1 z2 z3 hsz
      go_wp2
      go_loopw [5, 6, 7] (fun xx yy i wq => ∃ (j X Y : Nat) (R : List Nat), j ≤ 8 ∧ xx = .int .i64 X ∧ X < 16 ∧ yy = .int .i64 Y ∧ Y < 8 ∧ i = .int .i64 ((j : Int) - 1) ∧ Hid (rok R) ∧ wq.rangeAt (w.heap.size + 1) 0 (rwc R) ∧ wq.there (w.heap.size + 1) 0 8 ∧ wq.there w.heap.size 0 8 ∧ w.heap.size + 2 ≤ wq.heap.size ∧ Hid (SrcAt wq B b (k + 2 + (8 - (n + 1)) * 24 + 6 + (8 - j) * 2)) ∧ Hid (w.grownBy wq (some b)))
        (fun _ _ i _ => ((intOf i) + 1).toNat)
      case atStart => exact ⟨Q + 1, X, Y, R, by omega, rfl, hX, rfl, hY, by congr 1; omega, HR, hr3, ht6, ht7, hsz3, hide (S3.out.more (by omega)), G3⟩
      case round =>
        clear hX hY HR hr3 ht6 ht7 hsz3 S3 G3
        obtain ⟨j, X, Y, R, hj, rfl, hX, rfl, hY, rfl, HR, hr, ht, ht1, hsz, HS, HG⟩ := hrel
        cases j with
        | zero =>
          have hi2 : ¬ (0 : Int) ≤ ((0 : Nat) : Int) - 1 := by omega
          have hw9 := IntWalk.i64_in (((n + 1 : Nat) : Int) - 1) ⟨by omega, by omega⟩
          go_wp2
          exact ⟨⟨n, R, by omega, by go_num, HR, hr, ht, ht1, hsz, hide (HS.out.more (by omega)), HG⟩, by simp [intOf]; try omega⟩
        | succ j =>
          have hi2 : (0 : Int) ≤ ((j + 1 : Nat) : Int) - 1 := by omega
          have c0 := rangeAt_cell hr (rwc_get (k := Y) (by rw [HR.out.1]; exact hY))
          have f0 := (ht Y hY).2
          simp only [Nat.zero_add] at f0
          have hmin : min (X : Int).toNat 16 = X := u16_min (by omega)
          have HOR := hide (u16_orbit (rok_at HR.out Y) hX)
          have HL := hide HR.out.1
          have h0x : (0 : Int) ≤ X := by omega
          have h0y : (0 : Int) ≤ Y := by omega
          have hiy : (Y : Int) < 8 := by omega
          have HRO : Hid (rok (R.set Y (R.getD Y 0 ||| 2 ^ X))) := hide ⟨by rw [List.length_set]; exact HR.out.1, fun x hx => by
            rcases List.mem_or_eq_of_mem_set hx with h | h
            · exact HR.out.2 x h
            · rw [h]; exact Nat.or_lt_two_pow (n := 16) (rok_at HR.out Y) (pow_lt16 hX)⟩
          generalize hm : R.getD Y 0 = m at *
          have hr1 : (wr.setCell ⟨w.heap.size + 1, Y, none⟩ (.int .u16 ((m ||| 2 ^ X : Nat) : Int))).rangeAt (w.heap.size + 1) 0 (rwc (R.set Y (m ||| 2 ^ X))) := by
            rw [← rwc_set]; exact rangeAt_set hr Y _ (by rw [rwc_length, HL.out]; exact hY)
          have HR1 := hide hr1
          have HT1 := hide (there_set ht ⟨w.heap.size + 1, Y, none⟩ (.int .u16 ((m ||| 2 ^ X : Nat) : Int)))
          have HT2 := hide (there_set ht1 ⟨w.heap.size + 1, Y, none⟩ (.int .u16 ((m ||| 2 ^ X : Nat) : Int)))
          have HS1 := hide (HS.out.far (p := ⟨w.heap.size + 1, Y, none⟩) (by show b < w.heap.size + 1; omega) (.int .u16 ((m ||| 2 ^ X : Nat) : Int)))
          have HG1 := hide (grown_far (p := ⟨w.heap.size + 1, Y, none⟩) HG.out (by show w.heap.size ≤ w.heap.size + 1; omega) (.int .u16 ((m ||| 2 ^ X : Nat) : Int)))
          clear hr1 hr hm HS HG
          go_wp2_with fail
          rw [HOR.out]
          have hszA : w.heap.size + 2 ≤ (wr.setCell ⟨w.heap.size + 1, Y, none⟩ (.int .u16 ((m ||| 2 ^ X : Nat) : Int))).heap.size := by rw [size_setCell]; exact hsz
          generalize (wr.setCell ⟨w.heap.size + 1, Y, none⟩ (.int .u16 ((m ||| 2 ^ X : Nat) : Int))) = W5 at *
          refine (HO.out _ 2 W5 HS1.out (by omega) (by omega)).mono ?_
          rintro e w6 ⟨v, rfl, hd1⟩
          have hr6 := hd1.row HR1.out (by omega) (by omega)
          have ht6 := hd1.room HT1.out (by omega) (by omega)
          have ht7 := hd1.room HT2.out (by omega) (by omega)
          have z6 := hd1.len
          have S6 := hide hd1.src
          have G6 := hide (grown_trans HG1.out hd1.2)
          have hw9 := IntWalk.i64_in (((j + 1 : Nat) : Int) - 1 - 1) ⟨by omega, by omega⟩
          have hwx := IntWalk.i64_in ((X : Int) + 1) ⟨by omega, by omega⟩
          have hwy := IntWalk.i64_in ((Y : Int) + 1) ⟨by omega, by omega⟩
          have hx1 : (X + 1) % 16 < 16 := Nat.mod_lt _ (by decide)
          have hy1 : (Y + 1) % 8 < 8 := Nat.mod_lt _ (by decide)
          clear hd1 HR1 HT1 HT2 HS1 HG1
          cases v
          · go_wp2
            exact ⟨⟨j, X, (Y + 1) % 8, _, by omega, rfl, hX, by first | rfl | (congr 1), hy1, by first | go_num | (congr 1; omega), HRO, hr6, ht6, ht7, by omega, hide (S6.out.more (by omega)), G6⟩, by simp [intOf]; try omega⟩
          · go_wp2
            exact ⟨⟨j, (X + 1) % 16, Y, _, by omega, by first | rfl | (congr 1), hx1, rfl, hY, by first | go_num | (congr 1; omega), HRO, hr6, ht6, ht7, by omega, hide (S6.out.more (by omega)), G6⟩, by simp [intOf]; try omega⟩
end Go.Proofs.YtngondeaeipcfaaDoor

namespace Go.Proofs.YtngondeaeipcfaaDoor
open Go Go.RowKit

theorem results_two {P : Program} {fn : Func} {p q : Tmp} {ty ty' : TypeId} (h : fn.results = #[.cell p ty, .cell q ty']) (tmps : Array Value) (w : World) (b b' : Nat) (cs cs' : List Value) (d d' : TypeDesc)
    (hp : tmps.getD p undef = .pointer (some ⟨b, 0, none⟩)) (hq : tmps.getD q undef = .pointer (some ⟨b', 0, none⟩)) (hc : w.rangeAt b 0 cs) (hc' : w.rangeAt b' 0 cs')
    (hu : P.underlying ty = some d) (hd : d.isRow = true) (hi : (P.info? ty).map (·.size) = some cs.length)
    (hu' : P.underlying ty' = some d') (hd' : d'.isRow = true) (hi' : (P.info? ty').map (·.size) = some cs'.length) :
    (results fn tmps).run P w = .ok (.tuple #[.agg cs.toArray, .agg cs'.toArray]) w := by
  have hp' : tmps[p]?.getD undef = .pointer (some ⟨b, 0, none⟩) := by simpa using hp
  have hq' : tmps[q]?.getD undef = .pointer (some ⟨b', 0, none⟩) := by simpa using hq
  simp [results, h, hp', hq', asAddr, run_loadVar_mid w b 0 ty cs d hc hu hd hi, run_loadVar_mid w b' 0 ty' cs' d' hc' hu' hd' hi']

theorem stored_rub2 (w : World) (R : List Nat) (hW : R.length = 8) : ∃ W5, W5 = (w.alloc (.cells #[.int .u16 0, .int .u16 0, .int .u16 0, .int .u16 0, .int .u16 0, .int .u16 0, .int .u16 0, .int .u16 0] 26)).setCells w.heap.size 0 (rwc R).toArray.toList ∧ W5.rangeAt w.heap.size 0 (rwc R) ∧
    Below w.heap.size w W5 ∧ w.heap.size < W5.heap.size ∧ (w.alloc (.cells #[.int .u16 0, .int .u16 0, .int .u16 0, .int .u16 0, .int .u16 0, .int .u16 0, .int .u16 0, .int .u16 0] 26)).there w.heap.size 0 (rwc R).toArray.size ∧ W5.there w.heap.size 0 8 := by
  have t1 : (w.alloc (.cells #[.int .u16 0, .int .u16 0, .int .u16 0, .int .u16 0, .int .u16 0, .int .u16 0, .int .u16 0, .int .u16 0] 26)).there w.heap.size 0 8 := there_newg rfl rfl
  obtain ⟨W5, h1, h2, h3, h4, h5⟩ := stored_rub w R hW
  exact ⟨W5, h1, h2, h3, h4, h5, by rw [h1]; exact World.there_setCells t1 _ _ _⟩
/-- Two rubbings come back. -/
def DrawRR (B b k : Nat) (w : World) : Ending → World → Prop := fun e w' => ∃ R S, e = .returned (.tuple #[.agg (rwc R).toArray, .agg (rwc S).toArray]) ∧ rok R ∧ rok S ∧ Drew B b k w w'

set_option maxRecDepth 100000 in
set_option maxHeartbeats 8000000 in
theorem l07Two_any (B b k : Nat) (w : World) (h : SrcAt w B b k) (hk : k < 700000) :
    Calls Tryd.prog 55 #[.pointer (some ⟨b, 0, none⟩)] w (DrawRR B b (k + 700) w) := by
  have HP := hide (fun k n w h hk hn => pick_any B b k n w h hk hn)
  have HO := hide (fun k n w h hk hn => one_any B b k n w h hk hn)
  have HD := hide (fun k w h hk => l07Drawn_any B b k w h hk)
  unfold DrawI at HP
  unfold DrawR at HD
  have hbl := h.lt
  obtain ⟨W0, hW0⟩ : ∃ W0, W0 = ((w.alloc (.cells #[.int .u16 0, .int .u16 0, .int .u16 0, .int .u16 0, .int .u16 0, .int .u16 0, .int .u16 0, .int .u16 0] 26)).alloc (.cells #[.int .u16 0, .int .u16 0, .int .u16 0, .int .u16 0, .int .u16 0, .int .u16 0, .int .u16 0, .int .u16 0] 26)) := ⟨_, rfl⟩
  have S0 : SrcAt W0 B b k := by rw [hW0]; exact (h.alloc _).alloc _
  have g0 : w.grownBy W0 (some b) := by rw [hW0]; exact grown_alloc (grown_alloc (grown_refl _ _) _) _
  have s0 : W0.heap.size = w.heap.size + 2 := by rw [hW0]; simp
  have t0 : W0.there (w.heap.size + 1) 0 8 := by rw [hW0]; exact there_newg (by simp) rfl
  have t1 : W0.there w.heap.size 0 8 := by rw [hW0]; exact World.there_alloc (there_newg rfl rfl) _
  have HW0 := hide hW0
  clear h hW0
  go_enter Tryd.func55, Tryd.ntmps55
  go_wp2_with fail
  rw [← HW0.out]
  refine (HD.out k W0 S0 (by omega)).mono ?_
  rintro e w1 ⟨R, rfl, hR, hd1⟩
  have u0 := hd1.room t0 (by omega) (by omega)
  have u1 := hd1.room t1 (by omega) (by omega)
  have z1 := hd1.len
  obtain ⟨w2, hW2, r2, b2, s2, t20, t20'⟩ := stored_rub2 w1 R hR.1
  have HW2 := hide hW2
  have S2 := hide (hd1.src.below b2 (by omega))
  have G2 := hide (grown_trans g0 (grown_trans hd1.2 (grown_below b2)))
  have u2 := there_below u0 b2 (by omega)
  have u3 := there_below u1 b2 (by omega)
  have HR := hide hR
  clear hW2 hd1 S0 g0 t0 t1 u0 u1 hR
  go_wp2_with (refine wpList_store_mid rfl 26 (.tmp 4) (.tmp 9) rfl w1.heap.size 0 _ rfl rfl t20 (rub_info HR.out.1) (rwc_one _) ?_; rw [← HW2.out])
  refine (HO.out _ 3 w2 S2.out (by omega) (by omega)).mono ?_
  rintro e w3 ⟨v, rfl, hd3⟩
  have r3 := hd3.row r2 (by omega) (by omega)
  have t3 := hd3.room t20' (by omega) (by omega)
  have u4 := hd3.room u2 (by omega) (by omega)
  have u5 := hd3.room u3 (by omega) (by omega)
  have z3 := hd3.len
  have S3 := hide hd3.src
  have G3 := hide (grown_trans G2.out hd3.2)
  obtain ⟨a0, hq⟩ : ∃ a0, a0 = w1.heap.size := ⟨_, rfl⟩
  rw [← hq] at r3 t3 ⊢
  have hqb : b < a0 := by omega
  have hqw : w.heap.size + 2 ≤ a0 := by omega
  have hqz : a0 < w3.heap.size := by omega
  clear hd3 S2 G2 r2 t20 t20' u2 u3 s2 b2 HW2 hq z1 s0 HW0
  cases v
  · -- b is a, moved and changed in one row
    go_wp2_with fail
    refine (HP.out _ 7 w3 S3.out (by omega) (by omega)).mono ?_
    rintro e w4 ⟨v, rfl, hv, hd⟩
    have hdx : -3 ≤ v - 3 ∧ v - 3 ≤ 3 := by omega
    have hw1 := IntWalk.i64_in (v - 3) ⟨by omega, by omega⟩
    have r4 := hd.row r3 (by omega) (by omega)
    have u6 := hd.room u4 (by omega) (by omega)
    have u7 := hd.room u5 (by omega) (by omega)
    have z4 := hd.len
    have S4 := hide hd.src
    have G4 := hide (grown_trans G3.out hd.2)
    clear hd S3 G3 r3 t3 u4 u5 hv
    go_wp2_with fail
    refine (HP.out _ 5 w4 S4.out (by omega) (by omega)).mono ?_
    rintro e w5 ⟨v2, rfl, hv, hd⟩
    have hdy : -2 ≤ v2 - 2 ∧ v2 - 2 ≤ 2 := by omega
    have hw2 := IntWalk.i64_in (v2 - 2) ⟨by omega, by omega⟩
    have r5 := hd.row r4 (by omega) (by omega)
    have u8 := hd.room u6 (by omega) (by omega)
    have u9 := hd.room u7 (by omega) (by omega)
    have z5 := hd.len
    have S5 := hide hd.src
    have G5 := hide (grown_trans G4.out hd.2)
    clear hd S4 G4 r4 u6 u7 hv
    go_wp2_with fail
    refine (l07Move_any R HR.out a0 (v - 3) (v2 - 2) (by omega) (by omega) w5 r5).mono ?_
    rintro e w6 ⟨rfl, hb6⟩
    have z6 := hb6.size
    have r6 := rangeAt_below r5 hb6 (by omega)
    have u10 := there_below u8 hb6 (by omega)
    have u11 := there_below u9 hb6 (by omega)
    have S6 := S5.out.below hb6 (by omega)
    have G6 := grown_trans G5.out (grown_below hb6)
    have HM := hide (show rok (mvR R (v - 3) (v2 - 2)) from rubF_ok _)
    generalize mvR R (v - 3) (v2 - 2) = M at *
    obtain ⟨w7, hW7, r7, b7, s7, t70, t7⟩ := stored_rub2 w6 M HM.out.1
    have HW7 := hide hW7
    have r7a := rangeAt_below r6 b7 (by omega)
    have u12 := there_below u10 b7 (by omega)
    have u13 := there_below u11 b7 (by omega)
    have S7 := hide (S6.below b7 (by omega))
    have G7 := hide (grown_trans G6 (grown_below b7))
    clear hb6 r5 r6 u8 u9 u10 u11 S5 S6 G5 G6 hW7 b7
    go_wp2_with (refine wpList_store_mid rfl 26 (.tmp 7) (.tmp 23) rfl w6.heap.size 0 _ rfl rfl t70 (rub_info HM.out.1) (rwc_one _) ?_; rw [← HW7.out])
    obtain ⟨m0, hq⟩ : ∃ m0, m0 = w6.heap.size := ⟨_, rfl⟩
    rw [← hq] at r7 t7 ⊢
    have hmb : b < m0 := by omega
    have hma : a0 < m0 := by omega
    have hmz : m0 < w7.heap.size := by omega
    clear t70 HW7 hq
    refine (HP.out _ 8 w7 S7.out (by omega) (by omega)).mono ?_
    rintro e w8 ⟨v3, rfl, hv, hd⟩
    obtain ⟨Y, rfl⟩ : ∃ Y : Nat, v3 = (Y : Int) := ⟨v3.toNat, by omega⟩
    have hY : Y < 8 := by omega
    have r8 := hd.row r7 (by omega) (by omega)
    have r8a := hd.row r7a (by omega) (by omega)
    have t8 := hd.room t7 (by omega) (by omega)
    have u14 := hd.room u12 (by omega) (by omega)
    have u15 := hd.room u13 (by omega) (by omega)
    have z8 := hd.len
    have S8 := hide hd.src
    have G8 := hide (grown_trans G7.out hd.2)
    clear hd S7 G7 r7 r7a t7 u12 u13 hv
    go_wp2_with fail
    refine (HP.out _ 65536 w8 S8.out (by omega) (by omega)).mono ?_
    rintro e w9 ⟨v4, rfl, hv, hd⟩
    obtain ⟨V, rfl⟩ : ∃ V : Nat, v4 = (V : Int) := ⟨v4.toNat, by omega⟩
    have hV : V < 65536 := by omega
    have r9 := hd.row r8 (by omega) (by omega)
    have r9a := hd.row r8a (by omega) (by omega)
    have t9 := hd.room t8 (by omega) (by omega)
    have u16 := hd.room u14 (by omega) (by omega)
    have u17 := hd.room u15 (by omega) (by omega)
    have z9 := hd.len
    have S9 := hd.src
    have G9 := grown_trans G8.out hd.2
    have hwv : IntKind.u16.wrap (V : Int) = (V : Int) := by rw [IntKind.wrap_u16]; omega
    have f9 := (t9 Y hY).2
    simp only [Nat.zero_add] at f9
    have c9 := rangeAt_cell r9 (rwc_get (k := Y) (by rw [HM.out.1]; exact hY))
    have h0y : (0 : Int) ≤ Y := by omega
    have hiy : (Y : Int) < 8 := by omega
    have HRO : Hid (rok (M.set Y V)) := hide ⟨by rw [List.length_set]; exact HM.out.1, fun x hx => by
      rcases List.mem_or_eq_of_mem_set hx with h | h
      · exact HM.out.2 x h
      · rw [h]; exact hV⟩
    have rA : (w9.setCell ⟨m0, Y, none⟩ (.int .u16 (V : Int))).rangeAt m0 0 (rwc (M.set Y V)) := by
      rw [← rwc_set]; exact rangeAt_set r9 Y _ (by rw [rwc_length, HM.out.1]; exact hY)
    have rAa : (w9.setCell ⟨m0, Y, none⟩ (.int .u16 (V : Int))).rangeAt a0 0 (rwc R) := rangeAt_below r9a (Below.setCell (p := ⟨m0, Y, none⟩) (Below.refl m0 w9) (Nat.le_refl m0) (.int .u16 (V : Int))) hma
    have uA := there_set u16 ⟨m0, Y, none⟩ (.int .u16 (V : Int))
    have uB := there_set u17 ⟨m0, Y, none⟩ (.int .u16 (V : Int))
    have SA := S9.far (p := ⟨m0, Y, none⟩) hmb (.int .u16 (V : Int))
    have GA := grown_far (p := ⟨m0, Y, none⟩) G9 (by show w.heap.size ≤ m0; omega) (.int .u16 (V : Int))
    have HRA := hide rA
    have HRB := hide rAa
    have HUA := hide uA
    have HUB := hide uB
    have HSA := hide SA
    have HGA := hide GA
    clear hd S8 G8 r8 r8a t8 u14 u15 r9a u16 u17 S9 G9 rA rAa uA uB SA GA r9 t9
    go_wp2
    have hzB : (w9.setCell ⟨m0, Y, none⟩ (.int .u16 (V : Int))).heap.size = w9.heap.size := by rw [size_setCell]
    generalize (w9.setCell ⟨m0, Y, none⟩ (.int .u16 (V : Int))) = WB at *
    generalize M.set Y V = N at *
    have hl0 : w.heap.size ≠ a0 := by omega
    have hl1 : w.heap.size ≠ m0 := by omega
    have hl2 : w.heap.size + 1 ≠ a0 := by omega
    have hl3 : w.heap.size + 1 ≠ m0 := by omega
    refine wp_region_script [(0, true), (1, true), (2, false), (3, false)] (fun w' => w'.rangeAt a0 0 (rwc R) ∧ w'.rangeAt m0 0 (rwc N)) (by kernel_rfl) (by kernel_rfl) (of_decide_eq_true (by kernel_rfl)) (by kernel_rfl) (fun _ _ d _ _ h => by cases d <;> exact h) ⟨HRB.out, HRA.out⟩ ?_
    refine sc_take (.agg (rwc R).toArray) rfl (yieldsIf_load_mid (by rfl) _ (.tmp 4) rfl _ 0 rfl _ _ (fun w h => h.1) Tryd.underlying26 rfl (rub_info' HR.out.1)) ?_
    refine sc_take (.agg (rwc N).toArray) rfl (yieldsIf_load_mid (by rfl) _ (.tmp 7) rfl _ 0 rfl _ _ (fun w h => h.2) Tryd.underlying26 rfl (rub_info' HRO.out.1)) ?_
    simp only [List.getElem_toArray, List.getElem_cons_succ, List.getElem_cons_zero, Act.put, List.setIfInBounds_toArray, List.set_cons_zero, List.set_cons_succ]
    refine sc_step rfl ?_
    refine wpList_store_mid rfl 26 (.tmp 2) (.tmp 30) rfl w.heap.size 0 (rwc R).toArray rfl rfl (by simp only [List.size_toArray]; rw [rwc_length, HR.out.1]; exact HUB.out) (rub_info HR.out.1) (rwc_one _) ?_
    have q1 : (WB.drew.setCells w.heap.size 0 (rwc R).toArray.toList).rangeAt w.heap.size 0 (rwc R) := World.rangeAt_setCells_same _ _ _ _ (by rw [rwc_length, HR.out.1]; exact HUB.out)
    have q2 : (WB.drew.setCells w.heap.size 0 (rwc R).toArray.toList).rangeAt a0 0 (rwc R) := World.rangeAt_setCells_apart (show WB.drew.rangeAt a0 0 (rwc R) from HRB.out) _ _ _ (.inl (by omega))
    have q3 : (WB.drew.setCells w.heap.size 0 (rwc R).toArray.toList).rangeAt m0 0 (rwc N) := World.rangeAt_setCells_apart (show WB.drew.rangeAt m0 0 (rwc N) from HRA.out) _ _ _ (.inl (by omega))
    have q4 : (WB.drew.setCells w.heap.size 0 (rwc R).toArray.toList).there (w.heap.size + 1) 0 8 := World.there_setCells (show WB.drew.there (w.heap.size + 1) 0 8 from HUA.out) _ _ _
    have q5 := SrcAt.fars (show SrcAt WB.drew B b _ from HSA.out) (rwc R).toArray.toList w.heap.size 0 hbl
    have q6 := grown_fars (rwc R).toArray.toList w.heap.size 0 WB.drew (grown_trans HGA.out (grown_below ((Below.refl WB.heap.size WB).drew))) (Nat.le_refl _)
    generalize (WB.drew.setCells w.heap.size 0 (rwc R).toArray.toList) = WC at *
    have Q1 := hide q1
    have Q23 := hide (And.intro q2 q3)
    have Q4 := hide q4
    have Q5 := hide q5
    have Q6 := hide q6
    clear q1 q2 q3 q4 q5 q6
    go_wp2_with fail
    refine ⟨Q23.out, sc_step rfl ?_⟩
    refine wpList_store_mid rfl 26 (.tmp 3) (.tmp 31) rfl (w.heap.size + 1) 0 (rwc N).toArray rfl rfl (by simp only [List.size_toArray]; rw [rwc_length, HRO.out.1]; exact Q4.out) (rub_info HRO.out.1) (rwc_one _) ?_
    have v1 : (WC.setCells (w.heap.size + 1) 0 (rwc N).toArray.toList).rangeAt (w.heap.size + 1) 0 (rwc N) := World.rangeAt_setCells_same _ _ _ _ (by rw [rwc_length, HRO.out.1]; exact Q4.out)
    have v0 : (WC.setCells (w.heap.size + 1) 0 (rwc N).toArray.toList).rangeAt w.heap.size 0 (rwc R) := World.rangeAt_setCells_apart Q1.out _ _ _ (.inl (by omega))
    have v2 : (WC.setCells (w.heap.size + 1) 0 (rwc N).toArray.toList).rangeAt a0 0 (rwc R) := World.rangeAt_setCells_apart Q23.out.1 _ _ _ (.inl (by omega))
    have v3 : (WC.setCells (w.heap.size + 1) 0 (rwc N).toArray.toList).rangeAt m0 0 (rwc N) := World.rangeAt_setCells_apart Q23.out.2 _ _ _ (.inl (by omega))
    have v5 := SrcAt.fars Q5.out (rwc N).toArray.toList (w.heap.size + 1) 0 (by omega)
    have v6 := grown_fars (rwc N).toArray.toList (w.heap.size + 1) 0 WC Q6.out (by omega)
    generalize (WC.setCells (w.heap.size + 1) 0 (rwc N).toArray.toList) = WD at *
    have V0 := hide v0
    have V1 := hide v1
    have V23 := hide (And.intro v2 v3)
    have V5 := hide v5
    have V6 := hide v6
    clear v0 v1 v2 v3 v5 v6
    go_wp2_with fail
    refine ⟨V23.out, sc_nil ?_⟩
    go_wp2
    exact bodyPost_ret (results_two rfl _ _ w.heap.size (w.heap.size + 1) (rwc R) (rwc N) _ _ rfl rfl V0.out V1.out Tryd.underlying26 rfl (rub_info' HR.out.1) Tryd.underlying26 rfl (rub_info' HRO.out.1)) rfl ⟨R, N, rfl, HR.out, HRO.out, V5.out.more (by omega), V6.out⟩
  · go_wp2_with fail
    refine wp_region_script [(0, true), (1, true), (2, false), (3, false), (4, false)] (fun w' => w'.rangeAt a0 0 (rwc R)) (by kernel_rfl) (by kernel_rfl) (of_decide_eq_true (by kernel_rfl)) (by kernel_rfl) (fun _ _ d _ _ h => by cases d <;> exact h) (show w3.drew.rangeAt a0 0 (rwc R) from r3) ?_
    refine sc_take (.agg (rwc R).toArray) rfl (yieldsIf_load_mid (by rfl) _ (.tmp 4) rfl _ 0 rfl _ _ (fun w h => h) Tryd.underlying26 rfl (rub_info' HR.out.1)) ?_
    refine sc_take (.pointer (some ⟨b, 0, none⟩)) rfl (.inl ⟨rfl, fun w _ => by kernel_rfl⟩) ?_
    simp only [List.getElem_toArray, List.getElem_cons_succ, List.getElem_cons_zero, Act.put, List.setIfInBounds_toArray, List.set_cons_zero, List.set_cons_succ]
    refine sc_step rfl ?_
    go_wp2_with fail
    refine (HD.out _ w3.drew (S3.out.below ((Below.refl w3.heap.size w3).drew) (by omega)) (by omega)).mono ?_
    rintro e w4 ⟨N, rfl, hN, hd⟩
    have q1 := hd.row (show w3.drew.rangeAt a0 0 (rwc R) from r3) hqz (by omega)
    have q2 := hd.room (show w3.drew.there (w.heap.size + 1) 0 8 from u4) (show w.heap.size + 1 < w3.heap.size by omega) (by omega)
    have q3 := hd.room (show w3.drew.there w.heap.size 0 8 from u5) (show w.heap.size < w3.heap.size by omega) (by omega)
    have q5 := hd.src
    have q6 := grown_trans (grown_trans G3.out (grown_below ((Below.refl w3.heap.size w3).drew))) hd.2
    have Q1 := hide q1
    have Q2 := hide q2
    have Q3 := hide q3
    have Q5 := hide q5
    have Q6 := hide q6
    have HN := hide hN
    clear q1 q2 q3 q5 q6 hd r3 t3 u4 u5 S3 G3 hN
    go_wp2_with fail
    refine ⟨Q1.out, sc_step rfl ?_⟩
    refine wpList_store_mid rfl 26 (.tmp 2) (.tmp 12) rfl w.heap.size 0 (rwc R).toArray rfl rfl (by simp only [List.size_toArray]; rw [rwc_length, HR.out.1]; exact Q3.out) (rub_info HR.out.1) (rwc_one _) ?_
    have v0 : (w4.setCells w.heap.size 0 (rwc R).toArray.toList).rangeAt w.heap.size 0 (rwc R) := World.rangeAt_setCells_same _ _ _ _ (by rw [rwc_length, HR.out.1]; exact Q3.out)
    have v2 : (w4.setCells w.heap.size 0 (rwc R).toArray.toList).rangeAt a0 0 (rwc R) := World.rangeAt_setCells_apart Q1.out _ _ _ (.inl (by omega))
    have v4 : (w4.setCells w.heap.size 0 (rwc R).toArray.toList).there (w.heap.size + 1) 0 8 := World.there_setCells Q2.out _ _ _
    have v5 := SrcAt.fars Q5.out (rwc R).toArray.toList w.heap.size 0 hbl
    have v6 := grown_fars (rwc R).toArray.toList w.heap.size 0 w4 Q6.out (Nat.le_refl _)
    generalize (w4.setCells w.heap.size 0 (rwc R).toArray.toList) = WC at *
    have V0 := hide v0
    have V2 := hide v2
    have V4 := hide v4
    have V5 := hide v5
    have V6 := hide v6
    clear v0 v2 v4 v5 v6 Q1 Q2 Q3 Q5 Q6
    go_wp2_with fail
    refine ⟨V2.out, sc_step rfl ?_⟩
    refine wpList_store_mid rfl 26 (.tmp 3) (.tmp 14) rfl (w.heap.size + 1) 0 (rwc N).toArray rfl rfl (by simp only [List.size_toArray]; rw [rwc_length, HN.out.1]; exact V4.out) (rub_info HN.out.1) (rwc_one _) ?_
    have x1 : (WC.setCells (w.heap.size + 1) 0 (rwc N).toArray.toList).rangeAt (w.heap.size + 1) 0 (rwc N) := World.rangeAt_setCells_same _ _ _ _ (by rw [rwc_length, HN.out.1]; exact V4.out)
    have x0 : (WC.setCells (w.heap.size + 1) 0 (rwc N).toArray.toList).rangeAt w.heap.size 0 (rwc R) := World.rangeAt_setCells_apart V0.out _ _ _ (.inl (by omega))
    have x2 : (WC.setCells (w.heap.size + 1) 0 (rwc N).toArray.toList).rangeAt a0 0 (rwc R) := World.rangeAt_setCells_apart V2.out _ _ _ (.inl (by omega))
    have x5 := SrcAt.fars V5.out (rwc N).toArray.toList (w.heap.size + 1) 0 (by omega)
    have x6 := grown_fars (rwc N).toArray.toList (w.heap.size + 1) 0 WC V6.out (by omega)
    generalize (WC.setCells (w.heap.size + 1) 0 (rwc N).toArray.toList) = WD at *
    have X0 := hide x0
    have X1 := hide x1
    have X2 := hide x2
    have X5 := hide x5
    have X6 := hide x6
    clear x0 x1 x2 x5 x6
    go_wp2_with fail
    refine ⟨X2.out, sc_nil ?_⟩
    go_wp2
    exact bodyPost_ret (results_two rfl _ _ w.heap.size (w.heap.size + 1) (rwc R) (rwc N) _ _ rfl rfl X0.out X1.out Tryd.underlying26 rfl (rub_info' HR.out.1) Tryd.underlying26 rfl (rub_info' HN.out.1)) rfl ⟨R, N, rfl, HR.out, HN.out, X5.out.more (by omega), X6.out⟩

end Go.Proofs.YtngondeaeipcfaaDoor

namespace Go.Proofs.YtngondeaeipcfaaDoor
open Go Go.RowKit

/-- Two rubbings out of bytes. -/
def TwoRub (w : World) : Ending → World → Prop := fun e w' => ∃ R S, e = .returned (.tuple #[.agg (rwc R).toArray, .agg (rwc S).toArray]) ∧ rok R ∧ rok S ∧ Below w.heap.size w w'
/-- Two rubbings in two variables. -/
theorem stored_two (w : World) (R S : List Nat) (hR : R.length = 8) (hS : S.length = 8) : ∃ W1 W2, W1 = ((w.alloc (.cells #[.int .u16 0, .int .u16 0, .int .u16 0, .int .u16 0, .int .u16 0, .int .u16 0, .int .u16 0, .int .u16 0] 26)).alloc (.cells #[.int .u16 0, .int .u16 0, .int .u16 0, .int .u16 0, .int .u16 0, .int .u16 0, .int .u16 0, .int .u16 0] 26)).setCells w.heap.size 0 (rwc R).toArray.toList ∧ W2 = W1.setCells (w.heap.size + 1) 0 (rwc S).toArray.toList ∧
    ((w.alloc (.cells #[.int .u16 0, .int .u16 0, .int .u16 0, .int .u16 0, .int .u16 0, .int .u16 0, .int .u16 0, .int .u16 0] 26)).alloc (.cells #[.int .u16 0, .int .u16 0, .int .u16 0, .int .u16 0, .int .u16 0, .int .u16 0, .int .u16 0, .int .u16 0] 26)).there w.heap.size 0 (rwc R).toArray.size ∧ W1.there (w.heap.size + 1) 0 (rwc S).toArray.size ∧ W2.rangeAt w.heap.size 0 (rwc R) ∧ W2.rangeAt (w.heap.size + 1) 0 (rwc S) ∧ Below w.heap.size w W2 ∧ W2.heap.size = w.heap.size + 2 := by
  have t0 : ((w.alloc (.cells #[.int .u16 0, .int .u16 0, .int .u16 0, .int .u16 0, .int .u16 0, .int .u16 0, .int .u16 0, .int .u16 0] 26)).alloc (.cells #[.int .u16 0, .int .u16 0, .int .u16 0, .int .u16 0, .int .u16 0, .int .u16 0, .int .u16 0, .int .u16 0] 26)).there w.heap.size 0 8 := World.there_alloc (there_newg rfl rfl) _
  have t1 : ((w.alloc (.cells #[.int .u16 0, .int .u16 0, .int .u16 0, .int .u16 0, .int .u16 0, .int .u16 0, .int .u16 0, .int .u16 0] 26)).alloc (.cells #[.int .u16 0, .int .u16 0, .int .u16 0, .int .u16 0, .int .u16 0, .int .u16 0, .int .u16 0, .int .u16 0] 26)).there (w.heap.size + 1) 0 8 := there_newg (by simp) rfl
  have lR : (rwc R).length = 8 := by rw [rwc_length, hR]
  have lS : (rwc S).length = 8 := by rw [rwc_length, hS]
  have q1 : (((w.alloc (.cells #[.int .u16 0, .int .u16 0, .int .u16 0, .int .u16 0, .int .u16 0, .int .u16 0, .int .u16 0, .int .u16 0] 26)).alloc (.cells #[.int .u16 0, .int .u16 0, .int .u16 0, .int .u16 0, .int .u16 0, .int .u16 0, .int .u16 0, .int .u16 0] 26)).setCells w.heap.size 0 (rwc R).toArray.toList).rangeAt w.heap.size 0 (rwc R) := World.rangeAt_setCells_same _ _ _ _ (by rw [lR]; exact t0)
  have q2 : (((w.alloc (.cells #[.int .u16 0, .int .u16 0, .int .u16 0, .int .u16 0, .int .u16 0, .int .u16 0, .int .u16 0, .int .u16 0] 26)).alloc (.cells #[.int .u16 0, .int .u16 0, .int .u16 0, .int .u16 0, .int .u16 0, .int .u16 0, .int .u16 0, .int .u16 0] 26)).setCells w.heap.size 0 (rwc R).toArray.toList).there (w.heap.size + 1) 0 8 := World.there_setCells t1 _ _ _
  refine ⟨_, _, rfl, rfl, by simp only [List.size_toArray]; rw [lR]; exact t0, by simp only [List.size_toArray]; rw [lS]; exact q2, World.rangeAt_setCells_apart q1 _ _ _ (.inl (by omega)), World.rangeAt_setCells_same _ _ _ _ (by rw [lS]; exact q2), ?_, ?_⟩
  · exact below_setCells _ _ _ _ (below_setCells _ _ _ _ (((Below.refl _ _).alloc (Nat.le_refl _) _).alloc (by simp) _) (Nat.le_refl _)) (by omega)
  · rw [size_setCells, size_setCells]; simp

set_option maxRecDepth 100000 in
set_option maxHeartbeats 8000000 in
theorem a2Like_any (A : Option Addr) (xs : List Int) (c : Nat) (w : World) (hn : xs.length ≤ 3000) (hx : u8s xs) (hA : U8At w w.heap.size A xs) :
    Calls Tryd.prog 11 #[.slice A xs.length c] w (TwoRub w) := by
  obtain ⟨W0, hW0⟩ : ∃ W0, W0 = ((w.alloc (.cells #[.int .u16 0, .int .u16 0, .int .u16 0, .int .u16 0, .int .u16 0, .int .u16 0, .int .u16 0, .int .u16 0] 26)).alloc (.cells #[.int .u16 0, .int .u16 0, .int .u16 0, .int .u16 0, .int .u16 0, .int .u16 0, .int .u16 0, .int .u16 0] 26)) := ⟨_, rfl⟩
  have b0 : Below w.heap.size w W0 := by rw [hW0]; exact ((Below.refl _ _).alloc (Nat.le_refl _) _).alloc (by simp) _
  have s0 : W0.heap.size = w.heap.size + 2 := by rw [hW0]; simp
  have t0 : W0.there (w.heap.size + 1) 0 8 := by rw [hW0]; exact there_newg (by simp) rfl
  have t1 : W0.there w.heap.size 0 8 := by rw [hW0]; exact World.there_alloc (there_newg rfl rfl) _
  have HFR := hide (from_any A xs c W0 hn hx ((CellsAt.below hA b0).mono b0.size))
  have HD := hide (fun B b k w h hk => l07Two_any B b k w h hk)
  unfold DrawRR at HD
  have HW0 := hide hW0
  clear hW0 hA
  go_enter Tryd.func11, Tryd.ntmps11
  go_wp2_with fail
  rw [← HW0.out]
  refine HFR.out.mono ?_
  rintro e w1 ⟨rfl, hS, hb1, hz1⟩
  rw [s0] at hS hb1 hz1
  have t2 := there_below t0 hb1 (by omega)
  have t3 := there_below t1 hb1 (by omega)
  go_wp2_with fail
  refine (HD.out (w.heap.size + 2) (w.heap.size + 2) 0 w1 hS (by omega)).mono ?_
  rintro e w2 ⟨R, S, rfl, hR, hS2, hd⟩
  have t4 := hd.room t2 (by omega) (by omega)
  have t5 := hd.room t3 (by omega) (by omega)
  have hB2 : Below w.heap.size w w2 := b0.trans ((hb1.mono (by omega)).trans (grown_toBelow hd.2 (by omega) (fun k hk => by injection hk with hk; omega)))
  have z2 := hd.len
  obtain ⟨W1, W2, h1, h2, h3, h4, h5, h6, h7, h8⟩ := stored_two w2 R S hR.1 hS2.1
  have H1 := hide h1
  have H2 := hide h2
  have t6 := there_below t4 h7 (by omega)
  have t7 := there_below t5 h7 (by omega)
  have hB3 := hB2.trans (h7.mono hB2.size)
  have HR := hide hR
  have HS := hide hS2
  clear h1 h2 hb1 hS hd hB2 t0 t1 t2 t3 t4 t5 HFR HD HW0 hR hS2
  go_wp2_with (first
    | (refine wpList_store_mid rfl 26 (.tmp 5) (.tmp 12) rfl w2.heap.size 0 _ rfl rfl h3 (rub_info HR.out.1) (rwc_one _) ?_; rw [← H1.out])
    | (refine wpList_store_mid rfl 26 (.tmp 6) (.tmp 13) rfl (w2.heap.size + 1) 0 _ rfl rfl h4 (rub_info HS.out.1) (rwc_one _) ?_; rw [← H2.out]))
  simp only [List.getElem_toArray, List.getElem_cons_succ, List.getElem_cons_zero, Act.put, List.setIfInBounds_toArray, List.set_cons_zero, List.set_cons_succ]
  obtain ⟨a0, hq⟩ : ∃ a0, a0 = w2.heap.size := ⟨_, rfl⟩
  rw [← hq] at h5 h6 ⊢
  have hqw : w.heap.size + 2 ≤ a0 := by omega
  clear hq H1 H2 h3 h4
  refine wp_region_script [(0, true), (1, true), (2, false), (3, false)] (fun w' => w'.rangeAt a0 0 (rwc R) ∧ w'.rangeAt (a0 + 1) 0 (rwc S)) (by kernel_rfl) (by kernel_rfl) (of_decide_eq_true (by kernel_rfl)) (by kernel_rfl) (fun _ _ d _ _ h => by cases d <;> exact h) (show W2.drew.rangeAt a0 0 (rwc R) ∧ W2.drew.rangeAt (a0 + 1) 0 (rwc S) from ⟨h5, h6⟩) ?_
  refine sc_take (.agg (rwc R).toArray) rfl (yieldsIf_load_mid (by rfl) _ (.tmp 5) rfl _ 0 rfl _ _ (fun w h => h.1) Tryd.underlying26 rfl (rub_info' HR.out.1)) ?_
  refine sc_take (.agg (rwc S).toArray) rfl (yieldsIf_load_mid (by rfl) _ (.tmp 6) rfl _ 0 rfl _ _ (fun w h => h.2) Tryd.underlying26 rfl (rub_info' HS.out.1)) ?_
  simp only [List.getElem_toArray, List.getElem_cons_succ, List.getElem_cons_zero, Act.put, List.setIfInBounds_toArray, List.set_cons_zero, List.set_cons_succ]
  refine sc_step rfl ?_
  refine wpList_store_mid rfl 26 (.tmp 2) (.tmp 14) rfl w.heap.size 0 (rwc R).toArray rfl rfl (by simp only [List.size_toArray]; rw [rwc_length, HR.out.1]; exact t7) (rub_info HR.out.1) (rwc_one _) ?_
  have v0 : (W2.drew.setCells w.heap.size 0 (rwc R).toArray.toList).rangeAt w.heap.size 0 (rwc R) := World.rangeAt_setCells_same _ _ _ _ (by rw [rwc_length, HR.out.1]; exact t7)
  have v1 : (W2.drew.setCells w.heap.size 0 (rwc R).toArray.toList).rangeAt a0 0 (rwc R) := World.rangeAt_setCells_apart (show W2.drew.rangeAt a0 0 (rwc R) from h5) _ _ _ (.inl (by omega))
  have v2 : (W2.drew.setCells w.heap.size 0 (rwc R).toArray.toList).rangeAt (a0 + 1) 0 (rwc S) := World.rangeAt_setCells_apart (show W2.drew.rangeAt (a0 + 1) 0 (rwc S) from h6) _ _ _ (.inl (by omega))
  have v3 : (W2.drew.setCells w.heap.size 0 (rwc R).toArray.toList).there (w.heap.size + 1) 0 8 := World.there_setCells (show W2.drew.there (w.heap.size + 1) 0 8 from t6) _ _ _
  have v4 : Below w.heap.size w (W2.drew.setCells w.heap.size 0 (rwc R).toArray.toList) := below_setCells _ _ _ _ hB3.drew (Nat.le_refl _)
  generalize (W2.drew.setCells w.heap.size 0 (rwc R).toArray.toList) = WC at *
  have V0 := hide v0
  have V12 := hide (And.intro v1 v2)
  have V3 := hide v3
  have V4 := hide v4
  clear v0 v1 v2 v3 v4 h5 h6 t6 t7 hB3
  go_wp2_with fail
  refine ⟨V12.out, sc_step rfl ?_⟩
  refine wpList_store_mid rfl 26 (.tmp 3) (.tmp 15) rfl (w.heap.size + 1) 0 (rwc S).toArray rfl rfl (by simp only [List.size_toArray]; rw [rwc_length, HS.out.1]; exact V3.out) (rub_info HS.out.1) (rwc_one _) ?_
  have x1 : (WC.setCells (w.heap.size + 1) 0 (rwc S).toArray.toList).rangeAt (w.heap.size + 1) 0 (rwc S) := World.rangeAt_setCells_same _ _ _ _ (by rw [rwc_length, HS.out.1]; exact V3.out)
  have x0 : (WC.setCells (w.heap.size + 1) 0 (rwc S).toArray.toList).rangeAt w.heap.size 0 (rwc R) := World.rangeAt_setCells_apart V0.out _ _ _ (.inl (by omega))
  have x2 : (WC.setCells (w.heap.size + 1) 0 (rwc S).toArray.toList).rangeAt a0 0 (rwc R) := World.rangeAt_setCells_apart V12.out.1 _ _ _ (.inl (by omega))
  have x3 : (WC.setCells (w.heap.size + 1) 0 (rwc S).toArray.toList).rangeAt (a0 + 1) 0 (rwc S) := World.rangeAt_setCells_apart V12.out.2 _ _ _ (.inl (by omega))
  have x4 : Below w.heap.size w (WC.setCells (w.heap.size + 1) 0 (rwc S).toArray.toList) := below_setCells _ _ _ _ V4.out (by omega)
  generalize (WC.setCells (w.heap.size + 1) 0 (rwc S).toArray.toList) = WD at *
  have X0 := hide x0
  have X1 := hide x1
  have X23 := hide (And.intro x2 x3)
  have X4 := hide x4
  clear x0 x1 x2 x3 x4
  go_wp2_with fail
  refine ⟨X23.out, sc_nil ?_⟩
  go_wp2
  exact bodyPost_ret (results_two rfl _ _ w.heap.size (w.heap.size + 1) (rwc R) (rwc S) _ _ rfl rfl X0.out X1.out Tryd.underlying26 rfl (rub_info' HR.out.1) Tryd.underlying26 rfl (rub_info' HS.out.1)) rfl ⟨R, S, rfl, HR.out, HS.out, X4.out⟩

set_option maxHeartbeats 2000000 in
theorem a2Long_any (A B : Option Addr) (n m c d : Nat) (hn : n ≤ maxLen) (hm : m ≤ maxLen) (w : World) :
    Calls Tryd.prog 10 #[.slice A n c, .slice B m d] w fun e w' => e = .returned (.bool (decide (3000 < n) || decide (3000 < m))) ∧ w = w' := by
  unfold maxLen at hn hm
  by_cases h1 : 3000 < n
  · have h : (3000 : Int) < n := by omega
    have e : (decide (3000 < n) || decide (3000 < m)) = true := by simp [h1]
    rw [e]
    go_enter Tryd.func10, Tryd.ntmps10
    go_wp2
    go_ret
    exact ⟨rfl, rfl⟩
  · have h : ¬ (3000 : Int) < n := by omega
    have e : (decide (3000 < n) || decide (3000 < m)) = decide ((3000 : Int) < m) := by simp [h1]; omega
    rw [e]
    go_enter Tryd.func10, Tryd.ntmps10
    go_wp2
    go_ret
    first | exact ⟨rfl, rfl⟩ | exact rfl
/-- A number out of a byte. -/
def atV (xs : List Int) (k : Nat) (n : Int) : Int := if xs.length ≤ k then 0 else xs.getD k 0 % n
theorem atV_bd {xs : List Int} (hx : u8s xs) (k : Nat) {n : Int} (hn : 0 < n) : 0 ≤ atV xs k n ∧ atV xs k n < n := by
  unfold atV
  split
  · omega
  · exact ⟨Int.emod_nonneg _ (by omega), Int.emod_lt_of_pos _ hn⟩
set_option maxHeartbeats 2000000 in
theorem a2At_any (A : Option Addr) (xs : List Int) (c : Nat) (k : Nat) (n : Int) (hl : xs.length ≤ 3000) (hk : k ≤ 100000) (hn : 0 < n ∧ n ≤ 1000000) (hx : u8s xs) (w : World) (hA : U8At w w.heap.size A xs) :
    Calls Tryd.prog 24 #[.slice A xs.length c, .int .i64 (k : Int), .int .i64 n] w fun e w' => e = .returned (.int .i64 (atV xs k n)) ∧ w = w' := by
  by_cases h1 : xs.length ≤ k
  · have h : (xs.length : Int) ≤ k := by omega
    have e : atV xs k n = 0 := if_pos h1
    rw [e]
    clear hA
    go_enter Tryd.func24, Tryd.ntmps24
    go_wp2
    go_ret
    exact ⟨rfl, rfl⟩
  · have h : ¬ (xs.length : Int) ≤ k := by omega
    obtain ⟨x, hx1⟩ : ∃ x, xs[k]? = some x := ⟨xs[k]'(by omega), List.getElem?_eq_getElem _⟩
    obtain ⟨b, o, rfl, hb, hcs⟩ := hA (by intro e; rw [List.map_eq_nil_iff] at e; rw [e] at h1; simp at h1)
    have cx : w.cell? ⟨b, o + k, none⟩ = some (.int .u8 x) := hcs k _ (by rw [List.getElem?_map, hx1]; rfl)
    have hxb := hx x (List.mem_of_getElem? hx1)
    have e : atV xs k n = x % n := by
      unfold atV
      rw [if_neg h1, List.getD_eq_getElem?_getD, hx1]; rfl
    rw [e]
    have hn1 : ¬ n < 1 := by omega
    have hn0 : n ≠ 0 := by omega
    have hnm : n ≠ -1 := by omega
    have h0 : (0 : Int) ≤ k := by omega
    have hki : (k : Int) < xs.length := by omega
    clear hx1 hcs e
    go_enter Tryd.func24, Tryd.ntmps24
    go_wp2
    go_ret
    first | exact ⟨rfl, rfl⟩ | exact rfl
end Go.Proofs.YtngondeaeipcfaaDoor
