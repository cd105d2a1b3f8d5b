/- The program puts a pair: pairsWith. -/
import Derived.Test.YtkbemhjeflmppaaConcat
import Derived.Test.YtkbemhjeflmppaaPutF
import Derived.Test.YtkbemhjeflmppaaG5
import Derived.Deep.DeepCutAuto
namespace Go.Proofs.Ytkbemhjeflmppaa
open Go Go.RowKit Go.Shelf

/-- A part of pairs that lie somewhere. -/
theorem PairsAt.part {w : World} {B b o : Nat} {ps : List Tri} (h : PairsAt w B (some ⟨b, o, none⟩) ps) (i k : Nat) : PairsAt w B (some ⟨b, o + i * 3, none⟩) ((ps.drop i).take k) := fun hn => by
  have hne : ps ≠ [] := by intro e; subst e; simp at hn
  obtain ⟨b', o', e, hlt, hc⟩ := h hne
  injection e with e
  injection e with e1 e2
  subst e1; subst e2
  refine ⟨b, o + i * 3, rfl, hlt, fun j p hp => ?_⟩
  rw [List.getElem?_take] at hp
  split at hp
  · rw [List.getElem?_drop] at hp
    have := hc (i + j) p hp
    rwa [show o + (i + j) * 3 = o + i * 3 + j * 3 by omega] at this
  · cases hp

set_option maxRecDepth 100000 in
set_option maxHeartbeats 8000000 in
theorem pairsWith_some (b o : Nat) (ps : List Tri) (c : Nat) (x y z : Int) (w : World) (hn : ps.length ≤ 12) (hc : ps.length ≤ c) (hs : sortedP ps) (hA : PairsAt w w.heap.size (some ⟨b, o, none⟩) ps) :
    Calls Try.prog 104 #[.slice (some ⟨b, o, none⟩) ps.length c, .agg #[.int .u8 x, .int .u8 y, .int .i8 z]] w fun e w' =>
      ∃ A' c', e = .returned (.slice A' (putL ps (x, y, z)).length c') ∧ (putL ps (x, y, z)).length ≤ c' ∧ PairsIn w' w.heap.size A' (putL ps (x, y, z)) ∧ Below w.heap.size w w' := by
  have hb0 := (Below.refl w.heap.size w).alloc (Nat.le_refl _) (.cells #[.int .u8 x, .int .u8 y, .int .i8 z] 69)
  have HF := hide (findPair_any (some ⟨b, o, none⟩) ps c x y _ (by unfold maxLen; omega) hs ((hA.below hb0).mono hb0.size))
  have hlb := lb_le ps (x, y, 0)
  have hcut := putL_cut ps (x, y, z)
  have hl : lb ps (x, y, z) = lb ps (x, y, 0) := rfl
  have hh : hit ps (x, y, z) = hit ps (x, y, 0) := rfl
  rw [hl, hh] at hcut
  have HCUT := hide hcut
  clear hcut hl hh
  have r0 := rangeAt_new w [.int .u8 x, .int .u8 y, .int .i8 z] 69
  have s0 : w.heap.size < (w.alloc (.cells #[.int .u8 x, .int .u8 y, .int .i8 z] 69)).heap.size := by simp
  have hhit : hit ps (x, y, 0) = true → lb ps (x, y, 0) + 1 ≤ ps.length := fun h => by
    unfold hit at h
    cases hg : ps[lb ps (x, y, 0)]? with
    | none => rw [hg] at h; cases h
    | some q => have := (List.getElem?_eq_some_iff.1 hg).1; omega
  have HHIT := hide hhit
  clear hhit
  generalize lb ps (x, y, 0) = k at *
  generalize hit ps (x, y, 0) = h at *
  obtain ⟨n, hlen⟩ : ∃ n, n = ps.length := ⟨_, rfl⟩
  rw [← hlen] at hn hc hlb HF HHIT ⊢
  have HL := hide hlen
  clear hlen
  go_enter Try.func104, Try.ntmps104
  go_wp2_with fail
  generalize (w.alloc (.cells #[.int .u8 x, .int .u8 y, .int .i8 z] 69)) = W0 at *
  refine HF.out.mono ?_
  rintro e w1 ⟨rfl, hb1⟩
  have r1 := rangeAt_below r0 hb1 s0
  have i1 : (k : Int) ≤ n := by omega
  have i2 : (k : Int) ≤ c := by omega
  have i3 : (n : Int) ≤ c := by omega
  have i0 : (0 : Int) ≤ k := by omega
  have hP1 : PairsAt w1 w1.heap.size (some ⟨b, o, none⟩) ps := ((hA.below hb0).mono hb0.size).go hb1 (Nat.le_refl _)
  have hB1 := hb0.trans (hb1.mono hb0.size)
  go_wp2
  go_quiet (fail)
  go_upto_if 29 with fail
  go_cut [8] (fun v wx => ∃ b2 o2 nq, v = .slice (some ⟨b2, o2, none⟩) (ps.drop (k + if h = true then 1 else 0)).length (ps.drop (k + if h = true then 1 else 0)).length ∧ PairsAt w1 w1.heap.size (some ⟨b2, o2, none⟩) (ps.drop (k + if h = true then 1 else 0)) ∧ wx = w1.drewN nq)
  case first =>
    have hpd : ∀ j, PairsAt w1 w1.heap.size (some ⟨b, o + j * 3, none⟩) (ps.drop j) := fun j => by
      have := hP1.part j (ps.length - j)
      rwa [List.take_of_length_le (by rw [List.length_drop]; omega)] at this
    have HPD := hide hpd
    clear hpd
    cases h
    · by_cases e : n = k
      · subst e
        go_wp2
        go_meet
        refine ⟨b, o, _, ?_, ?_, rfl⟩
        · simp [List.length_drop, ← HL.out]
        · simp [HL.out]; exact PairsAt.nil _ _ _
      · go_wp2
        go_meet
        refine ⟨b, o + k * 3, _, ?_, ?_, rfl⟩
        · simp [List.length_drop, ← HL.out]
        · simpa using HPD.out k
    · have h1 := HHIT.out rfl
      have e : ¬ n = k := by omega
      have j1 : (1 : Int) ≤ ((n - k : Nat) : Int) := by omega
      have E := hide e
      clear h1
      go_wp2
      · go_meet
        have hd : ps.drop (k + 1) = [] := List.drop_of_length_le (by rw [← HL.out]; omega)
        simp only [if_true, hd]
        exact ⟨b, o + k * 3, _, rfl, PairsAt.nil _ _ _, rfl⟩
      · go_meet
        have hd : (ps.drop (k + 1)).length = n - k - 1 := by rw [List.length_drop, ← HL.out]; omega
        simp only [if_true, hd]
        exact ⟨b, o + k * 3 + 3, _, rfl, by have := HPD.out (k + 1); rwa [show o + (k + 1) * 3 = o + k * 3 + 3 by omega] at this, rfl⟩
  case rest =>
    obtain ⟨b2, o2, nq2, rfl, hP2, rfl⟩ := hcut
    generalize hT : ps.drop (k + if h = true then 1 else 0) = T at *
    have HT := hide hT
    clear hT
    have hTn : T.length ≤ 12 := by rw [← HT.out, List.length_drop, ← HL.out]; omega
    have hP0 : PairsAt w1 w1.heap.size (some ⟨b, o, none⟩) (ps.take k) := by simpa using hP1.part 0 k
    have hk : (ps.take k).length = k := by rw [List.length_take, ← HL.out]; omega
    have y2 : (w1.drewN nq2).cell? ⟨w.heap.size, 2, none⟩ = some (.int .i8 z) := rangeAt_cell (k := 2) r1 rfl
    have y0 : w1.rangeAt w.heap.size 0 [.int .u8 x, .int .u8 y, .int .i8 z] := r1
    by_cases hz : z = 0
    · have HPUT := hide (show putL ps (x, y, z) = catL [(some ⟨b, o, none⟩, k, ps.take k), (some ⟨b2, o2, none⟩, T.length, T)] by
        rw [HCUT.out]; simp [catL, own1, hz])
      have hd : (z == 0) = true := by simp [hz]
      have hd' : decide (z = 0) = true := by simp [hz]
      have hln : (putL ps (x, y, z)).length ≤ 1000 := by rw [HPUT.out]; simp [catL, hk]; omega
      have hbW := (Below.refl (w1.drewN nq2).heap.size (w1.drewN nq2)).alloc (Nat.le_refl _) (.cells #[.slice (some ⟨b, o, none⟩) k k, .slice (some ⟨b2, o2, none⟩) T.length T.length] 63)
      have hbX : Below w1.heap.size w1 _ := (below_drewN (Below.refl w1.heap.size w1) nq2).trans hbW
      have HCC := hide (concatP_any (w1.drewN nq2).heap.size 0 2 [(some ⟨b, o, none⟩, k, ps.take k), (some ⟨b2, o2, none⟩, T.length, T)] ((w1.drewN nq2).alloc (.cells #[.slice (some ⟨b, o, none⟩) k k, .slice (some ⟨b2, o2, none⟩) T.length T.length] 63)) (by simp) (by rw [← HPUT.out]; exact hln) (by simp)
        (fun j q hq => by
          match j with
          | 0 =>
            obtain rfl : (some (⟨b, o, none⟩ : Addr), k, ps.take k) = q := by simpa using hq
            rw [hk]; exact (rangeAt_new (w1.drewN nq2) [.slice (some ⟨b, o, none⟩) k k, .slice (some ⟨b2, o2, none⟩) T.length T.length] 63) 0 _ rfl
          | 1 =>
            obtain rfl : (some (⟨b2, o2, none⟩ : Addr), T.length, T) = q := by simpa using hq
            exact (rangeAt_new (w1.drewN nq2) [.slice (some ⟨b, o, none⟩) k k, .slice (some ⟨b2, o2, none⟩) T.length T.length] 63) 1 _ rfl
          | j + 2 => simp at hq)
        (fun q hq => by
          rcases List.mem_cons.1 hq with rfl | hq
          · exact ⟨(hP0.below hbX).mono hbX.size, fun h => by cases h⟩
          · obtain rfl : q = (some (⟨b2, o2, none⟩ : Addr), T.length, T) := by simpa using hq
            exact ⟨(hP2.below hbX).mono hbX.size, fun h => by cases h⟩))
      rw [← HPUT.out] at HCC
      clear hln
      have hB2 : Below w.heap.size w ((w1.drewN nq2).alloc (.cells #[.slice (some ⟨b, o, none⟩) k k, .slice (some ⟨b2, o2, none⟩) T.length T.length] 63)) := hB1.trans (hbX.mono hB1.size)
      clear hz hP0 hP2 hbW hbX
      go_wp2_with fail
      refine HCC.out.mono ?_
      rintro e w4 ⟨A', c', rfl, hc', hP4, hb4⟩
      go_wp2
      go_ret
      exact ⟨A', c', rfl, hc', PairsIn.mono hP4 hB2.size, hB2.trans (hb4.mono hB2.size)⟩
    · have HPUT := hide (show putL ps (x, y, z) = catL [(some ⟨b, o, none⟩, k, ps.take k), (some ⟨w1.heap.size, 0, none⟩, 1, [(x, y, z)]), (some ⟨b2, o2, none⟩, T.length, T)] by
        rw [HCUT.out]; simp [catL, own1, hz])
      have hd : (z == 0) = false := by simp [hz]
      have hd' : decide (z = 0) = false := by simp [hz]
      have hln : (putL ps (x, y, z)).length ≤ 1000 := by rw [HPUT.out]; simp [catL, hk]; omega
      have q0 : (w1.drewN nq2).cell? ⟨w.heap.size, 0, none⟩ = some (.int .u8 x) := rangeAt_cell (k := 0) r1 rfl
      have q1 : (w1.drewN nq2).cell? ⟨w.heap.size, 1, none⟩ = some (.int .u8 y) := rangeAt_cell (k := 1) r1 rfl
      have hbA : Below w1.heap.size w1 ((w1.drewN nq2).alloc (.cells #[.int .u8 x, .int .u8 y, .int .i8 z] 69)) := (below_drewN (Below.refl w1.heap.size w1) nq2).alloc (Nat.le_refl _) _
      have hbX : Below w1.heap.size w1 (((w1.drewN nq2).alloc (.cells #[.int .u8 x, .int .u8 y, .int .i8 z] 69)).alloc (.cells #[.slice (some ⟨b, o, none⟩) k k, .slice (some ⟨w1.heap.size, 0, none⟩) 1 1, .slice (some ⟨b2, o2, none⟩) T.length T.length] 63)) := hbA.alloc hbA.size _
      have hbY : Below ((w1.drewN nq2).alloc (.cells #[.int .u8 x, .int .u8 y, .int .i8 z] 69)).heap.size ((w1.drewN nq2).alloc (.cells #[.int .u8 x, .int .u8 y, .int .i8 z] 69)) (((w1.drewN nq2).alloc (.cells #[.int .u8 x, .int .u8 y, .int .i8 z] 69)).alloc (.cells #[.slice (some ⟨b, o, none⟩) k k, .slice (some ⟨w1.heap.size, 0, none⟩) 1 1, .slice (some ⟨b2, o2, none⟩) T.length T.length] 63)) := (Below.refl _ _).alloc (Nat.le_refl _) _
      have ra : ((w1.drewN nq2).alloc (.cells #[.int .u8 x, .int .u8 y, .int .i8 z] 69)).rangeAt w1.heap.size 0 [.int .u8 x, .int .u8 y, .int .i8 z] := rangeAt_new (w1.drewN nq2) [.int .u8 x, .int .u8 y, .int .i8 z] _
      have sa : w1.heap.size < ((w1.drewN nq2).alloc (.cells #[.int .u8 x, .int .u8 y, .int .i8 z] 69)).heap.size := by rw [World.size_alloc]; exact Nat.lt_succ_self _
      have hPa : PairsAt (((w1.drewN nq2).alloc (.cells #[.int .u8 x, .int .u8 y, .int .i8 z] 69)).alloc (.cells #[.slice (some ⟨b, o, none⟩) k k, .slice (some ⟨w1.heap.size, 0, none⟩) 1 1, .slice (some ⟨b2, o2, none⟩) T.length T.length] 63)) (((w1.drewN nq2).alloc (.cells #[.int .u8 x, .int .u8 y, .int .i8 z] 69)).alloc (.cells #[.slice (some ⟨b, o, none⟩) k k, .slice (some ⟨w1.heap.size, 0, none⟩) 1 1, .slice (some ⟨b2, o2, none⟩) T.length T.length] 63)).heap.size (some ⟨w1.heap.size, 0, none⟩) [(x, y, z)] := fun _ => ⟨w1.heap.size, 0, rfl, Nat.lt_of_lt_of_le sa hbY.size, fun j p hp => by
        cases j with
        | zero =>
          obtain rfl : (x, y, z) = p := by simpa using hp
          exact rangeAt_below ra hbY sa
        | succ j => simp at hp⟩
      have HCC := hide (concatP_any ((w1.drewN nq2).alloc (.cells #[.int .u8 x, .int .u8 y, .int .i8 z] 69)).heap.size 0 3 [(some ⟨b, o, none⟩, k, ps.take k), (some ⟨w1.heap.size, 0, none⟩, 1, [(x, y, z)]), (some ⟨b2, o2, none⟩, T.length, T)] (((w1.drewN nq2).alloc (.cells #[.int .u8 x, .int .u8 y, .int .i8 z] 69)).alloc (.cells #[.slice (some ⟨b, o, none⟩) k k, .slice (some ⟨w1.heap.size, 0, none⟩) 1 1, .slice (some ⟨b2, o2, none⟩) T.length T.length] 63)) (by simp) (by rw [← HPUT.out]; exact hln) (by simp)
        (fun j q hq => by
          match j with
          | 0 =>
            obtain rfl : (some (⟨b, o, none⟩ : Addr), k, ps.take k) = q := by simpa using hq
            rw [hk]; exact (rangeAt_new ((w1.drewN nq2).alloc (.cells #[.int .u8 x, .int .u8 y, .int .i8 z] 69)) [.slice (some ⟨b, o, none⟩) k k, .slice (some ⟨w1.heap.size, 0, none⟩) 1 1, .slice (some ⟨b2, o2, none⟩) T.length T.length] 63) 0 _ rfl
          | 1 =>
            obtain rfl : (some (⟨w1.heap.size, 0, none⟩ : Addr), 1, [(x, y, z)]) = q := by simpa using hq
            exact (rangeAt_new ((w1.drewN nq2).alloc (.cells #[.int .u8 x, .int .u8 y, .int .i8 z] 69)) [.slice (some ⟨b, o, none⟩) k k, .slice (some ⟨w1.heap.size, 0, none⟩) 1 1, .slice (some ⟨b2, o2, none⟩) T.length T.length] 63) 1 _ rfl
          | 2 =>
            obtain rfl : (some (⟨b2, o2, none⟩ : Addr), T.length, T) = q := by simpa using hq
            exact (rangeAt_new ((w1.drewN nq2).alloc (.cells #[.int .u8 x, .int .u8 y, .int .i8 z] 69)) [.slice (some ⟨b, o, none⟩) k k, .slice (some ⟨w1.heap.size, 0, none⟩) 1 1, .slice (some ⟨b2, o2, none⟩) T.length T.length] 63) 2 _ rfl
          | j + 3 => simp at hq)
        (fun q hq => by
          rcases List.mem_cons.1 hq with rfl | hq
          · exact ⟨(hP0.below hbX).mono hbX.size, fun h => by cases h⟩
          rcases List.mem_cons.1 hq with rfl | hq
          · exact ⟨hPa, fun h => by cases h⟩
          · obtain rfl : q = (some (⟨b2, o2, none⟩ : Addr), T.length, T) := by simpa using hq
            exact ⟨(hP2.below hbX).mono hbX.size, fun h => by cases h⟩))
      rw [← HPUT.out] at HCC
      have hB2 : Below w.heap.size w (((w1.drewN nq2).alloc (.cells #[.int .u8 x, .int .u8 y, .int .i8 z] 69)).alloc (.cells #[.slice (some ⟨b, o, none⟩) k k, .slice (some ⟨w1.heap.size, 0, none⟩) 1 1, .slice (some ⟨b2, o2, none⟩) T.length T.length] 63)) := hB1.trans (hbX.mono hB1.size)
      clear hln hz hP0 hP2 hbX hbA hbY ra sa hPa
      have hsz : ((w1.drewN nq2).alloc (.cells #[.int .u8 x, .int .u8 y, .int .i8 z] 69)).heap.size = w1.heap.size + 1 := by rw [World.size_alloc, size_drewN]
      rw [hsz] at HCC
      clear hsz y0 r1 hk hd' i0 i1 i2 i3 hlb hc hn hTn
      go_upto_region 7 with fail
      go_wp2_with fail
      refine HCC.out.mono ?_
      rintro e w4 ⟨A', c', rfl, hc', hP4, hb4⟩
      go_wp2
      go_ret
      exact ⟨A', c', rfl, hc', PairsIn.mono hP4 hB2.size, hB2.trans (hb4.mono hB2.size)⟩
end Go.Proofs.Ytkbemhjeflmppaa
