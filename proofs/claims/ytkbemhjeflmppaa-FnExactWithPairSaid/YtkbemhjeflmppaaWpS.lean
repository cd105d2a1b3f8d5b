/- WithPair of the model. -/
import Derived.Test.YtkbemhjeflmppaaWpD
import Derived.Deep.RegionHeld3
import Derived.Test.YtkbemhjeflmppaaRange
namespace Go.Proofs.Ytkbemhjeflmppaa
open Go Go.RowKit

theorem one_pair (w : World) (x y z : Int) : PairsAt (w.alloc (.cells #[.int .u8 x, .int .u8 y, .int .i8 z] 69)) (w.alloc (.cells #[.int .u8 x, .int .u8 y, .int .i8 z] 69)).heap.size (some ⟨w.heap.size, 0, none⟩) [(x, y, z)] := fun _ => ⟨w.heap.size, 0, rfl, by simp, fun j p hp => by
  cases j with
  | zero =>
    obtain rfl : (x, y, z) = p := by simpa using hp
    rw [Nat.zero_mul, Nat.add_zero]
    exact rangeAt_new w [.int .u8 x, .int .u8 y, .int .i8 z] _
  | succ j => simp at hp⟩

set_option maxRecDepth 100000 in
set_option maxHeartbeats 32000000 in
theorem specWithPair_any (F : Fc) (hF : F.ok) (A : Option Addr) (c : Nat) (x y z : Int) (hp : pok (x, y, z)) (w : World) (hA : PairsAt w w.heap.size A F.ps) :
    Calls Try.prog 43 #[.agg (fc F (.slice A F.ps.length c)).toArray, .agg #[.int .u8 x, .int .u8 y, .int .i8 z]] w (FaceBack (wpF F (x, y, z)) (wpC F (x, y, z)) w) := by
  have hW := hide hF.len
  have r0 := World.rangeAt_alloc (World.rangeAt_alloc (rangeAt_new w (fc F (.slice A F.ps.length c)) 65) (.cells #[.int .u8 x, .int .u8 y, .int .i8 z] 69)) (.cells #[.int .i8 0, .int .i8 0, .int .i8 0, .int .i8 0, .int .i8 0, .int .i8 0, .int .i8 0, .int .i8 0, .int .i8 0, .int .i8 0, .int .i8 0, .int .i8 0, .int .i8 0, .int .i8 0, .int .i8 0, .int .i8 0, .int .i8 0, .int .i8 0, .int .i8 0, .int .i8 0, .int .i8 0, .int .i8 0, .int .i8 0, .int .i8 0, .int .i8 0, .int .i8 0, .int .i8 0, .int .i8 0, .slice none 0 0] 65)
  have t0 := World.there_alloc (World.there_alloc (there_newg (w := w) (cs := (fc F (.slice A F.ps.length c)).toArray) (t := 65) (g := w.heap.size) (n := 29) rfl (by simp only [List.size_toArray]; rw [fc_length hW.out])) (.cells #[.int .u8 x, .int .u8 y, .int .i8 z] 69)) (.cells #[.int .i8 0, .int .i8 0, .int .i8 0, .int .i8 0, .int .i8 0, .int .i8 0, .int .i8 0, .int .i8 0, .int .i8 0, .int .i8 0, .int .i8 0, .int .i8 0, .int .i8 0, .int .i8 0, .int .i8 0, .int .i8 0, .int .i8 0, .int .i8 0, .int .i8 0, .int .i8 0, .int .i8 0, .int .i8 0, .int .i8 0, .int .i8 0, .int .i8 0, .int .i8 0, .int .i8 0, .int .i8 0, .slice none 0 0] 65)
  have p0 := World.rangeAt_alloc (rangeAt_newg (w := (w.alloc (.cells (fc F (.slice A F.ps.length c)).toArray 65))) (cs := #[.int .u8 x, .int .u8 y, .int .i8 z]) (t := 69) (g := w.heap.size + 1) (l := [.int .u8 x, .int .u8 y, .int .i8 z]) (by simp) rfl) (.cells #[.int .i8 0, .int .i8 0, .int .i8 0, .int .i8 0, .int .i8 0, .int .i8 0, .int .i8 0, .int .i8 0, .int .i8 0, .int .i8 0, .int .i8 0, .int .i8 0, .int .i8 0, .int .i8 0, .int .i8 0, .int .i8 0, .int .i8 0, .int .i8 0, .int .i8 0, .int .i8 0, .int .i8 0, .int .i8 0, .int .i8 0, .int .i8 0, .int .i8 0, .int .i8 0, .int .i8 0, .int .i8 0, .slice none 0 0] 65)
  have z0 := there_newg (w := ((w.alloc (.cells (fc F (.slice A F.ps.length c)).toArray 65)).alloc (.cells #[.int .u8 x, .int .u8 y, .int .i8 z] 69))) (cs := #[.int .i8 0, .int .i8 0, .int .i8 0, .int .i8 0, .int .i8 0, .int .i8 0, .int .i8 0, .int .i8 0, .int .i8 0, .int .i8 0, .int .i8 0, .int .i8 0, .int .i8 0, .int .i8 0, .int .i8 0, .int .i8 0, .int .i8 0, .int .i8 0, .int .i8 0, .int .i8 0, .int .i8 0, .int .i8 0, .int .i8 0, .int .i8 0, .int .i8 0, .int .i8 0, .int .i8 0, .int .i8 0, .slice none 0 0]) (t := 65) (g := w.heap.size + 1 + 1) (n := 29) (by simp) rfl
  have b0 : Below w.heap.size w (((w.alloc (.cells (fc F (.slice A F.ps.length c)).toArray 65)).alloc (.cells #[.int .u8 x, .int .u8 y, .int .i8 z] 69)).alloc (.cells #[.int .i8 0, .int .i8 0, .int .i8 0, .int .i8 0, .int .i8 0, .int .i8 0, .int .i8 0, .int .i8 0, .int .i8 0, .int .i8 0, .int .i8 0, .int .i8 0, .int .i8 0, .int .i8 0, .int .i8 0, .int .i8 0, .int .i8 0, .int .i8 0, .int .i8 0, .int .i8 0, .int .i8 0, .int .i8 0, .int .i8 0, .int .i8 0, .int .i8 0, .int .i8 0, .int .i8 0, .int .i8 0, .slice none 0 0] 65)) := (((Below.refl _ _).alloc (Nat.le_refl _) _).alloc (by simp) _).alloc (by simp; omega) _
  have s0 : w.heap.size + 1 + 1 < (((w.alloc (.cells (fc F (.slice A F.ps.length c)).toArray 65)).alloc (.cells #[.int .u8 x, .int .u8 y, .int .i8 z] 69)).alloc (.cells #[.int .i8 0, .int .i8 0, .int .i8 0, .int .i8 0, .int .i8 0, .int .i8 0, .int .i8 0, .int .i8 0, .int .i8 0, .int .i8 0, .int .i8 0, .int .i8 0, .int .i8 0, .int .i8 0, .int .i8 0, .int .i8 0, .int .i8 0, .int .i8 0, .int .i8 0, .int .i8 0, .int .i8 0, .int .i8 0, .int .i8 0, .int .i8 0, .int .i8 0, .int .i8 0, .int .i8 0, .int .i8 0, .slice none 0 0] 65)).heap.size := by simp
  have HII := hide (show ∀ F : Fc, F.W.length = 26 → ∀ sl, (Try.prog.info? 65).map (·.size) = some (fc F sl).length from fun F h sl => by rw [fc_length h]; kernel_rfl)
  have HI29 := hide (show (Try.prog.info? 65).map (·.size) = some zc.toArray.size from by kernel_rfl)
  have BA := hA.below b0
  have HAA := hide BA
  have HC := hide (l01Face_any F hF w.heap.size A c _ r0 (BA.mono b0.size))
  generalize hR : wpF F (x, y, z) = R
  generalize hC : wpC F (x, y, z) = C
  have HR := hide hR
  have HCo := hide hC
  clear hA hR hC
  cases hv : vface F
  · have HP := hide (wp_inv hv (x, y, z))
    go_enter Try.func43, Try.ntmps43
    go_wp2_with fail
    generalize (((w.alloc (.cells (fc F (.slice A F.ps.length c)).toArray 65)).alloc (.cells #[.int .u8 x, .int .u8 y, .int .i8 z] 69)).alloc (.cells #[.int .i8 0, .int .i8 0, .int .i8 0, .int .i8 0, .int .i8 0, .int .i8 0, .int .i8 0, .int .i8 0, .int .i8 0, .int .i8 0, .int .i8 0, .int .i8 0, .int .i8 0, .int .i8 0, .int .i8 0, .int .i8 0, .int .i8 0, .int .i8 0, .int .i8 0, .int .i8 0, .int .i8 0, .int .i8 0, .int .i8 0, .int .i8 0, .int .i8 0, .int .i8 0, .int .i8 0, .int .i8 0, .slice none 0 0] 65)) = W0 at *
    refine HC.out.mono ?_
    rintro e w1 ⟨rfl, hb1⟩
    simp only [hv]
    have z1 : w1.there (w.heap.size + 1 + 1) 0 zc.toArray.size := there_below z0 hb1 s0
    go_wp2_with (refine wpList_store_mid rfl 65 (.tmp 4) (.tmp 11) rfl (w.heap.size + 1 + 1) 0 zc.toArray rfl rfl z1 HI29.out (by kernel_rfl) ?_)
    refine bodyPost_ret (results_mid2 rfl _ _ (w.heap.size + 1 + 1) 0 zc _ rfl (zc_row z1) Try.underlying65 rfl HI29.out) rfl (back_zero (HR.out.symm.trans HP.out.1) (by show Value.int .i64 _ = _; rw [← HCo.out, HP.out.2]) (b0.trans (hb1.mono b0.size)) (by omega))
  · have hn12 : F.ps.length ≤ 12 := (vface_true.1 hv).1
    have hso : sortedP F.ps := sortedP_of_good (vface_true.1 hv).2.ps
    cases hx : cap x
    · have hy : cap y = cap y := rfl
      have HP := hide (wp_state hv (wp_caps (F := F) (p := (x, y, z)) (by show (cap x && cap y) = false; rw [hx]; rfl)))
      go_enter Try.func43, Try.ntmps43
      go_wp2_with fail
      generalize (((w.alloc (.cells (fc F (.slice A F.ps.length c)).toArray 65)).alloc (.cells #[.int .u8 x, .int .u8 y, .int .i8 z] 69)).alloc (.cells #[.int .i8 0, .int .i8 0, .int .i8 0, .int .i8 0, .int .i8 0, .int .i8 0, .int .i8 0, .int .i8 0, .int .i8 0, .int .i8 0, .int .i8 0, .int .i8 0, .int .i8 0, .int .i8 0, .int .i8 0, .int .i8 0, .int .i8 0, .int .i8 0, .int .i8 0, .int .i8 0, .int .i8 0, .int .i8 0, .int .i8 0, .int .i8 0, .int .i8 0, .int .i8 0, .int .i8 0, .int .i8 0, .slice none 0 0] 65)) = W0 at *
      refine HC.out.mono ?_
      rintro e w1 ⟨rfl, hb1⟩
      simp only [hv]
      have p1 := rangeAt_below p0 hb1 (by omega)
      have a0 : w1.cell? ⟨w.heap.size + 1, 0, none⟩ = some (.int .u8 x) := p1 0 _ rfl
      have a1 : w1.cell? ⟨w.heap.size + 1, 1, none⟩ = some (.int .u8 y) := p1 1 _ rfl
      have a2 : w1.cell? ⟨w.heap.size + 1, 2, none⟩ = some (.int .i8 z) := p1 2 _ rfl
      go_wp2_with fail
      refine (l01Letter_any _ _).mono ?_
      rintro e w' ⟨rfl, rfl⟩
      simp only [hx]
      have z1 : w1.there (w.heap.size + 1 + 1) 0 zc.toArray.size := there_below z0 hb1 s0
      go_wp2_with (refine wpList_store_mid rfl 65 (.tmp 4) (.tmp 22) rfl (w.heap.size + 1 + 1) 0 zc.toArray rfl rfl z1 HI29.out (by kernel_rfl) ?_)
      refine bodyPost_ret (results_mid2 rfl _ _ (w.heap.size + 1 + 1) 0 zc _ rfl (zc_row z1) Try.underlying65 rfl HI29.out) rfl (back_zero (HR.out.symm.trans HP.out.1) (by show Value.int .i64 _ = _; rw [← HCo.out, HP.out.2]) (b0.trans (hb1.mono b0.size)) (by omega))
    · cases hy : cap y
      · have HP := hide (wp_state hv (wp_caps (F := F) (p := (x, y, z)) (by show (cap x && cap y) = false; rw [hx, hy]; rfl)))
        go_enter Try.func43, Try.ntmps43
        go_wp2_with fail
        generalize (((w.alloc (.cells (fc F (.slice A F.ps.length c)).toArray 65)).alloc (.cells #[.int .u8 x, .int .u8 y, .int .i8 z] 69)).alloc (.cells #[.int .i8 0, .int .i8 0, .int .i8 0, .int .i8 0, .int .i8 0, .int .i8 0, .int .i8 0, .int .i8 0, .int .i8 0, .int .i8 0, .int .i8 0, .int .i8 0, .int .i8 0, .int .i8 0, .int .i8 0, .int .i8 0, .int .i8 0, .int .i8 0, .int .i8 0, .int .i8 0, .int .i8 0, .int .i8 0, .int .i8 0, .int .i8 0, .int .i8 0, .int .i8 0, .int .i8 0, .int .i8 0, .slice none 0 0] 65)) = W0 at *
        refine HC.out.mono ?_
        rintro e w1 ⟨rfl, hb1⟩
        simp only [hv]
        have p1 := rangeAt_below p0 hb1 (by omega)
        have a0 : w1.cell? ⟨w.heap.size + 1, 0, none⟩ = some (.int .u8 x) := p1 0 _ rfl
        have a1 : w1.cell? ⟨w.heap.size + 1, 1, none⟩ = some (.int .u8 y) := p1 1 _ rfl
        have a2 : w1.cell? ⟨w.heap.size + 1, 2, none⟩ = some (.int .i8 z) := p1 2 _ rfl
        go_wp2_with fail
        refine (l01Letter_any _ _).mono ?_
        rintro e w' ⟨rfl, rfl⟩
        simp only [hx]
        go_wp2_with fail
        refine (l01Letter_any _ _).mono ?_
        rintro e w' ⟨rfl, rfl⟩
        simp only [hy]
        have z1 : w1.there (w.heap.size + 1 + 1) 0 zc.toArray.size := there_below z0 hb1 s0
        go_wp2_with (refine wpList_store_mid rfl 65 (.tmp 4) (.tmp 22) rfl (w.heap.size + 1 + 1) 0 zc.toArray rfl rfl z1 HI29.out (by kernel_rfl) ?_)
        refine bodyPost_ret (results_mid2 rfl _ _ (w.heap.size + 1 + 1) 0 zc _ rfl (zc_row z1) Try.underlying65 rfl HI29.out) rfl (back_zero (HR.out.symm.trans HP.out.1) (by show Value.int .i64 _ = _; rw [← HCo.out, HP.out.2]) (b0.trans (hb1.mono b0.size)) (by omega))
      · have HSH := hide (wp_shape (F := F) (p := (x, y, z)) (by show (cap x && cap y) = true; rw [hx, hy]; rfl))
        have hFp := putF_ok hF hv hp
        have HALL := hide (stP_all (p := (x, y, z)) hso)
        have HLIM := hide (fun h1 h2 => wp_limit (F := F) hv (p := (x, y, z)) h1 h2)
        have HOK := hide (fun h1 h2 => wp_ok (F := F) hv (p := (x, y, z)) h1 h2)
        have HSTA := hide (fun h1 => wp_state (F := F) hv (p := (x, y, z)) h1)
        obtain ⟨D, hD⟩ : ∃ D, decide (z = 0) = D := ⟨_, rfl⟩
        have hD2 : (z == 0) = D := by rw [← hD]; rfl
        have HLN := hide (fun k => stP_len F.ps (x, y, z) D k)
        rw [show decide ((x, y, z).2.2 = 0) = D from hD] at HALL
        clear hso hp
        go_enter Try.func43, Try.ntmps43
        go_wp2_with fail
        generalize (((w.alloc (.cells (fc F (.slice A F.ps.length c)).toArray 65)).alloc (.cells #[.int .u8 x, .int .u8 y, .int .i8 z] 69)).alloc (.cells #[.int .i8 0, .int .i8 0, .int .i8 0, .int .i8 0, .int .i8 0, .int .i8 0, .int .i8 0, .int .i8 0, .int .i8 0, .int .i8 0, .int .i8 0, .int .i8 0, .int .i8 0, .int .i8 0, .int .i8 0, .int .i8 0, .int .i8 0, .int .i8 0, .int .i8 0, .int .i8 0, .int .i8 0, .int .i8 0, .int .i8 0, .int .i8 0, .int .i8 0, .int .i8 0, .int .i8 0, .int .i8 0, .slice none 0 0] 65)) = W0 at *
        refine HC.out.mono ?_
        rintro e w1 ⟨rfl, hb1⟩
        simp only [hv]
        have p1 := rangeAt_below p0 hb1 (by omega)
        have a0 : w1.cell? ⟨w.heap.size + 1, 0, none⟩ = some (.int .u8 x) := p1 0 _ rfl
        have a1 : w1.cell? ⟨w.heap.size + 1, 1, none⟩ = some (.int .u8 y) := p1 1 _ rfl
        have a2 : w1.cell? ⟨w.heap.size + 1, 2, none⟩ = some (.int .i8 z) := p1 2 _ rfl
        go_wp2_with fail
        refine (l01Letter_any _ _).mono ?_
        rintro e w' ⟨rfl, rfl⟩
        simp only [hx]
        go_wp2_with fail
        refine (l01Letter_any _ _).mono ?_
        rintro e w' ⟨rfl, rfl⟩
        simp only [hy]
        have HO := hide (World.ownsRow_lit w1 #[] 0 (Nat.le_refl _) (by unfold maxLen; omega) rfl : (w1.alloc (.cells #[] 69)).ownsRow w1.heap.size 69 3 (.slice (some ⟨w1.heap.size, 0, none⟩) 0 0) 0 [])
        have hbO : Below w1.heap.size w1 (w1.alloc (.cells #[] 69)) := (Below.refl _ _).alloc (Nat.le_refl _) _
        have m28 := rangeAt_cell (rangeAt_below r0 hb1 (by omega)) (fc_sl hW.out _)
        have o2 : (w1.alloc (.cells #[] 69)).cell? ⟨w.heap.size + 1, 2, none⟩ = some (.int .i8 z) := (hbO.cell (p := ⟨w.heap.size + 1, 2, none⟩) (Nat.lt_of_lt_of_le (by show w.heap.size + 1 < W0.heap.size; omega) hb1.size)).trans a2
        clear a0 a1 a2
        go_wp2
        go_loopw [6, 7, 8] (fun b1 b2 I wr => ∃ k : Nat, k ≤ F.ps.length ∧ I = .int .i64 k ∧ b2 = .bool (stP F.ps (x, y, z) D k).2 ∧ wr.ownsRow w1.heap.size 69 3 b1 (stP F.ps (x, y, z) D k).1.length (flat (stP F.ps (x, y, z) D k).1) ∧ Below w1.heap.size w1 wr)
          (fun _ _ I _ => F.ps.length - (intOf I).toNat)
        case atStart => exact ⟨0, Nat.zero_le _, rfl, rfl, HO.out, hbO⟩
        case round =>
          clear o2 m28 hbO HO
          obtain ⟨k, hk, rfl, rfl, hown, hB⟩ := hrel
          obtain ⟨Ab, cb, rfl, hcb, _⟩ := pairsIn_of_own hown rfl hB.size
          have hln := HLN.out k
          have HOWN := hide hown
          clear hown
          by_cases hlt : k < F.ps.length
          · obtain ⟨b', o', rfl, hb', hps⟩ := HAA.out (by intro e; rw [e] at hlt; simp at hlt)
            obtain ⟨q, hq⟩ : ∃ q, F.ps[k]? = some q := ⟨F.ps[k]'hlt, List.getElem?_eq_getElem _⟩
            have HSU := hide (stP_succ (p := (x, y, z)) (d := D) hq)
            have hqr := hps k q hq
            obtain ⟨r, s, t⟩ := q
            have HXQ := hide (fun W (h : Below w1.heap.size w1 W) => rangeAt_below (rangeAt_below hqr hb1 (Nat.lt_of_lt_of_le hb' b0.size)) h (Nat.lt_of_lt_of_le hb' (Nat.le_trans b0.size hb1.size)))
            have HX28 := hide (fun W (h : Below w1.heap.size w1 W) => rangeAt_cell (rangeAt_below (rangeAt_below r0 hb1 (by omega)) h (Nat.lt_of_lt_of_le (by omega) hb1.size)) (fc_sl hW.out _))
            have HXP := hide (fun W (h : Below w1.heap.size w1 W) => rangeAt_below (rangeAt_below p0 hb1 (by omega)) h (Nat.lt_of_lt_of_le (by omega) hb1.size))
            have hi : (k : Int) < F.ps.length := by omega
            have h0 : (0 : Int) ≤ k := by omega
            clear hqr hps hq
            generalize hst : stP F.ps (x, y, z) D k = st at *
            obtain ⟨L, d0⟩ := st
            have HST := hide hst
            clear hst
            dsimp only at hln HOWN hcb ⊢
            cases d0
            · cases hah : ahead (x, y, z) (r, s, t)
              · have c28 : ∀ w', Below wr.heap.size wr w' → w'.cell? ⟨w.heap.size, 28, none⟩ = some (.slice (some ⟨b', o', none⟩) F.ps.length c) := fun w' h => HX28.out w' (hB.trans (h.mono hB.size))
                have cp0 : ∀ w', Below wr.heap.size wr w' → w'.cell? ⟨w.heap.size + 1, 0, none⟩ = some (.int .u8 x) := fun w' h => HXP.out w' (hB.trans (h.mono hB.size)) 0 _ rfl
                have cp1 : ∀ w', Below wr.heap.size wr w' → w'.cell? ⟨w.heap.size + 1, 1, none⟩ = some (.int .u8 y) := fun w' h => HXP.out w' (hB.trans (h.mono hB.size)) 1 _ rfl
                have cp2 : ∀ w', Below wr.heap.size wr w' → w'.cell? ⟨w.heap.size + 1, 2, none⟩ = some (.int .i8 z) := fun w' h => HXP.out w' (hB.trans (h.mono hB.size)) 2 _ rfl
                have cq0 : ∀ w', Below wr.heap.size wr w' → w'.cell? ⟨b', o' + k * 3, none⟩ = some (.int .u8 r) := fun w' h => HXQ.out w' (hB.trans (h.mono hB.size)) 0 _ rfl
                have cq1 : ∀ w', Below wr.heap.size wr w' → w'.cell? ⟨b', o' + k * 3 + 1, none⟩ = some (.int .u8 s) := fun w' h => HXQ.out w' (hB.trans (h.mono hB.size)) 1 _ rfl
                have cq2 : ∀ w', Below wr.heap.size wr w' → w'.cell? ⟨b', o' + k * 3 + 2, none⟩ = some (.int .i8 t) := fun w' h => HXQ.out w' (hB.trans (h.mono hB.size)) 2 _ rfl
                have y28 := c28 wr (Below.refl _ _)
                go_wp2
                clear y28
                have HAH := hide (fun W => l01Ahead_any x y z r s t W)
                rw [hah] at HAH
                go_region_held3 (fun w' => Below wr.heap.size wr w') (first | exact (Below.refl _ _).drew | (refine Below.trans (by assumption) (Below.mono (by assumption) ?_); exact Below.size (by assumption))) (first | (go_at_call 97; refine (HAH.out _).mono ?_; rintro e w5 ⟨rfl, hb5⟩))
                have hb5w : Below wr.heap.size wr w5 := by assumption
                have B5 : Below w1.heap.size w1 w5 := hB.trans (hb5w.mono hB.size)
                have O5 := hide (own_go HOWN.out hb5w)
                clear c28 cp0 cp1 cp2 cq0 cq1 cq2 HAH
                go_wp2
                have f28 : w5.cell? ⟨w.heap.size, 28, none⟩ = some (.slice (some ⟨b', o', none⟩) F.ps.length c) := (HX28.out w5 B5)
                have fp0 : w5.cell? ⟨w.heap.size + 1, 0, none⟩ = some (.int .u8 x) := HXP.out w5 B5 0 _ rfl
                have fp1 : w5.cell? ⟨w.heap.size + 1, 1, none⟩ = some (.int .u8 y) := HXP.out w5 B5 1 _ rfl
                have fp2 : w5.cell? ⟨w.heap.size + 1, 2, none⟩ = some (.int .i8 z) := HXP.out w5 B5 2 _ rfl
                have fq0 : w5.cell? ⟨b', o' + k * 3, none⟩ = some (.int .u8 r) := HXQ.out w5 B5 0 _ rfl
                have fq1 : w5.cell? ⟨b', o' + k * 3 + 1, none⟩ = some (.int .u8 s) := HXQ.out w5 B5 1 _ rfl
                have fq2 : w5.cell? ⟨b', o' + k * 3 + 2, none⟩ = some (.int .i8 t) := HXQ.out w5 B5 2 _ rfl
                cases hrx : (r != x)
                · cases hsy : (s != y)
                  · have HK := hide (show sameKey (r, s, t) (x, y, z) from ⟨by simpa using hrx, by simpa using hsy⟩)
                    have hn1 : (r != x) = false := hrx
                    have hn2 : (s != y) = false := hsy
                    have HF := hide (HSU.out.trans (show stN (x, y, z) (r, s, t) (L, false) = (L ++ ([] ++ []), false) by unfold stN; simp only [Bool.not_false, hah]; rw [show (if sameKey (r, s, t) (x, y, z) then ([] : List Tri) else [(r, s, t)]) = [] from if_pos HK.out]; rfl))
                    go_wp2
                    go_quiet (fail)
                    have Bq := below_drewN B5 nq
                    have Oq := hide (own_go O5.out (below_drewN (Below.refl _ _) nq))
                    clear f28 fp0 fp1 fp2 fq0 fq1 fq2
                    go_wp2
                    refine ⟨⟨k + 1, by omega, by go_num, by rw [HF.out], ?_, Bq⟩, by simp [intOf]; omega⟩
                    rw [HF.out]
                    simpa using Oq.out
                  · have HK := hide (show ¬ sameKey (r, s, t) (x, y, z) from fun h => by rw [show s = y from h.2] at hsy; simp at hsy)
                    have hn1 : (r != x) = false := hrx
                    have hn2 : (s != y) = true := hsy
                    have HF := hide (HSU.out.trans (show stN (x, y, z) (r, s, t) (L, false) = (L ++ ([] ++ [(r, s, t)]), false) by unfold stN; simp only [Bool.not_false, hah]; rw [show (if sameKey (r, s, t) (x, y, z) then ([] : List Tri) else [(r, s, t)]) = [(r, s, t)] from if_neg HK.out]; rfl))
                    go_wp2
                    go_quiet (fail)
                    have Bq := below_drewN B5 nq
                    have Oq := hide (own_go O5.out (below_drewN (Below.refl _ _) nq))
                    clear f28 fp0 fp1 fp2 fq0 fq1 fq2
                    generalize w5.drewN nq = wq at *
                    have g28 : wq.cell? ⟨w.heap.size, 28, none⟩ = some (.slice (some ⟨b', o', none⟩) F.ps.length c) := (HX28.out wq Bq)
                    have gp0 : wq.cell? ⟨w.heap.size + 1, 0, none⟩ = some (.int .u8 x) := HXP.out wq Bq 0 _ rfl
                    have gp1 : wq.cell? ⟨w.heap.size + 1, 1, none⟩ = some (.int .u8 y) := HXP.out wq Bq 1 _ rfl
                    have gp2 : wq.cell? ⟨w.heap.size + 1, 2, none⟩ = some (.int .i8 z) := HXP.out wq Bq 2 _ rfl
                    have gq0 : wq.cell? ⟨b', o' + k * 3, none⟩ = some (.int .u8 r) := HXQ.out wq Bq 0 _ rfl
                    have gq1 : wq.cell? ⟨b', o' + k * 3 + 1, none⟩ = some (.int .u8 s) := HXQ.out wq Bq 1 _ rfl
                    have gq2 : wq.cell? ⟨b', o' + k * 3 + 2, none⟩ = some (.int .i8 t) := HXQ.out wq Bq 2 _ rfl
                    have hA_wz : PairsAt (wq.alloc (.cells #[.int .u8 r, .int .u8 s, .int .i8 t] 69)) (wq.alloc (.cells #[.int .u8 r, .int .u8 s, .int .i8 t] 69)).heap.size (some ⟨wq.heap.size, 0, none⟩) [(r, s, t)] := one_pair wq _ _ _
                    have z_wz := Bq.size
                    go_wp2_with (at_builtin; refine wpList_append_pairsN rfl (.tmp 69) (.tmp 75) rfl w1.heap.size _ L.length L rfl (Oq.out.alloc _) (by simp; omega) (some ⟨wq.heap.size, 0, none⟩) [(r, s, t)] 1 rfl (fun h => by cases h) (by simp; omega) hA_wz ?_)
                    intro v_wz wz hown_wz hg_wz
                    have hgg_wz : wq.grownBy wz _ := grown_trans (World.grownBy_alloc wq _ _) hg_wz
                    obtain ⟨A_wz, c_wz, rfl, hc_wz, _⟩ := pairsIn_of_own hown_wz (by simp [List.length_append]) (Nat.le_trans z_wz hgg_wz.size)
                    have B_wz := Bq.trans (grown_toBelow hgg_wz (by omega) (fun k hk => (Oq.out.lt k hk).1))
                    have O_wz := hide hown_wz
                    clear hown_wz hg_wz hgg_wz hA_wz
                    clear g28 gp0 gp1 gp2 gq0 gq1 gq2
                    go_wp2
                    refine ⟨⟨k + 1, by omega, by go_num, by rw [HF.out], ?_, B_wz⟩, by simp [intOf]; omega⟩
                    rw [HF.out]
                    simpa [List.append_assoc, Nat.add_assoc] using O_wz.out
                · have HK := hide (show ¬ sameKey (r, s, t) (x, y, z) from fun h => by rw [show r = x from h.1] at hrx; simp at hrx)
                  have hn1 : (r != x) = true := hrx
                  have HF := hide (HSU.out.trans (show stN (x, y, z) (r, s, t) (L, false) = (L ++ ([] ++ [(r, s, t)]), false) by unfold stN; simp only [Bool.not_false, hah]; rw [show (if sameKey (r, s, t) (x, y, z) then ([] : List Tri) else [(r, s, t)]) = [(r, s, t)] from if_neg HK.out]; rfl))
                  go_wp2
                  go_quiet (fail)
                  have Bq := below_drewN B5 nq
                  have Oq := hide (own_go O5.out (below_drewN (Below.refl _ _) nq))
                  clear f28 fp0 fp1 fp2 fq0 fq1 fq2
                  generalize w5.drewN nq = wq at *
                  have g28 : wq.cell? ⟨w.heap.size, 28, none⟩ = some (.slice (some ⟨b', o', none⟩) F.ps.length c) := (HX28.out wq Bq)
                  have gp0 : wq.cell? ⟨w.heap.size + 1, 0, none⟩ = some (.int .u8 x) := HXP.out wq Bq 0 _ rfl
                  have gp1 : wq.cell? ⟨w.heap.size + 1, 1, none⟩ = some (.int .u8 y) := HXP.out wq Bq 1 _ rfl
                  have gp2 : wq.cell? ⟨w.heap.size + 1, 2, none⟩ = some (.int .i8 z) := HXP.out wq Bq 2 _ rfl
                  have gq0 : wq.cell? ⟨b', o' + k * 3, none⟩ = some (.int .u8 r) := HXQ.out wq Bq 0 _ rfl
                  have gq1 : wq.cell? ⟨b', o' + k * 3 + 1, none⟩ = some (.int .u8 s) := HXQ.out wq Bq 1 _ rfl
                  have gq2 : wq.cell? ⟨b', o' + k * 3 + 2, none⟩ = some (.int .i8 t) := HXQ.out wq Bq 2 _ rfl
                  have hA_wz : PairsAt (wq.alloc (.cells #[.int .u8 r, .int .u8 s, .int .i8 t] 69)) (wq.alloc (.cells #[.int .u8 r, .int .u8 s, .int .i8 t] 69)).heap.size (some ⟨wq.heap.size, 0, none⟩) [(r, s, t)] := one_pair wq _ _ _
                  have z_wz := Bq.size
                  go_wp2_with (at_builtin; refine wpList_append_pairsN rfl (.tmp 69) (.tmp 75) rfl w1.heap.size _ L.length L rfl (Oq.out.alloc _) (by simp; omega) (some ⟨wq.heap.size, 0, none⟩) [(r, s, t)] 1 rfl (fun h => by cases h) (by simp; omega) hA_wz ?_)
                  intro v_wz wz hown_wz hg_wz
                  have hgg_wz : wq.grownBy wz _ := grown_trans (World.grownBy_alloc wq _ _) hg_wz
                  obtain ⟨A_wz, c_wz, rfl, hc_wz, _⟩ := pairsIn_of_own hown_wz (by simp [List.length_append]) (Nat.le_trans z_wz hgg_wz.size)
                  have B_wz := Bq.trans (grown_toBelow hgg_wz (by omega) (fun k hk => (Oq.out.lt k hk).1))
                  have O_wz := hide hown_wz
                  clear hown_wz hg_wz hgg_wz hA_wz
                  clear g28 gp0 gp1 gp2 gq0 gq1 gq2
                  go_wp2
                  refine ⟨⟨k + 1, by omega, by go_num, by rw [HF.out], ?_, B_wz⟩, by simp [intOf]; omega⟩
                  rw [HF.out]
                  simpa [List.append_assoc, Nat.add_assoc] using O_wz.out
              · have c28 : ∀ w', Below wr.heap.size wr w' → w'.cell? ⟨w.heap.size, 28, none⟩ = some (.slice (some ⟨b', o', none⟩) F.ps.length c) := fun w' h => HX28.out w' (hB.trans (h.mono hB.size))
                have cp0 : ∀ w', Below wr.heap.size wr w' → w'.cell? ⟨w.heap.size + 1, 0, none⟩ = some (.int .u8 x) := fun w' h => HXP.out w' (hB.trans (h.mono hB.size)) 0 _ rfl
                have cp1 : ∀ w', Below wr.heap.size wr w' → w'.cell? ⟨w.heap.size + 1, 1, none⟩ = some (.int .u8 y) := fun w' h => HXP.out w' (hB.trans (h.mono hB.size)) 1 _ rfl
                have cp2 : ∀ w', Below wr.heap.size wr w' → w'.cell? ⟨w.heap.size + 1, 2, none⟩ = some (.int .i8 z) := fun w' h => HXP.out w' (hB.trans (h.mono hB.size)) 2 _ rfl
                have cq0 : ∀ w', Below wr.heap.size wr w' → w'.cell? ⟨b', o' + k * 3, none⟩ = some (.int .u8 r) := fun w' h => HXQ.out w' (hB.trans (h.mono hB.size)) 0 _ rfl
                have cq1 : ∀ w', Below wr.heap.size wr w' → w'.cell? ⟨b', o' + k * 3 + 1, none⟩ = some (.int .u8 s) := fun w' h => HXQ.out w' (hB.trans (h.mono hB.size)) 1 _ rfl
                have cq2 : ∀ w', Below wr.heap.size wr w' → w'.cell? ⟨b', o' + k * 3 + 2, none⟩ = some (.int .i8 t) := fun w' h => HXQ.out w' (hB.trans (h.mono hB.size)) 2 _ rfl
                have y28 := c28 wr (Below.refl _ _)
                go_wp2
                clear y28
                have HAH := hide (fun W => l01Ahead_any x y z r s t W)
                rw [hah] at HAH
                go_region_held3 (fun w' => Below wr.heap.size wr w') (first | exact (Below.refl _ _).drew | (refine Below.trans (by assumption) (Below.mono (by assumption) ?_); exact Below.size (by assumption))) (first | (go_at_call 97; refine (HAH.out _).mono ?_; rintro e w5 ⟨rfl, hb5⟩))
                have hb5w : Below wr.heap.size wr w5 := by assumption
                have B5 : Below w1.heap.size w1 w5 := hB.trans (hb5w.mono hB.size)
                have O5 := hide (own_go HOWN.out hb5w)
                clear c28 cp0 cp1 cp2 cq0 cq1 cq2 HAH
                have e28 : w5.cell? ⟨w.heap.size, 28, none⟩ = some (.slice (some ⟨b', o', none⟩) F.ps.length c) := (HX28.out w5 B5)
                have ep0 : w5.cell? ⟨w.heap.size + 1, 0, none⟩ = some (.int .u8 x) := HXP.out w5 B5 0 _ rfl
                have ep1 : w5.cell? ⟨w.heap.size + 1, 1, none⟩ = some (.int .u8 y) := HXP.out w5 B5 1 _ rfl
                have ep2 : w5.cell? ⟨w.heap.size + 1, 2, none⟩ = some (.int .i8 z) := HXP.out w5 B5 2 _ rfl
                have eq0 : w5.cell? ⟨b', o' + k * 3, none⟩ = some (.int .u8 r) := HXQ.out w5 B5 0 _ rfl
                have eq1 : w5.cell? ⟨b', o' + k * 3 + 1, none⟩ = some (.int .u8 s) := HXQ.out w5 B5 1 _ rfl
                have eq2 : w5.cell? ⟨b', o' + k * 3 + 2, none⟩ = some (.int .i8 t) := HXQ.out w5 B5 2 _ rfl
                have hA_w6 : PairsAt (w5.alloc (.cells #[.int .u8 x, .int .u8 y, .int .i8 z] 69)) (w5.alloc (.cells #[.int .u8 x, .int .u8 y, .int .i8 z] 69)).heap.size (some ⟨w5.heap.size, 0, none⟩) [(x, y, z)] := one_pair w5 _ _ _
                have z_w6 := B5.size
                go_wp2_with (at_builtin; refine wpList_append_pairsN rfl (.tmp 45) (.tmp 47) rfl w1.heap.size _ L.length L rfl (O5.out.alloc _) (by simp; omega) (some ⟨w5.heap.size, 0, none⟩) [(x, y, z)] 1 rfl (fun h => by cases h) (by simp; omega) hA_w6 ?_)
                intro v_w6 w6 hown_w6 hg_w6
                have hgg_w6 : w5.grownBy w6 _ := grown_trans (World.grownBy_alloc w5 _ _) hg_w6
                obtain ⟨A_w6, c_w6, rfl, hc_w6, _⟩ := pairsIn_of_own hown_w6 (by simp [List.length_append]) (Nat.le_trans z_w6 hgg_w6.size)
                have B_w6 := B5.trans (grown_toBelow hgg_w6 (by omega) (fun k hk => (O5.out.lt k hk).1))
                have O_w6 := hide hown_w6
                clear hown_w6 hg_w6 hgg_w6 hA_w6
                clear e28 ep0 ep1 ep2 eq0 eq1 eq2
                go_wp2
                have f28 : w6.cell? ⟨w.heap.size, 28, none⟩ = some (.slice (some ⟨b', o', none⟩) F.ps.length c) := (HX28.out w6 B_w6)
                have fp0 : w6.cell? ⟨w.heap.size + 1, 0, none⟩ = some (.int .u8 x) := HXP.out w6 B_w6 0 _ rfl
                have fp1 : w6.cell? ⟨w.heap.size + 1, 1, none⟩ = some (.int .u8 y) := HXP.out w6 B_w6 1 _ rfl
                have fp2 : w6.cell? ⟨w.heap.size + 1, 2, none⟩ = some (.int .i8 z) := HXP.out w6 B_w6 2 _ rfl
                have fq0 : w6.cell? ⟨b', o' + k * 3, none⟩ = some (.int .u8 r) := HXQ.out w6 B_w6 0 _ rfl
                have fq1 : w6.cell? ⟨b', o' + k * 3 + 1, none⟩ = some (.int .u8 s) := HXQ.out w6 B_w6 1 _ rfl
                have fq2 : w6.cell? ⟨b', o' + k * 3 + 2, none⟩ = some (.int .i8 t) := HXQ.out w6 B_w6 2 _ rfl
                cases hrx : (r != x)
                · cases hsy : (s != y)
                  · have HK := hide (show sameKey (r, s, t) (x, y, z) from ⟨by simpa using hrx, by simpa using hsy⟩)
                    have hn1 : (r != x) = false := hrx
                    have hn2 : (s != y) = false := hsy
                    have HF := hide (HSU.out.trans (show stN (x, y, z) (r, s, t) (L, false) = (L ++ ([(x, y, z)] ++ []), true) by unfold stN; simp only [Bool.not_false, hah]; rw [show (if sameKey (r, s, t) (x, y, z) then ([] : List Tri) else [(r, s, t)]) = [] from if_pos HK.out]; rfl))
                    go_wp2
                    go_quiet (fail)
                    have Bq := below_drewN B_w6 nq
                    have Oq := hide (own_go O_w6.out (below_drewN (Below.refl _ _) nq))
                    clear f28 fp0 fp1 fp2 fq0 fq1 fq2
                    go_wp2
                    refine ⟨⟨k + 1, by omega, by go_num, by rw [HF.out], ?_, Bq⟩, by simp [intOf]; omega⟩
                    rw [HF.out]
                    simpa using Oq.out
                  · have HK := hide (show ¬ sameKey (r, s, t) (x, y, z) from fun h => by rw [show s = y from h.2] at hsy; simp at hsy)
                    have hn1 : (r != x) = false := hrx
                    have hn2 : (s != y) = true := hsy
                    have HF := hide (HSU.out.trans (show stN (x, y, z) (r, s, t) (L, false) = (L ++ ([(x, y, z)] ++ [(r, s, t)]), true) by unfold stN; simp only [Bool.not_false, hah]; rw [show (if sameKey (r, s, t) (x, y, z) then ([] : List Tri) else [(r, s, t)]) = [(r, s, t)] from if_neg HK.out]; rfl))
                    go_wp2
                    go_quiet (fail)
                    have Bq := below_drewN B_w6 nq
                    have Oq := hide (own_go O_w6.out (below_drewN (Below.refl _ _) nq))
                    clear f28 fp0 fp1 fp2 fq0 fq1 fq2
                    generalize w6.drewN nq = wq at *
                    have g28 : wq.cell? ⟨w.heap.size, 28, none⟩ = some (.slice (some ⟨b', o', none⟩) F.ps.length c) := (HX28.out wq Bq)
                    have gp0 : wq.cell? ⟨w.heap.size + 1, 0, none⟩ = some (.int .u8 x) := HXP.out wq Bq 0 _ rfl
                    have gp1 : wq.cell? ⟨w.heap.size + 1, 1, none⟩ = some (.int .u8 y) := HXP.out wq Bq 1 _ rfl
                    have gp2 : wq.cell? ⟨w.heap.size + 1, 2, none⟩ = some (.int .i8 z) := HXP.out wq Bq 2 _ rfl
                    have gq0 : wq.cell? ⟨b', o' + k * 3, none⟩ = some (.int .u8 r) := HXQ.out wq Bq 0 _ rfl
                    have gq1 : wq.cell? ⟨b', o' + k * 3 + 1, none⟩ = some (.int .u8 s) := HXQ.out wq Bq 1 _ rfl
                    have gq2 : wq.cell? ⟨b', o' + k * 3 + 2, none⟩ = some (.int .i8 t) := HXQ.out wq Bq 2 _ rfl
                    have hA_wz : PairsAt (wq.alloc (.cells #[.int .u8 r, .int .u8 s, .int .i8 t] 69)) (wq.alloc (.cells #[.int .u8 r, .int .u8 s, .int .i8 t] 69)).heap.size (some ⟨wq.heap.size, 0, none⟩) [(r, s, t)] := one_pair wq _ _ _
                    have z_wz := Bq.size
                    go_wp2_with (at_builtin; refine wpList_append_pairsN rfl (.tmp 69) (.tmp 75) rfl w1.heap.size _ (L.length + 1) (L ++ [(x, y, z)]) rfl (Oq.out.alloc _) (by simp; omega) (some ⟨wq.heap.size, 0, none⟩) [(r, s, t)] 1 rfl (fun h => by cases h) (by simp; omega) hA_wz ?_)
                    intro v_wz wz hown_wz hg_wz
                    have hgg_wz : wq.grownBy wz _ := grown_trans (World.grownBy_alloc wq _ _) hg_wz
                    obtain ⟨A_wz, c_wz, rfl, hc_wz, _⟩ := pairsIn_of_own hown_wz (by simp [List.length_append]) (Nat.le_trans z_wz hgg_wz.size)
                    have B_wz := Bq.trans (grown_toBelow hgg_wz (by omega) (fun k hk => (Oq.out.lt k hk).1))
                    have O_wz := hide hown_wz
                    clear hown_wz hg_wz hgg_wz hA_wz
                    clear g28 gp0 gp1 gp2 gq0 gq1 gq2
                    go_wp2
                    refine ⟨⟨k + 1, by omega, by go_num, by rw [HF.out], ?_, B_wz⟩, by simp [intOf]; omega⟩
                    rw [HF.out]
                    simpa [List.append_assoc, Nat.add_assoc] using O_wz.out
                · have HK := hide (show ¬ sameKey (r, s, t) (x, y, z) from fun h => by rw [show r = x from h.1] at hrx; simp at hrx)
                  have hn1 : (r != x) = true := hrx
                  have HF := hide (HSU.out.trans (show stN (x, y, z) (r, s, t) (L, false) = (L ++ ([(x, y, z)] ++ [(r, s, t)]), true) by unfold stN; simp only [Bool.not_false, hah]; rw [show (if sameKey (r, s, t) (x, y, z) then ([] : List Tri) else [(r, s, t)]) = [(r, s, t)] from if_neg HK.out]; rfl))
                  go_wp2
                  go_quiet (fail)
                  have Bq := below_drewN B_w6 nq
                  have Oq := hide (own_go O_w6.out (below_drewN (Below.refl _ _) nq))
                  clear f28 fp0 fp1 fp2 fq0 fq1 fq2
                  generalize w6.drewN nq = wq at *
                  have g28 : wq.cell? ⟨w.heap.size, 28, none⟩ = some (.slice (some ⟨b', o', none⟩) F.ps.length c) := (HX28.out wq Bq)
                  have gp0 : wq.cell? ⟨w.heap.size + 1, 0, none⟩ = some (.int .u8 x) := HXP.out wq Bq 0 _ rfl
                  have gp1 : wq.cell? ⟨w.heap.size + 1, 1, none⟩ = some (.int .u8 y) := HXP.out wq Bq 1 _ rfl
                  have gp2 : wq.cell? ⟨w.heap.size + 1, 2, none⟩ = some (.int .i8 z) := HXP.out wq Bq 2 _ rfl
                  have gq0 : wq.cell? ⟨b', o' + k * 3, none⟩ = some (.int .u8 r) := HXQ.out wq Bq 0 _ rfl
                  have gq1 : wq.cell? ⟨b', o' + k * 3 + 1, none⟩ = some (.int .u8 s) := HXQ.out wq Bq 1 _ rfl
                  have gq2 : wq.cell? ⟨b', o' + k * 3 + 2, none⟩ = some (.int .i8 t) := HXQ.out wq Bq 2 _ rfl
                  have hA_wz : PairsAt (wq.alloc (.cells #[.int .u8 r, .int .u8 s, .int .i8 t] 69)) (wq.alloc (.cells #[.int .u8 r, .int .u8 s, .int .i8 t] 69)).heap.size (some ⟨wq.heap.size, 0, none⟩) [(r, s, t)] := one_pair wq _ _ _
                  have z_wz := Bq.size
                  go_wp2_with (at_builtin; refine wpList_append_pairsN rfl (.tmp 69) (.tmp 75) rfl w1.heap.size _ (L.length + 1) (L ++ [(x, y, z)]) rfl (Oq.out.alloc _) (by simp; omega) (some ⟨wq.heap.size, 0, none⟩) [(r, s, t)] 1 rfl (fun h => by cases h) (by simp; omega) hA_wz ?_)
                  intro v_wz wz hown_wz hg_wz
                  have hgg_wz : wq.grownBy wz _ := grown_trans (World.grownBy_alloc wq _ _) hg_wz
                  obtain ⟨A_wz, c_wz, rfl, hc_wz, _⟩ := pairsIn_of_own hown_wz (by simp [List.length_append]) (Nat.le_trans z_wz hgg_wz.size)
                  have B_wz := Bq.trans (grown_toBelow hgg_wz (by omega) (fun k hk => (Oq.out.lt k hk).1))
                  have O_wz := hide hown_wz
                  clear hown_wz hg_wz hgg_wz hA_wz
                  clear g28 gp0 gp1 gp2 gq0 gq1 gq2
                  go_wp2
                  refine ⟨⟨k + 1, by omega, by go_num, by rw [HF.out], ?_, B_wz⟩, by simp [intOf]; omega⟩
                  rw [HF.out]
                  simpa [List.append_assoc, Nat.add_assoc] using O_wz.out
            · have e28 : wr.cell? ⟨w.heap.size, 28, none⟩ = some (.slice (some ⟨b', o', none⟩) F.ps.length c) := (HX28.out wr hB)
              have ep0 : wr.cell? ⟨w.heap.size + 1, 0, none⟩ = some (.int .u8 x) := HXP.out wr hB 0 _ rfl
              have ep1 : wr.cell? ⟨w.heap.size + 1, 1, none⟩ = some (.int .u8 y) := HXP.out wr hB 1 _ rfl
              have ep2 : wr.cell? ⟨w.heap.size + 1, 2, none⟩ = some (.int .i8 z) := HXP.out wr hB 2 _ rfl
              have eq0 : wr.cell? ⟨b', o' + k * 3, none⟩ = some (.int .u8 r) := HXQ.out wr hB 0 _ rfl
              have eq1 : wr.cell? ⟨b', o' + k * 3 + 1, none⟩ = some (.int .u8 s) := HXQ.out wr hB 1 _ rfl
              have eq2 : wr.cell? ⟨b', o' + k * 3 + 2, none⟩ = some (.int .i8 t) := HXQ.out wr hB 2 _ rfl
              go_wp2
              go_quiet (fail)
              have B5 := below_drewN hB nq
              have O5 := hide (own_go HOWN.out (below_drewN (Below.refl _ _) nq))
              clear e28 ep0 ep1 ep2 eq0 eq1 eq2
              generalize wr.drewN nq = w5 at *
              go_wp2
              have f28 : w5.cell? ⟨w.heap.size, 28, none⟩ = some (.slice (some ⟨b', o', none⟩) F.ps.length c) := (HX28.out w5 B5)
              have fp0 : w5.cell? ⟨w.heap.size + 1, 0, none⟩ = some (.int .u8 x) := HXP.out w5 B5 0 _ rfl
              have fp1 : w5.cell? ⟨w.heap.size + 1, 1, none⟩ = some (.int .u8 y) := HXP.out w5 B5 1 _ rfl
              have fp2 : w5.cell? ⟨w.heap.size + 1, 2, none⟩ = some (.int .i8 z) := HXP.out w5 B5 2 _ rfl
              have fq0 : w5.cell? ⟨b', o' + k * 3, none⟩ = some (.int .u8 r) := HXQ.out w5 B5 0 _ rfl
              have fq1 : w5.cell? ⟨b', o' + k * 3 + 1, none⟩ = some (.int .u8 s) := HXQ.out w5 B5 1 _ rfl
              have fq2 : w5.cell? ⟨b', o' + k * 3 + 2, none⟩ = some (.int .i8 t) := HXQ.out w5 B5 2 _ rfl
              cases hrx : (r != x)
              · cases hsy : (s != y)
                · have HK := hide (show sameKey (r, s, t) (x, y, z) from ⟨by simpa using hrx, by simpa using hsy⟩)
                  have hn1 : (r != x) = false := hrx
                  have hn2 : (s != y) = false := hsy
                  have HF := hide (HSU.out.trans (show stN (x, y, z) (r, s, t) (L, true) = (L ++ ([] ++ []), true) by unfold stN; simp only [Bool.not_true, Bool.false_and]; rw [show (if sameKey (r, s, t) (x, y, z) then ([] : List Tri) else [(r, s, t)]) = [] from if_pos HK.out]; rfl))
                  go_wp2
                  go_quiet (fail)
                  have Bq := below_drewN B5 nq
                  have Oq := hide (own_go O5.out (below_drewN (Below.refl _ _) nq))
                  clear f28 fp0 fp1 fp2 fq0 fq1 fq2
                  go_wp2
                  refine ⟨⟨k + 1, by omega, by go_num, by rw [HF.out], ?_, Bq⟩, by simp [intOf]; omega⟩
                  rw [HF.out]
                  simpa using Oq.out
                · have HK := hide (show ¬ sameKey (r, s, t) (x, y, z) from fun h => by rw [show s = y from h.2] at hsy; simp at hsy)
                  have hn1 : (r != x) = false := hrx
                  have hn2 : (s != y) = true := hsy
                  have HF := hide (HSU.out.trans (show stN (x, y, z) (r, s, t) (L, true) = (L ++ ([] ++ [(r, s, t)]), true) by unfold stN; simp only [Bool.not_true, Bool.false_and]; rw [show (if sameKey (r, s, t) (x, y, z) then ([] : List Tri) else [(r, s, t)]) = [(r, s, t)] from if_neg HK.out]; rfl))
                  go_wp2
                  go_quiet (fail)
                  have Bq := below_drewN B5 nq
                  have Oq := hide (own_go O5.out (below_drewN (Below.refl _ _) nq))
                  clear f28 fp0 fp1 fp2 fq0 fq1 fq2
                  generalize w5.drewN nq = wq at *
                  have g28 : wq.cell? ⟨w.heap.size, 28, none⟩ = some (.slice (some ⟨b', o', none⟩) F.ps.length c) := (HX28.out wq Bq)
                  have gp0 : wq.cell? ⟨w.heap.size + 1, 0, none⟩ = some (.int .u8 x) := HXP.out wq Bq 0 _ rfl
                  have gp1 : wq.cell? ⟨w.heap.size + 1, 1, none⟩ = some (.int .u8 y) := HXP.out wq Bq 1 _ rfl
                  have gp2 : wq.cell? ⟨w.heap.size + 1, 2, none⟩ = some (.int .i8 z) := HXP.out wq Bq 2 _ rfl
                  have gq0 : wq.cell? ⟨b', o' + k * 3, none⟩ = some (.int .u8 r) := HXQ.out wq Bq 0 _ rfl
                  have gq1 : wq.cell? ⟨b', o' + k * 3 + 1, none⟩ = some (.int .u8 s) := HXQ.out wq Bq 1 _ rfl
                  have gq2 : wq.cell? ⟨b', o' + k * 3 + 2, none⟩ = some (.int .i8 t) := HXQ.out wq Bq 2 _ rfl
                  have hA_wz : PairsAt (wq.alloc (.cells #[.int .u8 r, .int .u8 s, .int .i8 t] 69)) (wq.alloc (.cells #[.int .u8 r, .int .u8 s, .int .i8 t] 69)).heap.size (some ⟨wq.heap.size, 0, none⟩) [(r, s, t)] := one_pair wq _ _ _
                  have z_wz := Bq.size
                  go_wp2_with (at_builtin; refine wpList_append_pairsN rfl (.tmp 69) (.tmp 75) rfl w1.heap.size _ L.length L rfl (Oq.out.alloc _) (by simp; omega) (some ⟨wq.heap.size, 0, none⟩) [(r, s, t)] 1 rfl (fun h => by cases h) (by simp; omega) hA_wz ?_)
                  intro v_wz wz hown_wz hg_wz
                  have hgg_wz : wq.grownBy wz _ := grown_trans (World.grownBy_alloc wq _ _) hg_wz
                  obtain ⟨A_wz, c_wz, rfl, hc_wz, _⟩ := pairsIn_of_own hown_wz (by simp [List.length_append]) (Nat.le_trans z_wz hgg_wz.size)
                  have B_wz := Bq.trans (grown_toBelow hgg_wz (by omega) (fun k hk => (Oq.out.lt k hk).1))
                  have O_wz := hide hown_wz
                  clear hown_wz hg_wz hgg_wz hA_wz
                  clear g28 gp0 gp1 gp2 gq0 gq1 gq2
                  go_wp2
                  refine ⟨⟨k + 1, by omega, by go_num, by rw [HF.out], ?_, B_wz⟩, by simp [intOf]; omega⟩
                  rw [HF.out]
                  simpa [List.append_assoc, Nat.add_assoc] using O_wz.out
              · have HK := hide (show ¬ sameKey (r, s, t) (x, y, z) from fun h => by rw [show r = x from h.1] at hrx; simp at hrx)
                have hn1 : (r != x) = true := hrx
                have HF := hide (HSU.out.trans (show stN (x, y, z) (r, s, t) (L, true) = (L ++ ([] ++ [(r, s, t)]), true) by unfold stN; simp only [Bool.not_true, Bool.false_and]; rw [show (if sameKey (r, s, t) (x, y, z) then ([] : List Tri) else [(r, s, t)]) = [(r, s, t)] from if_neg HK.out]; rfl))
                go_wp2
                go_quiet (fail)
                have Bq := below_drewN B5 nq
                have Oq := hide (own_go O5.out (below_drewN (Below.refl _ _) nq))
                clear f28 fp0 fp1 fp2 fq0 fq1 fq2
                generalize w5.drewN nq = wq at *
                have g28 : wq.cell? ⟨w.heap.size, 28, none⟩ = some (.slice (some ⟨b', o', none⟩) F.ps.length c) := (HX28.out wq Bq)
                have gp0 : wq.cell? ⟨w.heap.size + 1, 0, none⟩ = some (.int .u8 x) := HXP.out wq Bq 0 _ rfl
                have gp1 : wq.cell? ⟨w.heap.size + 1, 1, none⟩ = some (.int .u8 y) := HXP.out wq Bq 1 _ rfl
                have gp2 : wq.cell? ⟨w.heap.size + 1, 2, none⟩ = some (.int .i8 z) := HXP.out wq Bq 2 _ rfl
                have gq0 : wq.cell? ⟨b', o' + k * 3, none⟩ = some (.int .u8 r) := HXQ.out wq Bq 0 _ rfl
                have gq1 : wq.cell? ⟨b', o' + k * 3 + 1, none⟩ = some (.int .u8 s) := HXQ.out wq Bq 1 _ rfl
                have gq2 : wq.cell? ⟨b', o' + k * 3 + 2, none⟩ = some (.int .i8 t) := HXQ.out wq Bq 2 _ rfl
                have hA_wz : PairsAt (wq.alloc (.cells #[.int .u8 r, .int .u8 s, .int .i8 t] 69)) (wq.alloc (.cells #[.int .u8 r, .int .u8 s, .int .i8 t] 69)).heap.size (some ⟨wq.heap.size, 0, none⟩) [(r, s, t)] := one_pair wq _ _ _
                have z_wz := Bq.size
                go_wp2_with (at_builtin; refine wpList_append_pairsN rfl (.tmp 69) (.tmp 75) rfl w1.heap.size _ L.length L rfl (Oq.out.alloc _) (by simp; omega) (some ⟨wq.heap.size, 0, none⟩) [(r, s, t)] 1 rfl (fun h => by cases h) (by simp; omega) hA_wz ?_)
                intro v_wz wz hown_wz hg_wz
                have hgg_wz : wq.grownBy wz _ := grown_trans (World.grownBy_alloc wq _ _) hg_wz
                obtain ⟨A_wz, c_wz, rfl, hc_wz, _⟩ := pairsIn_of_own hown_wz (by simp [List.length_append]) (Nat.le_trans z_wz hgg_wz.size)
                have B_wz := Bq.trans (grown_toBelow hgg_wz (by omega) (fun k hk => (Oq.out.lt k hk).1))
                have O_wz := hide hown_wz
                clear hown_wz hg_wz hgg_wz hA_wz
                clear g28 gp0 gp1 gp2 gq0 gq1 gq2
                go_wp2
                refine ⟨⟨k + 1, by omega, by go_num, by rw [HF.out], ?_, B_wz⟩, by simp [intOf]; omega⟩
                rw [HF.out]
                simpa [List.append_assoc, Nat.add_assoc] using O_wz.out
          · obtain rfl : k = F.ps.length := by omega
            have HAL := HALL.out
            generalize hst : stP F.ps (x, y, z) D F.ps.length = st at *
            obtain ⟨L, d0⟩ := st
            dsimp only at hln HOWN hcb HAL ⊢
            have x28 := rangeAt_cell (rangeAt_below (rangeAt_below r0 hb1 (by omega)) hB (Nat.lt_of_lt_of_le (by omega) hb1.size)) (fc_sl hW.out _)
            have hpp := rangeAt_below (rangeAt_below p0 hb1 (by omega)) hB (Nat.lt_of_lt_of_le (by omega) hb1.size)
            have xp0 : wr.cell? ⟨w.heap.size + 1, 0, none⟩ = some (.int .u8 x) := hpp 0 _ rfl
            have xp1 : wr.cell? ⟨w.heap.size + 1, 1, none⟩ = some (.int .u8 y) := hpp 1 _ rfl
            have xp2 : wr.cell? ⟨w.heap.size + 1, 2, none⟩ = some (.int .i8 z) := hpp 2 _ rfl
            clear hpp hst
            cases d0
            · have HPUT : Hid (putL F.ps (x, y, z) = L ++ [(x, y, z)]) := hide (by rw [HAL]; rfl)
              clear HAL
              have hA_w5 : PairsAt (wr.alloc (.cells #[.int .u8 x, .int .u8 y, .int .i8 z] 69)) (wr.alloc (.cells #[.int .u8 x, .int .u8 y, .int .i8 z] 69)).heap.size (some ⟨wr.heap.size, 0, none⟩) [(x, y, z)] := one_pair wr _ _ _
              have z_w5 := hB.size
              go_wp2_with (at_builtin; refine wpList_append_pairsN rfl (.tmp 79) (.tmp 81) rfl w1.heap.size _ L.length L rfl (HOWN.out.alloc _) (by simp; omega) (some ⟨wr.heap.size, 0, none⟩) [(x, y, z)] 1 rfl (fun h => by cases h) (by simp; omega) hA_w5 ?_)
              intro v_w5 w5 hown_w5 hg_w5
              have hgg_w5 : wr.grownBy w5 _ := grown_trans (World.grownBy_alloc wr _ _) hg_w5
              obtain ⟨A_w5, c_w5, rfl, hc_w5, _⟩ := pairsIn_of_own hown_w5 (by simp [List.length_append]) (Nat.le_trans z_w5 hgg_w5.size)
              have B_w5 := hB.trans (grown_toBelow hgg_w5 (by omega) (fun k hk => (HOWN.out.lt k hk).1))
              have O_w5 := hide hown_w5
              clear hown_w5 hg_w5 hgg_w5 hA_w5
              clear x28 xp0 xp1 xp2
              obtain ⟨A9, c9, e5, hc9, hP5⟩ := pairsIn_of_own O_w5.out (by simp) B_w5.size
              injection e5 with e51 e52 e53
              rw [← e51] at hP5
              clear e51 e52 e53
              obtain ⟨m, hm⟩ : ∃ m, L.length + 1 = m := ⟨_, rfl⟩
              have hmm : (putF F (x, y, z)).ps.length = m := by show (putL F.ps (x, y, z)).length = m; rw [HPUT.out, ← hm]; try simp
              have B1 := b0.trans ((hb1.trans (B_w5.mono hb1.size)).mono b0.size)
              have BW := hb1.trans (B_w5.mono hb1.size)
              have s5 := Nat.lt_of_lt_of_le s0 BW.size
              have r5 := rangeAt_below r0 BW (by omega)
              have t5 := there_below t0 BW (by omega)
              have z5 : w5.there (w.heap.size + 1 + 1) 0 zc.toArray.size := there_below z0 BW s0
              have v28 := rangeAt_cell r5 (fc_sl hW.out _)
              have k28 := (t5 28 (by omega)).2
              simp only [Nat.zero_add] at k28
              obtain ⟨W4, hW4⟩ : ∃ W4, W4 = w5.setCell ⟨w.heap.size, 28, none⟩ (.slice A_w5 m c_w5) := ⟨_, rfl⟩
              have r4 : W4.rangeAt w.heap.size 0 (fc (putF F (x, y, z)) (.slice A_w5 (putF F (x, y, z)).ps.length c_w5)) := by rw [hW4, hmm]; exact fc_slot hW.out r5 _
              have z4 : W4.there (w.heap.size + 1 + 1) 0 zc.toArray.size := by rw [hW4]; exact there_set z5 _ _
              have hB4 : Below w.heap.size w W4 := by rw [hW4]; exact B1.setCell (p := ⟨w.heap.size, 28, none⟩) (Nat.le_refl _) _
              have hP4 : PairsIn W4 w1.heap.size A_w5 (putF F (x, y, z)).ps := by
                show PairsIn W4 w1.heap.size A_w5 (putL F.ps (x, y, z))
                rw [hW4, HPUT.out]
                intro hne
                obtain ⟨b', o', e, h1, h2, h3, h4⟩ := hP5 hne
                have hz1 := hb1.size
                exact ⟨b', o', e, h1, by rw [size_setCell]; exact h2, fun k p hp => rangeAt_off (h3 k p hp) (.inl (by omega)) _, there_set h4 _ _⟩
              have s4 : w.heap.size + 1 + 1 < W4.heap.size := by rw [hW4, size_setCell]; exact s5
              have HW4 := hide hW4
              have HSHA := hide (l01Shape_any (putF F (x, y, z)) hFp w.heap.size A_w5 c_w5 W4 r4 hP4.at_)
              have hz1 := hb1.size
              rw [← HSH.out] at HSHA
              have HMM := hide hmm
              clear hmm
              rw [hm]
              clear hW4 hP5 r5 t5
              go_wp2_with fail
              rw [← HW4.out]
              refine HSHA.out.mono ?_
              rintro e w6 ⟨rfl, hb6⟩
              have hB6 := hB4.trans (hb6.mono hB4.size)
              have r6 := rangeAt_below r4 hb6 (by omega)
              rw [HMM.out] at r6
              have z6 : w6.there (w.heap.size + 1 + 1) 0 zc.toArray.size := there_below z4 hb6 s4
              have hP6 := hP4.below hb6 (Nat.le_refl _)
              clear v28 k28 HSHA
              cases hst2 : stB F (x, y, z)
              · have HP := hide (HSTA.out hst2)
                go_wp2_with (refine wpList_store_mid rfl 65 (.tmp 4) (.tmp 87) rfl (w.heap.size + 1 + 1) 0 zc.toArray rfl rfl z6 HI29.out (by kernel_rfl) ?_)
                refine bodyPost_ret (results_mid2 rfl _ _ (w.heap.size + 1 + 1) 0 zc _ rfl (zc_row z6) Try.underlying65 rfl HI29.out) rfl (back_zero (HR.out.symm.trans HP.out.1) (by show Value.int .i64 _ = _; rw [← HCo.out, HP.out.2]) (hB6) (by omega))
              · by_cases h12 : m ≤ 12
                · have HP := hide (HOK.out hst2 (by rw [show (putL F.ps (x, y, z)).length = m from HMM.out]; exact h12))
                  have hi : ¬ (12 : Int) < m := by omega
                  have z7 : w6.there (w.heap.size + 1 + 1) 0 (fc (putF F (x, y, z)) (.slice A_w5 m c_w5)).toArray.size := by simp only [List.size_toArray]; rw [fc_length (F := putF F (x, y, z)) hW.out]; exact z6
                  go_wp2_with (first | (refine wpList_load_mid rfl 65 (.tmp 2) rfl _ 0 rfl _ _ r6 Try.underlying65 rfl (HII.out (putF F (x, y, z)) hW.out _) ?_) | (refine wpList_store_mid rfl 65 (.tmp 4) (.tmp 92) rfl (w.heap.size + 1 + 1) 0 _ rfl rfl z7 (HII.out (putF F (x, y, z)) hW.out _) (fc_one _ _ _ _) ?_))
                  refine bodyPost_ret (results_mid2 rfl _ _ (w.heap.size + 1 + 1) 0 (fc (putF F (x, y, z)) (.slice A_w5 m c_w5)) _ rfl (World.rangeAt_setCells_same _ _ _ _ z7) Try.underlying65 rfl (HII.out (putF F (x, y, z)) hW.out _)) rfl ?_
                  have e1 : R = putF F (x, y, z) := HR.out.symm.trans HP.out.1
                  have e2 : C = 0 := HCo.out.symm.trans HP.out.2
                  subst e1; subst e2
                  refine ⟨A_w5, c_w5, by rw [HMM.out]; rfl, ?_, below_setCells _ _ _ _ hB6 (by omega)⟩
                  intro hne
                  obtain ⟨b', o', e, h1, h2, h3, h4⟩ := hP6 hne
                  have hzz := b0.size
                  exact ⟨b', o', e, by omega, by rw [size_setCells]; exact h2, fun k p hp => World.rangeAt_setCells_apart (h3 k p hp) _ _ _ (.inl (by omega)), World.there_setCells h4 _ _ _⟩
                · have HP := hide (HLIM.out hst2 (by rw [show (putL F.ps (x, y, z)).length = m from HMM.out]; exact h12))
                  have hi : (12 : Int) < m := by omega
                  go_wp2_with (refine wpList_store_mid rfl 65 (.tmp 4) (.tmp 91) rfl (w.heap.size + 1 + 1) 0 zc.toArray rfl rfl z6 HI29.out (by kernel_rfl) ?_)
                  refine bodyPost_ret (results_mid2 rfl _ _ (w.heap.size + 1 + 1) 0 zc _ rfl (zc_row z6) Try.underlying65 rfl HI29.out) rfl (back_zero (HR.out.symm.trans HP.out.1) (by show Value.int .i64 _ = _; rw [← HCo.out, HP.out.2]) (hB6) (by omega))
            · have HPUT : Hid (putL F.ps (x, y, z) = L) := hide (by rw [HAL]; simp)
              clear HAL xp0 xp1 xp2
              obtain ⟨A9, c9, e5, hc9, hP5⟩ := pairsIn_of_own HOWN.out (by simp) hB.size
              injection e5 with e51 e52 e53
              rw [← e51] at hP5
              clear e51 e52 e53
              obtain ⟨m, hm⟩ : ∃ m, L.length = m := ⟨_, rfl⟩
              have hmm : (putF F (x, y, z)).ps.length = m := by show (putL F.ps (x, y, z)).length = m; rw [HPUT.out, ← hm]; try simp
              have B1 := b0.trans ((hb1.trans (hB.mono hb1.size)).mono b0.size)
              have BW := hb1.trans (hB.mono hb1.size)
              have s5 := Nat.lt_of_lt_of_le s0 BW.size
              have r5 := rangeAt_below r0 BW (by omega)
              have t5 := there_below t0 BW (by omega)
              have z5 : wr.there (w.heap.size + 1 + 1) 0 zc.toArray.size := there_below z0 BW s0
              have v28 := rangeAt_cell r5 (fc_sl hW.out _)
              have k28 := (t5 28 (by omega)).2
              simp only [Nat.zero_add] at k28
              obtain ⟨W4, hW4⟩ : ∃ W4, W4 = wr.setCell ⟨w.heap.size, 28, none⟩ (.slice Ab m cb) := ⟨_, rfl⟩
              have r4 : W4.rangeAt w.heap.size 0 (fc (putF F (x, y, z)) (.slice Ab (putF F (x, y, z)).ps.length cb)) := by rw [hW4, hmm]; exact fc_slot hW.out r5 _
              have z4 : W4.there (w.heap.size + 1 + 1) 0 zc.toArray.size := by rw [hW4]; exact there_set z5 _ _
              have hB4 : Below w.heap.size w W4 := by rw [hW4]; exact B1.setCell (p := ⟨w.heap.size, 28, none⟩) (Nat.le_refl _) _
              have hP4 : PairsIn W4 w1.heap.size Ab (putF F (x, y, z)).ps := by
                show PairsIn W4 w1.heap.size Ab (putL F.ps (x, y, z))
                rw [hW4, HPUT.out]
                intro hne
                obtain ⟨b', o', e, h1, h2, h3, h4⟩ := hP5 hne
                have hz1 := hb1.size
                exact ⟨b', o', e, h1, by rw [size_setCell]; exact h2, fun k p hp => rangeAt_off (h3 k p hp) (.inl (by omega)) _, there_set h4 _ _⟩
              have s4 : w.heap.size + 1 + 1 < W4.heap.size := by rw [hW4, size_setCell]; exact s5
              have HW4 := hide hW4
              have HSHA := hide (l01Shape_any (putF F (x, y, z)) hFp w.heap.size Ab cb W4 r4 hP4.at_)
              have hz1 := hb1.size
              rw [← HSH.out] at HSHA
              have HMM := hide hmm
              clear hmm
              rw [hm]
              clear hW4 hP5 r5 t5
              go_wp2_with fail
              rw [← HW4.out]
              refine HSHA.out.mono ?_
              rintro e w6 ⟨rfl, hb6⟩
              have hB6 := hB4.trans (hb6.mono hB4.size)
              have r6 := rangeAt_below r4 hb6 (by omega)
              rw [HMM.out] at r6
              have z6 : w6.there (w.heap.size + 1 + 1) 0 zc.toArray.size := there_below z4 hb6 s4
              have hP6 := hP4.below hb6 (Nat.le_refl _)
              clear v28 k28 HSHA
              cases hst2 : stB F (x, y, z)
              · have HP := hide (HSTA.out hst2)
                go_wp2_with (refine wpList_store_mid rfl 65 (.tmp 4) (.tmp 87) rfl (w.heap.size + 1 + 1) 0 zc.toArray rfl rfl z6 HI29.out (by kernel_rfl) ?_)
                refine bodyPost_ret (results_mid2 rfl _ _ (w.heap.size + 1 + 1) 0 zc _ rfl (zc_row z6) Try.underlying65 rfl HI29.out) rfl (back_zero (HR.out.symm.trans HP.out.1) (by show Value.int .i64 _ = _; rw [← HCo.out, HP.out.2]) (hB6) (by omega))
              · by_cases h12 : m ≤ 12
                · have HP := hide (HOK.out hst2 (by rw [show (putL F.ps (x, y, z)).length = m from HMM.out]; exact h12))
                  have hi : ¬ (12 : Int) < m := by omega
                  have z7 : w6.there (w.heap.size + 1 + 1) 0 (fc (putF F (x, y, z)) (.slice Ab m cb)).toArray.size := by simp only [List.size_toArray]; rw [fc_length (F := putF F (x, y, z)) hW.out]; exact z6
                  go_wp2_with (first | (refine wpList_load_mid rfl 65 (.tmp 2) rfl _ 0 rfl _ _ r6 Try.underlying65 rfl (HII.out (putF F (x, y, z)) hW.out _) ?_) | (refine wpList_store_mid rfl 65 (.tmp 4) (.tmp 92) rfl (w.heap.size + 1 + 1) 0 _ rfl rfl z7 (HII.out (putF F (x, y, z)) hW.out _) (fc_one _ _ _ _) ?_))
                  refine bodyPost_ret (results_mid2 rfl _ _ (w.heap.size + 1 + 1) 0 (fc (putF F (x, y, z)) (.slice Ab m cb)) _ rfl (World.rangeAt_setCells_same _ _ _ _ z7) Try.underlying65 rfl (HII.out (putF F (x, y, z)) hW.out _)) rfl ?_
                  have e1 : R = putF F (x, y, z) := HR.out.symm.trans HP.out.1
                  have e2 : C = 0 := HCo.out.symm.trans HP.out.2
                  subst e1; subst e2
                  refine ⟨Ab, cb, by rw [HMM.out]; rfl, ?_, below_setCells _ _ _ _ hB6 (by omega)⟩
                  intro hne
                  obtain ⟨b', o', e, h1, h2, h3, h4⟩ := hP6 hne
                  have hzz := b0.size
                  exact ⟨b', o', e, by omega, by rw [size_setCells]; exact h2, fun k p hp => World.rangeAt_setCells_apart (h3 k p hp) _ _ _ (.inl (by omega)), World.there_setCells h4 _ _ _⟩
                · have HP := hide (HLIM.out hst2 (by rw [show (putL F.ps (x, y, z)).length = m from HMM.out]; exact h12))
                  have hi : (12 : Int) < m := by omega
                  go_wp2_with (refine wpList_store_mid rfl 65 (.tmp 4) (.tmp 91) rfl (w.heap.size + 1 + 1) 0 zc.toArray rfl rfl z6 HI29.out (by kernel_rfl) ?_)
                  refine bodyPost_ret (results_mid2 rfl _ _ (w.heap.size + 1 + 1) 0 zc _ rfl (zc_row z6) Try.underlying65 rfl HI29.out) rfl (back_zero (HR.out.symm.trans HP.out.1) (by show Value.int .i64 _ = _; rw [← HCo.out, HP.out.2]) (hB6) (by omega))
end Go.Proofs.Ytkbemhjeflmppaa
