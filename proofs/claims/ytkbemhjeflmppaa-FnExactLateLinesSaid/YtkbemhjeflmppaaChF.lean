/- Lines that are late in an order, of both; LateLines. -/
import Derived.Test.YtkbemhjeflmppaaChE
namespace Go.Proofs.Ytkbemhjeflmppaa
open Go Go.RowKit

/-- When the first k lines of an order are ready. -/
def rdT (ts os : List Int) : Nat → Int
  | 0 => 0
  | k + 1 => rdT ts os k + ts.getD (os.getD k 0).toNat 0
/-- Those of the first k lines of an order that are late. -/
def ltT (ts ds os : List Int) : Nat → List Int
  | 0 => []
  | k + 1 => if ds.getD (os.getD k 0).toNat 0 < rdT ts os (k + 1) then ltT ts ds os k ++ [os.getD k 0] else ltT ts ds os k
theorem rdT_succ {ts os : List Int} {k j : Nat} {t : Int} (h : os[k]? = some (j : Int)) (ht : ts[j]? = some t) : rdT ts os (k + 1) = rdT ts os k + t := by
  show rdT ts os k + ts.getD (os.getD k 0).toNat 0 = _; rw [getD_of h, Int.toNat_natCast, getD_of ht]
theorem ltT_new {ts ds os : List Int} {k j : Nat} {d : Int} (h : os[k]? = some (j : Int)) (hd : ds[j]? = some d) (hlt : d < rdT ts os (k + 1)) : ltT ts ds os (k + 1) = ltT ts ds os k ++ [(j : Int)] := by
  show (if ds.getD (os.getD k 0).toNat 0 < rdT ts os (k + 1) then _ else _) = _; rw [getD_of h, Int.toNat_natCast, getD_of hd, if_pos hlt]
theorem ltT_old {ts ds os : List Int} {k j : Nat} {d : Int} (h : os[k]? = some (j : Int)) (hd : ds[j]? = some d) (hlt : ¬ d < rdT ts os (k + 1)) : ltT ts ds os (k + 1) = ltT ts ds os k := by
  show (if ds.getD (os.getD k 0).toNat 0 < rdT ts os (k + 1) then _ else _) = _; rw [getD_of h, Int.toNat_natCast, getD_of hd, if_neg hlt]
theorem ltT_len (ts ds os : List Int) : ∀ k, (ltT ts ds os k).length ≤ k
  | 0 => by simp [ltT]
  | k + 1 => by
    have ih := ltT_len ts ds os k
    rw [ltT]; split
    · rw [List.length_append]; simp; exact ih
    · omega
theorem rdT_bd {ts os : List Int} (h : ∀ x ∈ ts, 1 ≤ x ∧ x ≤ 100000) : ∀ k, 0 ≤ rdT ts os k ∧ rdT ts os k ≤ 100000 * k
  | 0 => by simp [rdT]
  | k + 1 => by
    have ih := rdT_bd (os := os) h k
    have hb : 0 ≤ ts.getD (os.getD k 0).toNat 0 ∧ ts.getD (os.getD k 0).toNat 0 ≤ 100000 := by
      by_cases hl : (os.getD k 0).toNat < ts.length
      · rw [List.getD_eq_getElem?_getD, List.getElem?_eq_getElem hl, Option.getD_some]
        have := h _ (List.getElem_mem hl); omega
      · rw [List.getD_eq_getElem?_getD, List.getElem?_eq_none (by omega)]; simp
    rw [rdT]
    omega

set_option maxRecDepth 100000 in
set_option maxHeartbeats 8000000 in
theorem l05Late_any (A : Option Addr) (ts : List Int) (c : Nat) (D : Option Addr) (ds : List Int) (cd : Nat) (O : Option Addr) (os : List Int) (co : Nat) (w : World) (hl : ds.length = ts.length) (ht : ∀ x ∈ ts, 1 ≤ x ∧ x ≤ 100000) (ho : ∀ x ∈ os, 0 ≤ x ∧ x < ts.length) (hn : os.length ≤ 12) (hnt : ts.length ≤ 12)
    (hA : IntsAt w w.heap.size A ts) (hD : IntsAt w w.heap.size D ds) (hO : IntsAt w w.heap.size O os) :
    Calls Try.prog 66 #[.slice A ts.length c, .slice D ds.length cd, .slice O os.length co] w (IntsB (ltT ts ds os os.length) w) := by
  obtain ⟨i0, hi0, hz0, hz1, hz2⟩ := info_parts Try.infoI64
  have HA := hide hA
  have HD := hide hD
  have HO := hide hO
  have HT := hide ht
  have HOO := hide ho
  have HRB := hide (rdT_bd (os := os) ht)
  have HLB := hide (ltT_len ts ds os)
  obtain ⟨n, hN⟩ : ∃ n, os.length = n := ⟨_, rfl⟩
  obtain ⟨m, hM⟩ : ∃ m, ts.length = m := ⟨_, rfl⟩
  have HN := hide hN
  have HM := hide hM
  have HDL := hide (hl.trans hM)
  rw [hl, hM] 
  rw [hN] at hn ⊢
  rw [hM] at hnt
  clear hN hM hl hA hD hO ht ho
  go_enter Try.func66, Try.ntmps66
  go_wp2
  go_loopw [7, 8, 9] (fun br rd i wr => ∃ k : Nat, k ≤ n ∧ i = .int .i64 k ∧ rd = .int .i64 (rdT ts os k) ∧ wr.ownsRow w.heap.size 2 1 br (ltT ts ds os k).length ((ltT ts ds os k).map (.int .i64)) ∧ Below w.heap.size w wr)
    (fun _ _ i _ => n - (intOf i).toNat)
  case atStart => exact ⟨0, Nat.zero_le _, rfl, rfl, World.ownsRow_made w _ 0 (Nat.le_refl _) (by unfold maxLen; omega) rfl, (Below.refl _ _).alloc (Nat.le_refl _) _⟩
  case round =>
    obtain ⟨k, hk, rfl, rfl, hown, hB⟩ := hrel
    obtain ⟨Ab, cbb, rfl, hcap, _⟩ := cellsIn_of_own hown (by omega)
    have hbs := hB.size
    have HOWN := hide hown
    have hll := HLB.out k
    clear hown
    by_cases hlt : k < n
    · obtain ⟨b, o, rfl, hb, hxs⟩ := HO.out (by intro e; rw [e] at HN; have := HN.out; simp at this; omega)
      obtain ⟨x, hx⟩ : ∃ x, os[k]? = some x := ⟨os[k]'(by rw [HN.out]; exact hlt), List.getElem?_eq_getElem _⟩
      have c0 : wr.cell? ⟨b, o + k, none⟩ = some (.int .i64 x) := (hB.cell (p := ⟨b, o + k, none⟩) hb).trans (hxs k x hx)
      obtain ⟨hx1, hx2⟩ := HOO.out x (List.mem_of_getElem? hx)
      obtain ⟨j, rfl⟩ : ∃ j : Nat, x = j := ⟨x.toNat, by omega⟩
      have hj : j < m := by rw [HM.out] at hx2; omega
      obtain ⟨bt, ot, rfl, hbt, hts⟩ := HA.out (by intro e; rw [e] at HM; have := HM.out; simp at this; omega)
      obtain ⟨bd, od, rfl, hbd, hds⟩ := HD.out (by intro e; rw [e] at HDL; have := HDL.out; simp at this; omega)
      obtain ⟨t, hjt⟩ : ∃ t, ts[j]? = some t := ⟨ts[j]'(by rw [HM.out]; exact hj), List.getElem?_eq_getElem _⟩
      obtain ⟨d, hjd⟩ : ∃ d, ds[j]? = some d := ⟨ds[j]'(by rw [HDL.out]; exact hj), List.getElem?_eq_getElem _⟩
      have c1 : wr.cell? ⟨bt, ot + j, none⟩ = some (.int .i64 t) := (hB.cell (p := ⟨bt, ot + j, none⟩) hbt).trans (hts j t hjt)
      have c2 : wr.cell? ⟨bd, od + j, none⟩ = some (.int .i64 d) := (hB.cell (p := ⟨bd, od + j, none⟩) hbd).trans (hds j d hjd)
      obtain ⟨ht1, ht2⟩ := HT.out t (List.mem_of_getElem? hjt)
      have hi : (k : Int) < n := by omega
      have hk0 : (0 : Int) ≤ k := by omega
      have hji : (j : Int) < m := by omega
      have hj0 : (0 : Int) ≤ j := by omega
      obtain ⟨hr1, hr2⟩ := HRB.out k
      have HRS := hide (rdT_succ (ts := ts) hx hjt)
      have HLS := hide (fun h => ltT_new (ts := ts) (ds := ds) hx hjd h)
      have HLO := hide (fun h => ltT_old (ts := ts) (ds := ds) hx hjd h)
      clear hxs hx hts hds hjt hjd hx1 hx2
      obtain ⟨r, hr⟩ : ∃ r, rdT ts os k = r := ⟨_, rfl⟩
      have HRR := hide hr
      rw [hr] at hr1 hr2 ⊢
      clear hr
      cases hgt : decide (d < r + t)
      · have HE := hide (HLO.out (by rw [HRS.out, HRR.out]; simpa using hgt))
        go_wp2
        refine ⟨⟨k + 1, by omega, by go_num, by rw [HRS.out, HRR.out], ?_, hB⟩, by simp [intOf]; omega⟩
        rw [HE.out]
        exact HOWN.out
      · have HE := hide (HLS.out (by rw [HRS.out, HRR.out]; simpa using hgt))
        go_wp2_with (at_builtin; refine wpList_append_own _ rfl (.tmp 35) (.tmp 40) 35 rfl w.heap.size 2 i0 (.int .i64 0) 1 8 Try.underlying35 hi0 hz0 hz1 hz2 rfl (by decide) _ (ltT ts ds os k).length _ rfl (HOWN.out.alloc _) ⟨wr.heap.size, 0, none⟩ 1 1 [.int .i64 ((j : Int))] rfl rfl (one_cell _) (one_one rfl) ?h1 ?h2 ?h3 ?_)
        case h1 => unfold maxLen; omega
        case h2 => omega
        case h3 => first | omega | (simp; omega) | simp
        intro v' w4 hown4 hg4 _
        obtain ⟨A4, c4, rfl, _, _⟩ := cellsIn_of_own hown4 (by omega)
        have H4 := hide hown4
        have hg34 : wr.grownBy w4 _ := grown_trans (World.grownBy_alloc wr _ _) hg4
        have hB4 := hB.trans (grown_toBelow hg34 (by omega) (fun k hk => (HOWN.out.lt k hk).1))
        clear hown4 hg4 hg34
        go_wp2
        refine ⟨⟨k + 1, by omega, by go_num, by rw [HRS.out, HRR.out], ?_, hB4⟩, by simp [intOf]; omega⟩
        rw [HE.out, List.map_append, List.length_append]
        exact H4.out
    · obtain rfl : k = n := by omega
      obtain ⟨Ag, cg, e, _, hI⟩ := intsIn_of_own HOWN.out
      injection e with e1 e2 e3
      subst e1 e3
      have HI := hide hI
      clear hI
      go_wp2
      go_ret
      exact ⟨Ab, cbb, rfl, hcap, HI.out, hB⟩

set_option maxRecDepth 100000 in
set_option maxHeartbeats 8000000 in
theorem lateIn_any (A : Option Addr) (ts : List Int) (c : Nat) (D : Option Addr) (ds : List Int) (cd : Nat) (O : Option Addr) (os : List Int) (co : Nat) (w : World) (hl : ds.length = ts.length) (ht : ∀ x ∈ ts, 1 ≤ x ∧ x ≤ 100000) (ho : ∀ x ∈ os, 0 ≤ x ∧ x < ts.length) (hn : os.length ≤ 12) (hnt : ts.length ≤ 12)
    (hA : IntsAt w w.heap.size A ts) (hD : IntsAt w w.heap.size D ds) (hO : IntsAt w w.heap.size O os) :
    Calls Try.prog 69 #[.slice A ts.length c, .slice D ds.length cd, .slice O os.length co] w (IntsB (ltT ts ds os os.length) w) := by
  obtain ⟨i0, hi0, hz0, hz1, hz2⟩ := info_parts Try.infoI64
  have HA := hide hA
  have HD := hide hD
  have HO := hide hO
  have HT := hide ht
  have HOO := hide ho
  have HRB := hide (rdT_bd (os := os) ht)
  have HLB := hide (ltT_len ts ds os)
  obtain ⟨n, hN⟩ : ∃ n, os.length = n := ⟨_, rfl⟩
  obtain ⟨m, hM⟩ : ∃ m, ts.length = m := ⟨_, rfl⟩
  have HN := hide hN
  have HM := hide hM
  have HDL := hide (hl.trans hM)
  rw [hl, hM] 
  rw [hN] at hn ⊢
  rw [hM] at hnt
  clear hN hM hl hA hD hO ht ho
  go_enter Try.func69, Try.ntmps69
  go_wp2
  go_loopw [7, 8, 13] (fun br rd i wr => ∃ k : Nat, k ≤ n ∧ i = .int .i64 k ∧ rd = .int .i64 (rdT ts os k) ∧ wr.ownsRow w.heap.size 2 1 br (ltT ts ds os k).length ((ltT ts ds os k).map (.int .i64)) ∧ Below w.heap.size w wr)
    (fun _ _ i _ => n - (intOf i).toNat)
  case atStart => exact ⟨0, Nat.zero_le _, rfl, rfl, World.ownsRow_nil _ _ _ _, Below.refl _ _⟩
  case round =>
    obtain ⟨k, hk, rfl, rfl, hown, hB⟩ := hrel
    obtain ⟨Ab, cbb, rfl, hcap, _⟩ := cellsIn_of_own hown (by omega)
    have hbs := hB.size
    have HOWN := hide hown
    have hll := HLB.out k
    clear hown
    by_cases hlt : k < n
    · obtain ⟨b, o, rfl, hb, hxs⟩ := HO.out (by intro e; rw [e] at HN; have := HN.out; simp at this; omega)
      obtain ⟨x, hx⟩ : ∃ x, os[k]? = some x := ⟨os[k]'(by rw [HN.out]; exact hlt), List.getElem?_eq_getElem _⟩
      have c0 : wr.cell? ⟨b, o + k, none⟩ = some (.int .i64 x) := (hB.cell (p := ⟨b, o + k, none⟩) hb).trans (hxs k x hx)
      obtain ⟨hx1, hx2⟩ := HOO.out x (List.mem_of_getElem? hx)
      obtain ⟨j, rfl⟩ : ∃ j : Nat, x = j := ⟨x.toNat, by omega⟩
      have hj : j < m := by rw [HM.out] at hx2; omega
      obtain ⟨bt, ot, rfl, hbt, hts⟩ := HA.out (by intro e; rw [e] at HM; have := HM.out; simp at this; omega)
      obtain ⟨bd, od, rfl, hbd, hds⟩ := HD.out (by intro e; rw [e] at HDL; have := HDL.out; simp at this; omega)
      obtain ⟨t, hjt⟩ : ∃ t, ts[j]? = some t := ⟨ts[j]'(by rw [HM.out]; exact hj), List.getElem?_eq_getElem _⟩
      obtain ⟨d, hjd⟩ : ∃ d, ds[j]? = some d := ⟨ds[j]'(by rw [HDL.out]; exact hj), List.getElem?_eq_getElem _⟩
      have c1 : wr.cell? ⟨bt, ot + j, none⟩ = some (.int .i64 t) := (hB.cell (p := ⟨bt, ot + j, none⟩) hbt).trans (hts j t hjt)
      have c2 : wr.cell? ⟨bd, od + j, none⟩ = some (.int .i64 d) := (hB.cell (p := ⟨bd, od + j, none⟩) hbd).trans (hds j d hjd)
      obtain ⟨ht1, ht2⟩ := HT.out t (List.mem_of_getElem? hjt)
      have hi : (k : Int) < n := by omega
      have hk0 : (0 : Int) ≤ k := by omega
      have hji : (j : Int) < m := by omega
      have hj0 : (0 : Int) ≤ j := by omega
      obtain ⟨hr1, hr2⟩ := HRB.out k
      have HRS := hide (rdT_succ (ts := ts) hx hjt)
      have HLS := hide (fun h => ltT_new (ts := ts) (ds := ds) hx hjd h)
      have HLO := hide (fun h => ltT_old (ts := ts) (ds := ds) hx hjd h)
      clear hxs hx hts hds hjt hjd hx1 hx2
      obtain ⟨r, hr⟩ : ∃ r, rdT ts os k = r := ⟨_, rfl⟩
      have HRR := hide hr
      rw [hr] at hr1 hr2 ⊢
      clear hr
      cases hgt : decide (d < r + t)
      · have HE := hide (HLO.out (by rw [HRS.out, HRR.out]; simpa using hgt))
        go_wp2
        refine ⟨⟨k + 1, by omega, by go_num, by rw [HRS.out, HRR.out], ?_, hB⟩, by simp [intOf]; omega⟩
        rw [HE.out]
        exact HOWN.out
      · have HE := hide (HLS.out (by rw [HRS.out, HRR.out]; simpa using hgt))
        go_wp2_with (at_builtin; refine wpList_append_own _ rfl (.tmp 29) (.tmp 31) 35 rfl w.heap.size 2 i0 (.int .i64 0) 1 8 Try.underlying35 hi0 hz0 hz1 hz2 rfl (by decide) _ (ltT ts ds os k).length _ rfl (HOWN.out.alloc _) ⟨wr.heap.size, 0, none⟩ 1 1 [.int .i64 ((j : Int))] rfl rfl (one_cell _) (one_one rfl) ?h1 ?h2 ?h3 ?_)
        case h1 => unfold maxLen; omega
        case h2 => omega
        case h3 => first | omega | (simp; omega) | simp
        intro v' w4 hown4 hg4 _
        obtain ⟨A4, c4, rfl, _, _⟩ := cellsIn_of_own hown4 (by omega)
        have H4 := hide hown4
        have hg34 : wr.grownBy w4 _ := grown_trans (World.grownBy_alloc wr _ _) hg4
        have hB4 := hB.trans (grown_toBelow hg34 (by omega) (fun k hk => (HOWN.out.lt k hk).1))
        clear hown4 hg4 hg34
        go_wp2
        refine ⟨⟨k + 1, by omega, by go_num, by rw [HRS.out, HRR.out], ?_, hB4⟩, by simp [intOf]; omega⟩
        rw [HE.out, List.map_append, List.length_append]
        exact H4.out
    · obtain rfl : k = n := by omega
      obtain ⟨Ag, cg, e, _, hI⟩ := intsIn_of_own HOWN.out
      injection e with e1 e2 e3
      subst e1 e3
      have HI := hide hI
      clear hI
      go_wp2
      go_ret
      exact ⟨Ab, cbb, rfl, hcap, HI.out, hB⟩
end Go.Proofs.Ytkbemhjeflmppaa
