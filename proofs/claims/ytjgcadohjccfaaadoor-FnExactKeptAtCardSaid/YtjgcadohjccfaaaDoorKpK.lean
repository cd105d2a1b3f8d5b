/- What is kept with a shift: keptAt and KeptAt of the program. -/
import Derived.Test.YtjgcadohjccfaaaDoorKpJ
namespace Go.Proofs.YtjgcadohjccfaaaDoor
open Go Go.RowKit

def kpP (xs ys : List Pr) (sh : Int) (x : Int) : Bool := decide (((ys.getD x.toNat (0, 0)).1, (ys.getD x.toNat (0, 0)).2 + sh) ∈ xs)
theorem kpP_at {xs ys : List Pr} {sh : Int} {k : Nat} {p : Pr} (h : ys[k]? = some p) : kpP xs ys sh (k : Int) = decide ((p.1, p.2 + sh) ∈ xs) := by
  unfold kpP; rw [Int.toNat_natCast, List.getD_eq_getElem?_getD, h]; rfl
def kpL (xs ys : List Pr) (sh : Int) : List Int := (idxL ys.length).filter (kpP xs ys sh)

set_option maxRecDepth 100000 in
set_option maxHeartbeats 4000000 in
theorem kept1_any (Q1 Q2 Q3 : Nat) (A1 : Option Addr) (xs : List Pr) (c1 : Nat) (A2 : Option Addr) (ys : List Pr) (c2 : Nat) (sh : Int) (k : Nat) (p : Pr) (w : World) (hn : xs.length ≤ 60) (hp : ys[k]? = some p) (hb : 0 ≤ p.2 ∧ p.2 ≤ 240000) (hs : -400 ≤ sh ∧ sh ≤ 400)
    (q1 : w.cell? ⟨Q1, 0, none⟩ = some (.slice A1 xs.length c1)) (q2 : w.cell? ⟨Q2, 0, none⟩ = some (.slice A2 ys.length c2)) (q3 : w.cell? ⟨Q3, 0, none⟩ = some (.int .i64 sh))
    (hA : RowsAt 2 plc w w.heap.size A1 xs) (hY : RowsAt 2 plc w w.heap.size A2 ys) :
    Calls Tryd.prog 98 #[.int .i64 (k : Int), .pointer (some ⟨Q1, 0, none⟩), .pointer (some ⟨Q2, 0, none⟩), .pointer (some ⟨Q3, 0, none⟩)] w fun e w' => e = .returned (.bool (decide ((p.1, p.2 + sh) ∈ xs))) ∧ Below w.heap.size w w' := by
  obtain ⟨b, o, rfl, hb2, d0, d1⟩ := hY.two hp
  have HC := hide (fun W (h : Below w.heap.size w W) => containsP_any A1 xs c1 (p.1, p.2 + sh) W (by omega) (hA.go h))
  have hk := (List.getElem?_eq_some_iff.1 hp).1
  obtain ⟨x, y⟩ := p
  obtain ⟨y1, y2⟩ := hb
  obtain ⟨z1, z2⟩ := hs
  simp only at HC d0 d1 y1 y2 ⊢
  have hw1 := IntWalk.i64_in (y + sh) ⟨by omega, by omega⟩
  have e1 := Over.get q1
  have e2 := Over.get q2
  have e3 := Over.get q3
  have f0 := Over.get d0
  have f1 := Over.get d1
  generalize ys.length = m at *
  generalize xs.length = n at *
  generalize decide ((x, y + sh) ∈ xs) = D at *
  have hi : (k : Int) < m := by omega
  have h0 : (0 : Int) ≤ k := by omega
  clear q1 q2 q3 d0 d1 hA hY hp
  go_enter Tryd.func98, Tryd.ntmps98
  go_wp2
  refine wp_region_over (by kernel_rfl) (by kernel_rfl) ?_
  repeat (go_big_quiet_step ((go_at_call 99; exact over_call (HC.out _ (Over.h _)))))
  refine wpQuiet_nil ?_
  intro w3 hb3
  go_wp2
  go_ret
  exact ⟨rfl, hb3⟩

set_option maxRecDepth 100000 in
set_option maxHeartbeats 4000000 in
theorem keptAt_any (A1 : Option Addr) (xs : List Pr) (c1 : Nat) (A2 : Option Addr) (ys : List Pr) (c2 : Nat) (sh : Int) (w : World) (hn : xs.length ≤ 60) (hm : ys.length ≤ 60) (hb : ∀ p ∈ ys, 0 ≤ p.2 ∧ p.2 ≤ 240000) (hs : -400 ≤ sh ∧ sh ≤ 400)
    (hA : RowsAt 2 plc w w.heap.size A1 xs) (hY : RowsAt 2 plc w w.heap.size A2 ys) :
    Calls Tryd.prog 62 #[.slice A1 xs.length c1, .slice A2 ys.length c2, .int .i64 sh] w (IntsB (kpL xs ys sh) w) := by
  obtain ⟨W3, hW3⟩ : ∃ W3, W3 = ((w.alloc (.cells #[.slice A1 xs.length c1] 99)).alloc (.cells #[.slice A2 ys.length c2] 99)).alloc (.cells #[.int .i64 sh] 2) := ⟨_, rfl⟩
  have b0 : Below w.heap.size w W3 := by rw [hW3]; exact (((Below.refl _ _).alloc (Nat.le_refl _) _).alloc (by simp) _).alloc (by simp; omega) _
  have s0 : w.heap.size + 3 = W3.heap.size := by rw [hW3]; simp
  have q1 : W3.cell? ⟨w.heap.size, 0, none⟩ = some (.slice A1 xs.length c1) := by
    rw [hW3]; exact (World.rangeAt_alloc (World.rangeAt_alloc (rangeAt_new' w #[.slice A1 xs.length c1] 99) _) _) 0 _ rfl
  have q2 : W3.cell? ⟨w.heap.size + 1, 0, none⟩ = some (.slice A2 ys.length c2) := by
    rw [hW3]; exact (World.rangeAt_alloc (rangeAt_newg (w := w.alloc (.cells #[.slice A1 xs.length c1] 99)) (cs := #[.slice A2 ys.length c2]) (t := 99) (g := w.heap.size + 1) (l := [.slice A2 ys.length c2]) (by simp) rfl) _) 0 _ rfl
  have q3 : W3.cell? ⟨w.heap.size + 2, 0, none⟩ = some (.int .i64 sh) := by
    rw [hW3]; exact (rangeAt_newg (w := (w.alloc (.cells #[.slice A1 xs.length c1] 99)).alloc (.cells #[.slice A2 ys.length c2] 99)) (cs := #[.int .i64 sh]) (t := 2) (g := w.heap.size + 2) (l := [.int .i64 sh]) (by simp) rfl) 0 _ rfl
  have HK := hide (fun (x : Int) (hx : x ∈ idxL ys.length) W (h : Below W3.heap.size W3 W) => show Calls Tryd.prog 98 #[.int .i64 x, .pointer (some ⟨w.heap.size, 0, none⟩), .pointer (some ⟨w.heap.size + 1, 0, none⟩), .pointer (some ⟨w.heap.size + 2, 0, none⟩)] W (fun e w' => e = .returned (.bool (kpP xs ys sh x)) ∧ Below W.heap.size W w') from by
    obtain ⟨j, hj⟩ := List.getElem?_of_mem hx
    have hjl := (List.getElem?_eq_some_iff.1 hj).1
    rw [idxL_len] at hjl
    rw [idxL_get hjl] at hj
    injection hj with hj
    subst hj
    have hp : ys[j]? = some ys[j] := List.getElem?_eq_getElem hjl
    rw [kpP_at hp]
    exact kept1_any _ _ _ A1 xs c1 A2 ys c2 sh j _ W hn hp (hb _ (List.getElem_mem hjl)) hs
      ((h.cell (p := ⟨w.heap.size, 0, none⟩) (by show w.heap.size < W3.heap.size; omega)).trans q1)
      ((h.cell (p := ⟨w.heap.size + 1, 0, none⟩) (by show w.heap.size + 1 < W3.heap.size; omega)).trans q2)
      ((h.cell (p := ⟨w.heap.size + 2, 0, none⟩) (by show w.heap.size + 2 < W3.heap.size; omega)).trans q3)
      ((hA.go b0).go h) ((hY.go b0).go h))
  have HIX := hide (fun W => indicesPl_any A2 ys.length c2 W (by omega))
  have HTH := hide (fun A c W (hW : Below W3.heap.size W3 W) (hI : IntsAt W W.heap.size A (idxL ys.length)) => those3_any 98 (enters_of Tryd.func98 (by kernel_rfl) rfl) w.heap.size (w.heap.size + 1) (w.heap.size + 2) (kpP xs ys sh) A (idxL ys.length) c W (by rw [idxL_len]; omega) hI (fun x hx W' h => HK.out x hx W' (hW.trans (h.mono hW.size))))
  have HW3 := hide hW3
  have HIL : Hid ((idxL ys.length).length = ys.length) := hide (idxL_len _)
  unfold kpL
  clear hW3 hA hY hb
  generalize ys.length = m at *
  generalize xs.length = n at *
  go_enter Tryd.func62, Tryd.ntmps62
  repeat (first | (rw [← HW3.out]) | go_step)
  refine (HIX.out _).mono ?_
  rintro e w1 ⟨A3, c3, rfl, hc3, hI3, hb1⟩
  rw [HIL.out]
  have HTT := hide (HTH.out A3 c3 w1 hb1 hI3.at_)
  rw [HIL.out] at HTT
  have hB1 := b0.trans (hb1.mono b0.size)
  go_wp2_with fail
  refine HTT.out.mono ?_
  rintro e w2 ⟨A4, c4, rfl, hc4, hI4, hb2⟩
  go_wp2
  go_ret
  exact ⟨A4, c4, rfl, hc4, hI4.wider hB1.size, hB1.trans (hb2.mono hB1.size)⟩
end Go.Proofs.YtjgcadohjccfaaaDoor
