/- Pieces that are valid, and that can join, of both. -/
import Derived.Test.YtajlbfbpkafjfaaPc
import Derived.Test.YtajlbfbpkafjfaaIvIA
import Derived.Test.YtajlbfbpkafjfaaIvSA
namespace Go.Proofs.Ytajlbfbpkafjfaa
open Go.RowKit

noncomputable def pvB (p : Pcx) : Bool := decide (p.1.size ≤ 20) && vtext p.1.data.toList
noncomputable def vpcs (ps : List Pcx) : Bool := decide (ps.length ≤ 8) && ps.all pvB
theorem vpcs_true {ps : List Pcx} : vpcs ps = true ↔ ps.length ≤ 8 ∧ ps.all pvB = true := by simp [vpcs]
theorem pv_mem {ps : List Pcx} {p : Pcx} (h : ps.all pvB = true) (hp : p ∈ ps) : p.1.size ≤ 20 ∧ vtext p.1.data.toList = true := by
  have := List.all_eq_true.1 h p hp
  simpa [pvB] using this
/-- The first one can join the second one. -/
def joB (p q : Pcx) : Bool := decide (p.2.2 + q.2.1 = 255)

set_option maxRecDepth 100000 in
set_option maxHeartbeats 2000000 in
theorem l04Pieces_any (A : Option Addr) (ps : List Pcx) (c : Nat) (w : World) (hn : ps.length ≤ maxLen) (hx : ∀ x ∈ ps, pxok x) (hA : PcAt w w.heap.size A ps) :
    Calls Try.prog 109 #[.slice A ps.length c] w fun e w' => e = .returned (.bool (vpcs ps)) ∧ w = w' := by
  unfold maxLen at hn
  generalize hS : vpcs ps = S
  have HS := hide hS
  clear hS
  go_enter Try.func109, Try.ntmps109
  go_wp2
  go_loop [3] (fun i => ∃ k : Nat, k ≤ ps.length ∧ i = .int .i64 k ∧ Hid (∀ j x, j < k → ps[j]? = some x → pvB x = true)) (fun i => ps.length - (intOf i).toNat)
  case atStart => exact ⟨0, Nat.zero_le _, rfl, hide (fun j x hj => by omega)⟩
  case round =>
    obtain ⟨k, hk, rfl, hg⟩ := hrel
    by_cases hlt : k < ps.length
    · obtain ⟨b, o, rfl, hb, hxs⟩ := hA (by intro e; rw [e] at hlt; simp at hlt)
      obtain ⟨x, hxk⟩ : ∃ x, ps[k]? = some x := ⟨ps[k]'hlt, List.getElem?_eq_getElem _⟩
      have hr := hxs k x hxk
      have hxo := (hx x (List.mem_of_getElem? hxk)).1
      obtain ⟨t, l, r⟩ := x
      have c0 : w.cell? ⟨b, o + k * 3, none⟩ = some (.string t) := hr 0 _ rfl
      have HX := hide hxk
      have hi : (k : Int) < ps.length := by omega
      have h0 : (0 : Int) ≤ k := by omega
      have HC := hide (fun w => l01Text_any t w hxo)
      have HPV : Hid (pvB (t, l, r) = (decide (t.size ≤ 20) && vtext t.data.toList)) := hide rfl
      have HGO := hide (fun (hb : pvB (t, l, r) = true) => (fun j y hj hy => by
          by_cases e : j = k
          · subst e; rw [HX.out] at hy; injection hy with hy; subst hy; exact hb
          · exact hg.out j y (by omega) hy : ∀ j y, j < k + 1 → ps[j]? = some y → pvB y = true))
      have HNO := hide (fun (hb : pvB (t, l, r) = false) => all_false_of HX.out hb)
      simp only at hxo
      unfold maxLen at hxo
      clear hxs hxk hr
      by_cases h20 : t.size ≤ 20
      · have hd : decide ((20 : Int) < t.size) = false := by simp; omega
        have hd' : decide (20 < t.size) = false := by simp; omega
        have H20 : Hid (decide (t.size ≤ 20) = true) := hide (by simp; omega)
        clear h20
        cases hb : vtext t.data.toList
        · go_wp2_with (go_at_call 102; refine (HC.out _).mono ?_; rintro e w' ⟨rfl, rfl⟩; simp only [hb])
          go_ret
          refine ⟨ret_bool ?_, rfl⟩
          rw [← HS.out]
          unfold vpcs
          rw [HNO.out (by rw [HPV.out, hb, Bool.and_false]), Bool.and_false]
        · go_wp2_with (go_at_call 102; refine (HC.out _).mono ?_; rintro e w' ⟨rfl, rfl⟩; simp only [hb])
          exact ⟨⟨k + 1, by omega, by go_num, hide (HGO.out (by rw [HPV.out, hb, H20.out]; rfl))⟩, by simp [intOf]; omega⟩
      · have hd : decide ((20 : Int) < t.size) = true := by simp; omega
        have hd' : decide (20 < t.size) = true := by simp; omega
        have H20 : Hid (decide (t.size ≤ 20) = false) := hide (by simp; omega)
        clear h20
        go_wp2
        go_ret
        refine ⟨ret_bool ?_, rfl⟩
        rw [← HS.out]
        unfold vpcs
        rw [HNO.out (by rw [HPV.out, H20.out]; rfl), Bool.and_false]
    · obtain rfl : k = ps.length := by omega
      have HA := hide (all_true_of (p := pvB) (xs := ps) (fun j x hj => hg.out j x hj))
      clear hg
      go_wp2
      go_ret
      refine ⟨ret_bool ?_, rfl⟩
      rw [← HS.out]
      unfold vpcs
      rw [HA.out, Bool.and_true]
      simp
      omega

set_option maxHeartbeats 1000000 in
theorem specValidPieces_any (A : Option Addr) (ps : List Pcx) (c : Nat) (hn : ps.length ≤ maxLen) (hx : ∀ x ∈ ps, pxok x) (w : World) (hA : PcAt w w.heap.size A ps) :
    Calls Try.prog 56 #[.slice A ps.length c] w fun e w' => e = .returned (.bool (vpcs ps)) ∧ Below w.heap.size w w' := by
  have HC := hide (fun w h => l04Pieces_any A ps c w hn hx h)
  generalize ps.length = n at *
  go_enter Try.func56, Try.ntmps56
  go_wp2_with (go_at_call 109; refine (HC.out _ hA).mono ?_; rintro e w' ⟨rfl, rfl⟩)
  go_ret
  exact ⟨rfl, Below.refl _ _⟩

set_option maxRecDepth 100000 in
set_option maxHeartbeats 2000000 in
theorem isValid_any (t : ByteArray) (l r : Int) (w : World) (ht : t.size ≤ maxLen) :
    Calls Try.prog 112 #[.agg #[.string t, .int .u8 l, .int .u8 r]] w fun e w' => e = .returned (.bool (pvB (t, l, r))) ∧ Below w.heap.size w w' := by
  have HV := hide (fun W => implValidText_any t W ht)
  have HPV : Hid (pvB (t, l, r) = (decide (t.size ≤ 20) && vtext t.data.toList)) := hide rfl
  have hb0 : Below w.heap.size w (w.alloc (.cells #[.string t, .int .u8 l, .int .u8 r] 126)) := (Below.refl _ _).alloc (Nat.le_refl _) _
  have e0 := rangeAt_new' w #[.string t, .int .u8 l, .int .u8 r] 126
  have hz : w.heap.size < (w.alloc (.cells #[.string t, .int .u8 l, .int .u8 r] 126)).heap.size := by simp
  unfold maxLen at ht
  generalize pvB (t, l, r) = R at *
  cases hv : vtext t.data.toList
  · rw [hv] at HV
    go_enter Try.func112, Try.ntmps112
    go_wp2_with (go_at_call 103; refine (HV.out _).mono ?_; rintro e w1 ⟨rfl, hb1⟩)
    go_ret
    exact ⟨ret_bool (by rw [HPV.out, hv, Bool.and_false]), hb0.trans (hb1.mono hb0.size)⟩
  · rw [hv] at HV
    go_enter Try.func112, Try.ntmps112
    go_wp2_with fail
    refine (HV.out _).mono ?_
    rintro e w1 ⟨rfl, hb1⟩
    have d0 : w1.cell? ⟨w.heap.size, 0, none⟩ = some (.string t) := (rangeAt_below e0 hb1 hz) 0 _ rfl
    clear e0
    go_wp2
    go_ret
    exact ⟨ret_bool (by rw [HPV.out, hv, Bool.and_true]; simp; omega), hb0.trans (hb1.mono hb0.size)⟩

set_option maxRecDepth 100000 in
set_option maxHeartbeats 2000000 in
theorem areAllP_any (A : Option Addr) (ps : List Pcx) (c : Nat) (w : World) (hn : ps.length ≤ maxLen) (hx : ∀ x ∈ ps, pxok x) (hA : PcAt w w.heap.size A ps) :
    Calls Try.prog 111 #[.slice A ps.length c, .func (.func 112) #[] #[]] w fun e w' => e = .returned (.bool (ps.all pvB)) ∧ Below w.heap.size w w' := by
  unfold maxLen at hn
  generalize hS : ps.all pvB = S
  have HS := hide hS
  clear hS
  go_enter Try.func111, Try.ntmps111
  go_wp2
  go_loopw [9] (fun i wr => ∃ k : Nat, k ≤ ps.length ∧ i = .int .i64 k ∧ Hid (∀ j x, j < k → ps[j]? = some x → pvB x = true) ∧ Below w.heap.size w wr) (fun i _ => ps.length - (intOf i).toNat)
  case atStart => exact ⟨0, Nat.zero_le _, rfl, hide (fun j x hj => by omega), Below.refl _ _⟩
  case round =>
    obtain ⟨k, hk, rfl, hg, hB⟩ := hrel
    by_cases hlt : k < ps.length
    · obtain ⟨b, o, rfl, hb, hxs⟩ := hA (by intro e; rw [e] at hlt; simp at hlt)
      obtain ⟨x, hxk⟩ : ∃ x, ps[k]? = some x := ⟨ps[k]'hlt, List.getElem?_eq_getElem _⟩
      have hr := rangeAt_below (hxs k x hxk) hB hb
      have hxo := (hx x (List.mem_of_getElem? hxk)).1
      obtain ⟨t, l, r⟩ := x
      have c0 : wr.cell? ⟨b, o + k * 3, none⟩ = some (.string t) := hr 0 _ rfl
      have c1 : wr.cell? ⟨b, o + k * 3 + 1, none⟩ = some (.int .u8 l) := hr 1 _ rfl
      have c2 : wr.cell? ⟨b, o + k * 3 + 2, none⟩ = some (.int .u8 r) := hr 2 _ rfl
      have HX := hide hxk
      have hi : (k : Int) < ps.length := by omega
      have h0 : (0 : Int) ≤ k := by omega
      have HC := hide (fun W => isValid_any t l r W hxo)
      have hBA := hB.alloc hB.size (.cells #[.string t, .int .u8 l, .int .u8 r] 126)
      clear hxs hxk hr hxo
      cases hb : pvB (t, l, r)
      · rw [hb] at HC
        go_wp2_with (go_at_call 112; refine (HC.out _).mono ?_; rintro e w1 ⟨rfl, hb1⟩)
        go_ret
        exact ⟨ret_bool (by rw [← HS.out, all_false_of HX.out hb]), hBA.trans (hb1.mono hBA.size)⟩
      · rw [hb] at HC
        go_wp2_with (go_at_call 112; refine (HC.out _).mono ?_; rintro e w1 ⟨rfl, hb1⟩)
        exact ⟨⟨k + 1, by omega, by go_num, hide (fun j y hj hy => by
          by_cases e : j = k
          · subst e; rw [HX.out] at hy; injection hy with hy; subst hy; exact hb
          · exact hg.out j y (by omega) hy), hBA.trans (hb1.mono hBA.size)⟩, by simp [intOf]; omega⟩
    · have HA := hide (all_true_of (p := pvB) (xs := ps) (fun j x hj => hg.out j x (by omega)))
      have hk' : k = ps.length := by omega
      clear hg
      go_wp2
      go_ret
      exact ⟨ret_bool (by rw [← HS.out, HA.out]), hB⟩

set_option maxHeartbeats 1000000 in
theorem implValidPieces_any (A : Option Addr) (ps : List Pcx) (c : Nat) (hn : ps.length ≤ maxLen) (hx : ∀ x ∈ ps, pxok x) (w : World) (hA : PcAt w w.heap.size A ps) :
    Calls Try.prog 58 #[.slice A ps.length c] w fun e w' => e = .returned (.bool (vpcs ps)) ∧ Below w.heap.size w w' := by
  have HC := hide (areAllP_any A ps c w hn hx hA)
  have hn' := hn
  unfold maxLen at hn'
  generalize hS : vpcs ps = S
  have HS := hide hS
  clear hS
  by_cases h8 : ps.length ≤ 8
  · have hd : decide ((ps.length : Int) ≤ 8) = true := by simp; omega
    have H8 := hide h8
    clear h8
    go_enter Try.func58, Try.ntmps58
    go_wp2_with (go_at_call 111; refine HC.out.mono ?_; rintro e w1 ⟨rfl, hb1⟩)
    go_ret
    exact ⟨ret_bool (by rw [← HS.out]; unfold vpcs; simp [H8.out]), hb1⟩
  · have hd : decide ((ps.length : Int) ≤ 8) = false := by simp; omega
    have H8 := hide h8
    clear h8
    go_enter Try.func58, Try.ntmps58
    go_wp2
    go_ret
    exact ⟨ret_bool (by rw [← HS.out]; unfold vpcs; simp [H8.out]), Below.refl _ _⟩

set_option maxHeartbeats 1000000 in
theorem specCanJoin_any (s t : ByteArray) (a b c d : Int) (w : World) (hb : u8ok b) (hc : u8ok c) :
    Calls Try.prog 114 #[.agg #[.string s, .int .u8 a, .int .u8 b], .agg #[.string t, .int .u8 c, .int .u8 d]] w fun e w' => e = .returned (.bool (joB (s, a, b) (t, c, d))) ∧ Below w.heap.size w w' := by
  have e1 := IntWalk.i64_in b ⟨by have := hb.1; omega, by have := hb.2; omega⟩
  have e2 := IntWalk.i64_in c ⟨by have := hc.1; omega, by have := hc.2; omega⟩
  have e3 := IntWalk.i64_in (b + c) ⟨by have := hb.1; have := hc.1; omega, by have := hb.2; have := hc.2; omega⟩
  have HR : Hid (joB (s, a, b) (t, c, d) = (b + c == 255)) := hide (by unfold joB; rw [Bool.eq_iff_iff]; simp)
  generalize joB (s, a, b) (t, c, d) = R at *
  have hB : Below w.heap.size w ((w.alloc (.cells #[.string s, .int .u8 a, .int .u8 b] 126)).alloc (.cells #[.string t, .int .u8 c, .int .u8 d] 126)) := ((Below.refl _ _).alloc (Nat.le_refl _) _).alloc (by simp) _
  go_enter Try.func114, Try.ntmps114
  go_wp2
  go_ret
  exact ⟨ret_bool HR.out.symm, hB⟩

set_option maxHeartbeats 1000000 in
theorem joins_any (s t : ByteArray) (a b c d : Int) (w : World) (hb : u8ok b) (hc : u8ok c) :
    Calls Try.prog 117 #[.agg #[.string s, .int .u8 a, .int .u8 b], .agg #[.string t, .int .u8 c, .int .u8 d]] w fun e w' => e = .returned (.bool (joB (s, a, b) (t, c, d))) ∧ Below w.heap.size w w' := by
  have HR : Hid (joB (s, a, b) (t, c, d) = (IntKind.u8.wrap (b + c) == 255)) := hide (by
    unfold joB
    have h1 := hb.1; have h2 := hb.2; have h3 := hc.1; have h4 := hc.2
    rw [Bool.eq_iff_iff]
    simp [IntKind.wrap, IntKind.signed, IntKind.bits]
    omega)
  generalize joB (s, a, b) (t, c, d) = R at *
  have hB : Below w.heap.size w ((w.alloc (.cells #[.string s, .int .u8 a, .int .u8 b] 126)).alloc (.cells #[.string t, .int .u8 c, .int .u8 d] 126)) := ((Below.refl _ _).alloc (Nat.le_refl _) _).alloc (by simp) _
  go_enter Try.func117, Try.ntmps117
  go_wp2
  go_ret
  exact ⟨ret_bool HR.out.symm, hB⟩
end Go.Proofs.Ytajlbfbpkafjfaa
