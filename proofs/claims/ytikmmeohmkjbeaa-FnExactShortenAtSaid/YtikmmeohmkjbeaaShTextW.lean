/- ShortsText: the program's. -/
import Derived.Test.YtikmmeohmkjbeaaShortsS
import Derived.Test.YtikmmeohmkjbeaaLinesOfW
namespace Go.Proofs.Ytikmmeohmkjbeaa
open Go Go.RowKit Go.Shelf Go.Sort Go.Maps

def shW (p : Sh) : List UInt8 := p.1.data.toList ++ 61 :: p.2.data.toList
def shL (ps : List Sh) : List (List UInt8) := ps.map shW
noncomputable def vsT (ps : List Sh) : ByteArray := if vshorts ps = true then ⟨(J (shL ps)).toArray⟩ else ⟨#[]⟩
theorem vsT_ok {ps : List Sh} (h : vshorts ps = true) : vsT ps = ⟨(J (shL ps)).toArray⟩ := by unfold vsT; rw [if_pos h]
theorem vsT_no {ps : List Sh} (h : vshorts ps = false) : vsT ps = ⟨#[]⟩ := by unfold vsT; rw [h]; rfl
theorem vshorts_len {ps : List Sh} (h : vshorts ps = true) : ps.length ≤ 6 := (vshorts_true.1 h).1
theorem vshorts_mem {ps : List Sh} (h : vshorts ps = true) {k : Nat} {p : Sh} (hp : ps[k]? = some p) : shB p = true := ((vshorts_true.1 h).2 k p (List.getElem?_eq_some_iff.1 hp).1 hp).1
theorem shB_sizes {p : Sh} (h : shB p = true) : p.1.size ≤ 20 ∧ p.2.size ≤ 20 := by have := shB_true.1 h; omega
theorem shW_str (p : Sh) : (p.1 ++ (⟨#[61]⟩ : ByteArray)) ++ p.2 = ⟨(shW p).toArray⟩ := by
  apply ba_ext; rw [append_data, append_data]; simp [shW]
theorem shW_len (p : Sh) : (shW p).length = p.1.size + p.2.size + 1 := by simp [shW]; omega
theorem shL_take {ps : List Sh} {k : Nat} {p : Sh} (hp : ps[k]? = some p) : shL (ps.take (k + 1)) = shL (ps.take k) ++ [shW p] := by
  rw [List.take_add_one, hp]; simp [shL]
theorem shL_mem {ps : List Sh} (h : vshorts ps = true) : ∀ y ∈ shL ps, y.length ≤ 60 := fun y hy => by
  obtain ⟨p, hp, rfl⟩ := List.mem_map.1 hy
  obtain ⟨k, hk⟩ := List.getElem?_of_mem hp
  have := shB_sizes (vshorts_mem h hk)
  rw [shW_len]; omega

set_option maxRecDepth 100000 in
set_option maxHeartbeats 4000000 in
theorem implShortsText_any (A : Option Addr) (ps : List Sh) (c : Nat) (hn : ps.length ≤ maxLen) (hx : ∀ x ∈ ps, x.1.size ≤ maxLen ∧ x.2.size ≤ maxLen) (w : World) (hA : ShsAt w w.heap.size A ps) :
    Calls Try.prog 55 #[.slice A ps.length c] w fun e w' => e = .returned (.string (vsT ps)) ∧ Below w.heap.size w w' := by
  have HV := hide (implValidShorts_any A ps c hn hx w hA)
  cases hv : vshorts ps
  · rw [vsT_no hv]
    rw [hv] at HV
    clear hA hv hn hx
    go_enter Try.func55, Try.ntmps55
    go_wp2_with (go_at_call 45; refine HV.out.mono ?_; rintro e w1 ⟨rfl, hb1⟩)
    go_ret
    exact ⟨rfl, hb1⟩
  · rw [vsT_ok hv]
    rw [hv] at HV
    obtain ⟨i0, hi0, hz0, hz1, hz2⟩ := info_parts Try.infoString
    have h6 := vshorts_len hv
    have HSZ := hide (fun k p (hp : ps[k]? = some p) => shB_sizes (vshorts_mem hv hp))
    have HLM := hide (shL_mem hv)
    obtain ⟨n, hL⟩ : ∃ n, ps.length = n := ⟨_, rfl⟩
    have HL := hide hL
    have hSL : (shL ps).length = n := by rw [shL, List.length_map, hL]
    have HJ := hide (fun (A2 : Option Addr) (c2 : Nat) (W : World) (hc : n ≤ c2) (hS : StrsAt W W.heap.size A2 (bas (shL ps))) => by
      have := joinW_any A2 (shL ps) c2 W HLM.out (by omega) (by omega) hS
      rwa [hSL] at this)
    rw [hL] at hn h6 HV ⊢
    clear hL hx hv hSL
    go_enter Try.func55, Try.ntmps55
    go_wp2_with (go_at_call 45; refine HV.out.mono ?_; rintro e w1 ⟨rfl, hb1⟩)
    have hbs1 := hb1.size
    have HA1 := hide (hA.below hb1)
    clear hA
    go_loopw [3, 11] (fun br i wr => ∃ k : Nat, k ≤ n ∧ i = .int .i64 k ∧ wr.ownsRow w1.heap.size 9 1 br k ((shL (ps.take k)).map encStr) ∧ Below w1.heap.size w1 wr)
      (fun _ i _ => n - (intOf i).toNat)
    case atStart => exact ⟨0, by omega, rfl, World.ownsRow_nil _ _ _ _, Below.refl _ _⟩
    case round =>
      obtain ⟨k, hk, rfl, hown, hB⟩ := hrel
      obtain ⟨Ab, cbb, rfl, hcap, _⟩ := cellsIn_of_own hown (by omega)
      have hbs3 := hB.size
      have HOWN := hide hown
      clear hown
      by_cases hlt : k < n
      · obtain ⟨b, o, rfl, hb, hps⟩ := HA1.out (by intro e; rw [e] at HL; have := HL.out; simp at this; omega)
        obtain ⟨p, hp⟩ : ∃ p, ps[k]? = some p := ⟨ps[k]'(by rw [HL.out]; exact hlt), List.getElem?_eq_getElem _⟩
        obtain ⟨s1, s2⟩ := HSZ.out k p hp
        have HPS := hide (shL_take hp)
        obtain ⟨x, y⟩ := p
        simp only at s1 s2
        have hq0 := rangeAt_below (hps k _ hp) hB (by omega)
        have c0 : wr.cell? ⟨b, o + k * 2, none⟩ = some (.string x) := hq0 0 _ rfl
        have c1 : wr.cell? ⟨b, o + k * 2 + 1, none⟩ = some (.string y) := hq0 1 _ rfl
        have hi : (k : Int) < n := by omega
        have h0 : (0 : Int) ≤ k := by omega
        have s3 : (x ++ (⟨#[61]⟩ : ByteArray)).size ≤ 21 := by rw [append_size]; have : (⟨#[61]⟩ : ByteArray).size = 1 := rfl; omega
        have s4 : (⟨#[61]⟩ : ByteArray).size = 1 := rfl
        have HSW := hide (shW_str (x, y))
        clear hq0 hps hp
        have hown1 := HOWN.out.alloc (.cells #[.string x, .string y] 132)
        have hz5 : (wr.alloc (.cells #[.string x, .string y] 132)).heap.size = wr.heap.size + 1 := by simp
        have hoc : ∀ v : Value, ∀ j u, [v][j]? = some u → ((wr.alloc (.cells #[.string x, .string y] 132)).alloc (.cells #[v] 9)).cell? ((⟨wr.heap.size + 1, 0, none⟩ : Addr).add j) = some u := fun v => by rw [← hz5]; exact one_cell _
        go_wp2_with (at_builtin; refine wpList_append_own _ rfl (.tmp 15) (.tmp 22) 45 rfl w1.heap.size 9 i0 (.string ⟨#[]⟩) 1 16 Try.underlying45 hi0 hz0 hz1 hz2 rfl (by decide) _ k _ rfl (hown1.alloc _) ⟨wr.heap.size + 1, 0, none⟩ 1 1 [.string ((x ++ (⟨#[61]⟩ : ByteArray)) ++ y)] rfl rfl (hoc _) (one_one rfl) ?h1 ?h2 ?h3 ?_)
        case h1 => unfold maxLen; omega
        case h2 => omega
        case h3 => omega
        intro v' w4 hown4 hg4 _
        obtain ⟨A4, c4, rfl, _, _⟩ := cellsIn_of_own hown4 (by omega)
        have H4 := hide hown4
        have hg34 : wr.grownBy w4 _ := grown_trans (World.grownBy_alloc wr _ _) (grown_trans (World.grownBy_alloc _ _ _) hg4)
        have hB4 := hB.trans (grown_toBelow hg34 (by omega) (fun k hk => (HOWN.out.lt k hk).1))
        clear hown4 hg4 hg34 hown1 hoc
        go_wp2
        refine ⟨⟨k + 1, by omega, by go_num, ?_, hB4⟩, by simp [intOf]; omega⟩
        rw [HPS.out, List.map_append]
        have := H4.out
        rw [HSW.out] at this
        exact this
      · obtain rfl : k = n := by omega
        obtain ⟨Ag, cg, e, _, hI⟩ := strsIn_of_own HOWN.out (by rw [shL, List.length_map, List.length_take, HL.out]; omega)
        injection e with e1 e2 e3
        subst e1 e3
        have HI := hide (show StrsAt wr wr.heap.size Ab (bas (shL ps)) by
          have := hI.at_
          rwa [List.take_of_length_le (by rw [HL.out]; omega)] at this)
        have HJJ := hide (HJ.out Ab cbb wr hcap HI.out)
        clear hI
        go_wp2_with (go_at_call 83; refine HJJ.out.mono ?_; rintro e w5 ⟨rfl, hb5⟩)
        go_ret
        exact ⟨rfl, hb1.trans ((hB.trans (hb5.mono hbs3)).mono hbs1)⟩
end Go.Proofs.Ytikmmeohmkjbeaa
