/- Whether all chisels are valid, of the program. -/
import Derived.Test.YtkbemhjeflmppaaDoorChis
import Derived.Test.YtkbemhjeflmppaaDoorChA
import Derived.Test.YtkbemhjeflmppaaDoorChO
import Derived.Test.YtkbemhjeflmppaaDoorIvIA
namespace Go.Proofs.YtkbemhjeflmppaaDoor
open Go Go.RowKit

def vcp (p : Int × Int) : Bool := vchi p.1 p.2

set_option maxRecDepth 100000 in
set_option maxHeartbeats 4000000 in
theorem areAllC_any (A : Option Addr) (xs : List (Int × Int)) (c : Nat) (w : World) (hn : xs.length ≤ maxLen) (hx : ∀ x ∈ xs, chok x) (hA : ChsAt w w.heap.size A xs) :
    Calls Tryd.prog 71 #[.slice A xs.length c, .func (.func 72) #[] #[]] w fun e w' => e = .returned (.bool (xs.all vcp)) ∧ Below w.heap.size w w' := by
  unfold maxLen at hn
  generalize hS : xs.all vcp = S
  have HS := hide hS
  have HF := hide (fun (x : Int × Int) (h : x ∈ xs) W => implValidChisel_any x.1 (hx x h).1 x.2 (hx x h).2 W)
  have HI := hide (show (Tryd.prog.info? 35).map (·.size) = some 2 from by kernel_rfl)
  clear hS hx
  go_enter Tryd.func71, Tryd.ntmps71
  go_wp2
  go_loopw [9] (fun i wr => ∃ k : Nat, k ≤ xs.length ∧ i = .int .i64 k ∧ Hid (∀ j x, j < k → xs[j]? = some x → vcp x = true) ∧ Below w.heap.size w wr) (fun i _ => xs.length - (intOf i).toNat)
  case atStart => exact ⟨0, Nat.zero_le _, rfl, hide (fun j x hj => by omega), Below.refl _ _⟩
  case round =>
    obtain ⟨k, hk, rfl, hg, hB⟩ := hrel
    by_cases hlt : k < xs.length
    · obtain ⟨b, o, rfl, hb, hxs⟩ := hA (by intro e; rw [e] at hlt; simp at hlt)
      obtain ⟨x, hxk⟩ : ∃ x, xs[k]? = some x := ⟨xs[k]'hlt, List.getElem?_eq_getElem _⟩
      have hrow := rangeAt_below (hxs k x hxk) hB hb
      have HX := hide hxk
      have hi : (k : Int) < xs.length := by omega
      have h0 : (0 : Int) ≤ k := by omega
      have HC := hide (HF.out x (List.mem_of_getElem? hxk))
      have HV : Hid (vcp x = vchi x.1 x.2) := hide rfl
      obtain ⟨h, p⟩ := x
      have c0 : wr.cell? ⟨b, o + k * 2, none⟩ = some (.int .i16 h) := hrow 0 _ rfl
      have c1 : wr.cell? ⟨b, o + k * 2 + 1, none⟩ = some (.int .i8 p) := hrow 1 _ rfl
      clear hxs hxk hrow
      dsimp only at HC HV
      have hbA : Below wr.heap.size wr (wr.alloc (.cells #[.int .i16 h, .int .i8 p] 35)) := (Below.refl _ _).alloc (Nat.le_refl _) _
      have HBA := hide (hB.trans (hbA.mono hB.size))
      clear hbA
      cases hb2 : vchi h p
      · rw [hb2] at HC HV
        go_wp2_with (go_at_call 72; refine (HC.out _).mono ?_; rintro e w1 ⟨rfl, hb1⟩)
        go_ret
        exact ⟨ret_bool (by rw [← HS.out, all_false_of HX.out HV.out]), HBA.out.trans (hb1.mono HBA.out.size)⟩
      · rw [hb2] at HC HV
        go_wp2_with (go_at_call 72; refine (HC.out _).mono ?_; rintro e w1 ⟨rfl, hb1⟩)
        exact ⟨⟨k + 1, by omega, by go_num, hide (fun j y hj hy => by
          by_cases e : j = k
          · subst e; rw [HX.out] at hy; injection hy with hy; subst hy; exact HV.out
          · exact hg.out j y (by omega) hy), HBA.out.trans (hb1.mono HBA.out.size)⟩, by simp [intOf]; omega⟩
    · have HA := hide (all_true_of (p := vcp) (xs := xs) (fun j x hj => hg.out j x (by omega)))
      have hk' : k = xs.length := by omega
      clear hg
      go_wp2
      go_ret
      exact ⟨ret_bool (by rw [← HS.out, HA.out]), hB⟩
end Go.Proofs.YtkbemhjeflmppaaDoor
