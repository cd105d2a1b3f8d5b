/- ReadRubbing of the program. -/
import Derived.Test.YtjmkbdghenjlaaaRdJ
import Derived.Test.YtjmkbdghenjlaaaRdA
import Derived.Test.YtjmkbdghenjlaaaRdS
namespace Go.Proofs.Ytjmkbdghenjlaaa
open Go Go.RowKit

set_option maxHeartbeats 400000 in
theorem code_any (s : ByteArray) (w : World) : Calls Try.prog 67 #[.string s] w fun e w' => e = .returned (.int .i64 5) ∧ w = w' := by
  go_enter Try.func67, Try.ntmps67
  go_wp2
  go_ret
  exact ⟨rfl, rfl⟩

theorem ta_hit (s : ByteArray) (w : World) : (Instr.typeAssert (.iface 76 (.string s)) 20 65 true).run Try.prog w = .ok (.tuple #[.iface 76 (.string s), .bool true]) w := by kernel_rfl
theorem ta_nil (w : World) : (Instr.typeAssert .nilIface 20 65 true).run Try.prog w = .ok (.tuple #[.nilIface, .bool false]) w := by kernel_rfl

theorem meth_code (s : ByteArray) (w : World) : (method 203 76 (.string s) "loop.example/g01398/impl.code").run Try.prog w = .ok (67, .string s) w := by kernel_rfl

set_option maxRecDepth 100000 in
set_option maxHeartbeats 4000000 in
theorem catch_idle (p q : Addr) (w : World) :
    CallsD Try.prog 26 #[.pointer (some p), .pointer (some q)] .returning w fun e u' w' => e = .returned (.tuple #[]) ∧ u' = .returning ∧ w' = w := by
  refine callsD_of_wpS Try.func26 rfl fun c₀ cs hu => ?_
  apply wpS_seq
  apply wpS_region
  simp [wpOpsS, go_sem, recoverD, hu, Try.ntmps26, Exit.thenS, ta_nil]
  apply wpS_seq
  apply wpS_region
  simp [wpOpsS, go_sem, hu, Try.ntmps26, Exit.thenS]
  refine wpS_cond (t := false) (by simp [Act.eval, Array.replicate]) ?_
  simp only [Bool.false_eq_true, if_false]
  refine wpS_of_wp (wp_skip ?_)
  cases c₀
  simp_all [bodyPostS, results, Try.results26]

set_option maxRecDepth 100000 in
set_option maxHeartbeats 8000000 in
theorem catch_panicking (b0 b1 : Nat) (s : ByteArray) (x : Int) (older : List PanicEntry) (w : World) (ht : w.there b0 0 8) (hc : w.cell? ⟨b1, 0, none⟩ = some (.int .i64 x)) (hz : w.frozen? ⟨b1, 0, none⟩ = false) (hne : b0 ≠ b1) :
    CallsD Try.prog 26 #[.pointer (some ⟨b0, 0, none⟩), .pointer (some ⟨b1, 0, none⟩)] (.panicking ({ v := .iface 76 (.string s), recovered := false } :: older)) w fun e u' w' =>
      e = .returned (.tuple #[]) ∧ u' = .panicking ({ v := .iface 76 (.string s), recovered := true } :: older) ∧ w' = (w.setCells b0 0 (rwc zRd).toArray.toList).setCell ⟨b1, 0, none⟩ (.int .i64 5) := by
  refine callsD_of_wpS Try.func26 rfl fun c₀ cs hu => ?_
  apply wpS_seq
  apply wpS_region
  simp [wpOpsS, go_sem, recoverD, hu, Try.ntmps26, Exit.thenS, ta_hit]
  apply wpS_seq
  apply wpS_region
  simp [wpOpsS, go_sem, hu, Try.ntmps26, Exit.thenS]
  refine wpS_cond (t := true) (by simp [Act.eval, Array.replicate]) ?_
  simp only [if_true]
  refine wpS_of_wp ?_
  refine (fun {P c Q w} (A A' : Act) (h : A = A') (k : Code.wp P c Q A' w) => (h ▸ k : Code.wp P c Q A w)) _ { tmps := #[.pointer (some ⟨b0, 0, none⟩), .pointer (some ⟨b1, 0, none⟩), (.iface 76 (.string s)), .bool true, .tuple #[(.iface 76 (.string s)), .bool true], (.iface 76 (.string s)), .tuple #[(.iface 76 (.string s)), .bool true], (.iface 76 (.string s)), .bool true, .bool true, undef, undef, undef], defers := [] } ?_ ?_
  · simp [Array.replicate, List.replicate]
  have hm := meth_code s
  go_wp2_with fail
  refine (code_any s _).mono ?_
  rintro e w' ⟨rfl, rfl⟩
  have hc2 : (w.setCells b0 0 (rwc zRd).toArray.toList).cell? ⟨b1, 0, none⟩ = some (.int .i64 x) := by
    rw [World.cell?_setCells_out _ _ _ _ _ (fun e => absurd e.symm hne)]; exact hc
  have hz2 : (w.setCells b0 0 (rwc zRd).toArray.toList).frozen? ⟨b1, 0, none⟩ = false := by
    rw [World.frozen?_setCells]; exact hz
  generalize hw9 : w.setCells b0 0 (rwc zRd).toArray.toList = w9 at hc2 hz2
  go_wp2_with (refine wpList_store_mid rfl 26 (.tmp 0) (.tmp 10) rfl b0 0 (rwc zRd).toArray rfl rfl ht (rub_info zRd_ok.1) (rwc_one _) ?_; rw [hw9]; clear ht hc hz; go_step; go_step; go_step; refine wpList_nil ?_; exact ⟨rfl, _, rfl, .tuple #[], results_none rfl _ _ _, rfl, rfl, by subst hw9; rfl⟩)

theorem results_row_int {P : Program} {fn : Func} {p q : Tmp} {ty ti : TypeId} (h : fn.results = #[.cell p ty, .cell q ti]) (tmps : Array Value) (w : World) (b : Nat) (c : Addr) (cs : List Value) (d : TypeDesc) (x : Int)
    (hp : tmps.getD p undef = .pointer (some ⟨b, 0, none⟩)) (hq : tmps.getD q undef = .pointer (some c)) (hc : w.rangeAt b 0 cs) (hx : w.cell? c = some (.int .i64 x))
    (hu : P.underlying ty = some d) (hd : d.isRow = true) (hi : (P.info? ty).map (·.size) = some cs.length) (hl : (loadVar ti c).run P w = .ok (.int .i64 x) w) :
    (results fn tmps).run P w = .ok (.tuple #[.agg cs.toArray, .int .i64 x]) w := by
  have hp' : tmps[p]?.getD undef = .pointer (some ⟨b, 0, none⟩) := by simpa using hp
  have hq' : tmps[q]?.getD undef = .pointer (some c) := by simpa using hq
  simp [results, h, hp', hq', asAddr, run_loadVar_mid w b 0 ty cs d hc hu hd hi, hl]

set_option maxRecDepth 100000 in
set_option maxHeartbeats 8000000 in
theorem implReadRubbing_any (s : ByteArray) (hs : s.size ≤ 1048576) (w : World) :
    Calls Try.prog 12 #[.string s] w fun e w' => e = .returned (.tuple #[.agg (rwc (rdV s.data.toList)).toArray, .int .i64 (rdC s.data.toList)]) ∧ Below w.heap.size w w' := by
  have hmf : ∀ (fn : Fn) (first cap : Array Value) (w : World), (Instr.makeFunc fn first cap).run Try.prog w = .ok (.func fn first cap) w := fun _ _ _ _ => rfl
  obtain ⟨W0, hW0⟩ : ∃ W0, W0 = (w.alloc (.cells #[.int .u16 0, .int .u16 0, .int .u16 0, .int .u16 0, .int .u16 0, .int .u16 0, .int .u16 0, .int .u16 0] 26)).alloc (.cells #[.int .i64 0] 2) := ⟨_, rfl⟩
  have b0 : Below w.heap.size w W0 := by rw [hW0]; exact ((Below.refl _ _).alloc (Nat.le_refl _) _).alloc (by simp) _
  have s0 : W0.heap.size = w.heap.size + 2 := by rw [hW0]; simp
  have t0 : W0.there w.heap.size 0 8 := by rw [hW0]; exact World.there_alloc (there_newg rfl rfl) _
  have t1 : W0.there (w.heap.size + 1) 0 1 := by rw [hW0]; exact there_newg (by simp) rfl
  have HW0 := hide hW0
  clear hW0
  by_cases hok : okT (splitT s.data.toList)
  · obtain ⟨e1, e2⟩ := rd_yes hok
    rw [e1, e2]
    have HM := hide (mustRead_ok s hs hok W0)
    have HOK := hide (show rok (rdR s.data.toList) from rubF_ok _)
    clear hok e1 e2
    generalize rdR s.data.toList = R at *
    go_enter_defers Try.func12, Try.ntmps12
    repeat (first | (rw [← HW0.out]) | go_step)
    refine HM.out.mono ?_
    rintro e w1 ⟨rfl, hb1⟩
    have ht0 := there_below t0 hb1 (by omega)
    have ht1 := there_below t1 hb1 (by omega)
    have hB1 := b0.trans (hb1.mono (by omega))
    have ht0' : w1.there w.heap.size 0 (rwc R).toArray.size := by simp only [List.size_toArray]; rw [rwc_length, HOK.out.1]; exact ht0
    obtain ⟨w2, hW2⟩ : ∃ w2, w2 = w1.setCells w.heap.size 0 (rwc R).toArray.toList := ⟨_, rfl⟩
    have r2 : w2.rangeAt w.heap.size 0 (rwc R) := by rw [hW2]; exact World.rangeAt_setCells_same _ _ _ _ ht0'
    have hB2 : Below w.heap.size w w2 := by rw [hW2]; exact below_setCells _ _ _ _ hB1 (Nat.le_refl _)
    have ht2 : w2.there (w.heap.size + 1) 0 1 := by rw [hW2]; exact World.there_setCells ht1 _ _ _
    obtain ⟨hx, hv, hf⟩ := there_some ht2 (j := 0) (by omega)
    have HW2 := hide hW2
    clear hW2 hb1 t0 t1 ht0 ht1 ht2
    go_wp2_with (first
      | (refine wpList_store_mid rfl 26 (.tmp 2) (.tmp 6) rfl w.heap.size 0 (rwc R).toArray rfl rfl ht0' (rub_info HOK.out.1) (rwc_one _) ?_; rw [← HW2.out]))
    refine leaves_cons (f := 26) (args := #[.pointer (some ⟨w.heap.size, 0, none⟩), .pointer (some ⟨w.heap.size + 1, 0, none⟩)]) (by simp) (by simp [go_sem]) ?_
    refine (catch_idle _ _ _).mono ?_
    rintro e u' w'' ⟨rfl, rfl, rfl⟩
    simp [Leaves, settle]
    refine ⟨_, results_row_int rfl _ _ w.heap.size _ _ _ 0 rfl rfl (rangeAt_far r2 (by simp) _) (World.cell?_setCell_same _ _ _ hv) Try.underlying26 rfl (rub_info' HOK.out.1) ?_, rfl, ?_⟩
    · simp [loadVar, go_sem, World.cell?_setCell_same _ _ _ hv]
    · exact hB2.setCell (by simp) _
  · obtain ⟨e1, e2⟩ := rd_no hok
    rw [e1, e2]
    have HM := hide (mustRead_no s hs hok W0)
    have r1 : W0.rangeAt (w.heap.size + 1) 0 [.int .i64 0] := by rw [HW0.out]; exact rangeAt_newg (by simp) rfl
    clear hok e1 e2
    go_enter_defers Try.func12, Try.ntmps12
    repeat (first | (rw [← HW0.out]) | go_step)
    refine HM.out.mono ?_
    rintro e w1 ⟨rfl, hb1⟩
    have ht0 := there_below t0 hb1 (by omega)
    have ht1 := there_below t1 hb1 (by omega)
    have r2 := rangeAt_below r1 hb1 (by omega)
    have hc : w1.cell? ⟨w.heap.size + 1, 0, none⟩ = some (.int .i64 0) := r2 0 _ rfl
    have hB1 := b0.trans (hb1.mono (by omega))
    clear hb1 t0 t1 r1 r2
    obtain ⟨hx, hv, hf⟩ := there_some ht1 (j := 0) (by omega)
    refine leaves_cons (f := 26) (args := #[.pointer (some ⟨w.heap.size, 0, none⟩), .pointer (some ⟨w.heap.size + 1, 0, none⟩)]) (by simp) (by simp [go_sem]) ?_
    refine (catch_panicking _ _ s 0 [] _ ht0 hc hf (by omega)).mono ?_
    rintro e u' w'' ⟨rfl, rfl, rfl⟩
    have r3 : (w1.setCells w.heap.size 0 (rwc zRd).toArray.toList).rangeAt w.heap.size 0 (rwc zRd) := World.rangeAt_setCells_same _ _ _ _ ht0
    have hB3 : Below w.heap.size w (w1.setCells w.heap.size 0 (rwc zRd).toArray.toList) := below_setCells _ _ _ _ hB1 (Nat.le_refl _)
    have hv3 : (w1.setCells w.heap.size 0 (rwc zRd).toArray.toList).cell? ⟨w.heap.size + 1, 0, none⟩ = some (.int .i64 0) := by
      rw [World.cell?_setCells_out _ _ _ _ _ (fun e => absurd e (by simp))]; exact hc
    generalize w1.setCells w.heap.size 0 (rwc zRd).toArray.toList = w3 at *
    simp [Leaves, settle]
    refine ⟨_, results_row_int rfl _ _ w.heap.size _ _ _ 5 rfl rfl (rangeAt_far r3 (by simp) _) (World.cell?_setCell_same _ _ _ hv3) Try.underlying26 rfl (rub_info' zRd_ok.1) ?_, rfl, ?_⟩
    · simp [loadVar, go_sem, World.cell?_setCell_same _ _ _ hv3]
    · exact hB3.setCell (by simp) _
end Go.Proofs.Ytjmkbdghenjlaaa
