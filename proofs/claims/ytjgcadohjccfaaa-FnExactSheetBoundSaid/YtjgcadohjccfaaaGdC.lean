/- Gold for lines and sheets: values behind an interface; PiecesFor of both. -/
import Derived.Test.YtjgcadohjccfaaaGdA
import Derived.Test.YtjgcadohjccfaaaLaP
import Derived.Test.YtjgcadohjccfaaaFlW
import Derived.Test.YtjgcadohjccfaaaG5
namespace Go.Proofs.Ytjgcadohjccfaaa
open Go Go.RowKit

/-! A line with gold, and sheets for one, as cells -/
def gln (F : Fc) (sl : Value) (s : ByteArray) : List Value := fc F sl ++ [.string s]
def gsh (F : Fc) (sl : Value) (s : ByteArray) (wd ov : Int) : List Value := gln F sl s ++ [.int .i16 wd, .int .i8 ov]
theorem gln_len {F : Fc} (h : F.W.length = 26) (sl : Value) (s : ByteArray) : (gln F sl s).length = 30 := by simp [gln, fc_length h]
theorem gsh_len {F : Fc} (h : F.W.length = 26) (sl : Value) (s : ByteArray) (wd ov : Int) : (gsh F sl s wd ov).length = 32 := by simp [gsh, gln_len h]
theorem gln_s {F : Fc} (h : F.W.length = 26) (sl : Value) (s : ByteArray) : (gln F sl s)[29]? = some (.string s) := by
  unfold gln; rw [List.getElem?_append_right (by rw [fc_length h]; omega), fc_length h]; rfl
theorem gln_one (F : Fc) (A : Option Addr) (n c : Nat) (s : ByteArray) : (gln F (.slice A n c) s).toArray.all (·.oneCell') = true :=
  all_oneCell_toArray (by intro v hv; simp [gln, fc, wc] at hv; rcases hv with ⟨a, _, rfl⟩ | rfl | rfl | rfl | rfl <;> rfl)
theorem gsh_one (F : Fc) (A : Option Addr) (n c : Nat) (s : ByteArray) (wd ov : Int) : (gsh F (.slice A n c) s wd ov).toArray.all (·.oneCell') = true :=
  all_oneCell_toArray (by intro v hv; simp [gsh, gln, fc, wc] at hv; rcases hv with ⟨a, _, rfl⟩ | rfl | rfl | rfl | rfl | rfl | rfl <;> rfl)
set_option maxRecDepth 100000 in
theorem built_gln' : ∀ (W : List Int) (_ : W.length = 26) (sp gp : Int) (ps : List (Int × Int × Int)) (sl : Value) (s : ByteArray),
    Try.prog.built 79 [(0, .agg (fc ⟨W, sp, gp, ps⟩ sl).toArray), (1, .string s)] = some (gln ⟨W, sp, gp, ps⟩ sl s).toArray
  | [a0, a1, a2, a3, a4, a5, a6, a7, a8, a9, a10, a11, a12, a13, a14, a15, a16, a17, a18, a19, a20, a21, a22, a23, a24, a25], _, sp, gp, ps, sl, s => by kernel_rfl
theorem built_gln {F : Fc} (h : F.W.length = 26) (sl : Value) (s : ByteArray) : Try.prog.built 79 [(0, .agg (fc F sl).toArray), (1, .string s)] = some (gln F sl s).toArray := built_gln' F.W h F.sp F.gp F.ps sl s
set_option maxRecDepth 100000 in
theorem built_gsh' : ∀ (W : List Int) (_ : W.length = 26) (sp gp : Int) (ps : List (Int × Int × Int)) (sl : Value) (s : ByteArray) (wd ov : Int),
    Try.prog.built 81 [(0, .agg (gln ⟨W, sp, gp, ps⟩ sl s).toArray), (1, .agg #[.int .i16 wd, .int .i8 ov])] = some (gsh ⟨W, sp, gp, ps⟩ sl s wd ov).toArray
  | [a0, a1, a2, a3, a4, a5, a6, a7, a8, a9, a10, a11, a12, a13, a14, a15, a16, a17, a18, a19, a20, a21, a22, a23, a24, a25], _, sp, gp, ps, sl, s, wd, ov => by kernel_rfl
theorem built_gsh {F : Fc} (h : F.W.length = 26) (sl : Value) (s : ByteArray) (wd ov : Int) : Try.prog.built 81 [(0, .agg (gln F sl s).toArray), (1, .agg #[.int .i16 wd, .int .i8 ov])] = some (gsh F sl s wd ov).toArray := built_gsh' F.W h F.sp F.gp F.ps sl s wd ov

/-! Which function a method is -/
set_option maxRecDepth 100000 in
theorem meth_valid (v : Value) (w : World) : (method 297 81 v "loop.example/g01398/impl.isValid").run Try.prog w = .ok (161, v) w := by kernel_rfl
set_option maxRecDepth 100000 in
theorem meth_wides' : ∀ (W : List Int) (_ : W.length = 26) (sp gp : Int) (ps : List (Int × Int × Int)) (sl : Value) (s : ByteArray) (wd ov : Int) (w : World),
    (method 297 81 (.agg (gsh ⟨W, sp, gp, ps⟩ sl s wd ov).toArray) "loop.example/g01398/impl.letterWides").run Try.prog w = .ok (123, .agg (gln ⟨W, sp, gp, ps⟩ sl s).toArray) w
  | [a0, a1, a2, a3, a4, a5, a6, a7, a8, a9, a10, a11, a12, a13, a14, a15, a16, a17, a18, a19, a20, a21, a22, a23, a24, a25], _, sp, gp, ps, sl, s, wd, ov, w => by kernel_rfl
end Go.Proofs.Ytjgcadohjccfaaa
