/- Where the words of a text are, if it is one line: the program's spans. -/
import Derived.Test.YtjgcadohjccfaaaImplLine
import Derived.Test.YtjgcadohjccfaaaG2
namespace Go.Proofs.Ytjgcadohjccfaaa
open Go Go.RowKit Go.Shelf Go.Sort
attribute [local go_sem] Oper.semAt_some

/-- The cells of the spans, from p on. -/
def spanFrom (F : Fc) (p : Int) : List (List UInt8) → List Value
  | [] => []
  | x :: r => .int .i64 p :: .int .i64 (p + wideL F x) :: spanFrom F (p + wideL F x + F.sp) r
/-- Where the next word begins. -/
def endFrom (F : Fc) (p : Int) : List (List UInt8) → Int
  | [] => p
  | x :: r => endFrom F (p + wideL F x + F.sp) r
theorem spanFrom_len (F : Fc) : ∀ (ws : List (List UInt8)) (p : Int), (spanFrom F p ws).length = ws.length * 2
  | [], _ => rfl
  | x :: r, p => by have := spanFrom_len F r (p + wideL F x + F.sp); simp only [spanFrom, List.length_cons, this]; omega
theorem spanFrom_snoc (F : Fc) : ∀ (ws : List (List UInt8)) (p : Int) (x : List UInt8), spanFrom F p (ws ++ [x]) = spanFrom F p ws ++ [.int .i64 (endFrom F p ws), .int .i64 (endFrom F p ws + wideL F x)]
  | [], _, _ => rfl
  | y :: r, p, x => by have := spanFrom_snoc F r (p + wideL F y + F.sp) x; simp only [List.cons_append, spanFrom, endFrom, this]
theorem endFrom_snoc (F : Fc) : ∀ (ws : List (List UInt8)) (p : Int) (x : List UInt8), endFrom F p (ws ++ [x]) = endFrom F p ws + wideL F x + F.sp
  | [], _, _ => rfl
  | y :: r, p, x => by have := endFrom_snoc F r (p + wideL F y + F.sp) x; simp only [List.cons_append, endFrom, this]
theorem preL_cons (F : Fc) (x : List UInt8) (r : List (List UInt8)) : ∀ k, preL F (x :: r) (k + 1) = wideL F x + F.sp + preL F r k
  | 0 => by simp [preL]
  | k + 1 => by have := preL_cons F x r k; rw [preL, this]; simp only [preL, List.getD_cons_succ]; omega
theorem spanFrom_get (F : Fc) : ∀ (ws : List (List UInt8)) (p : Int) (k : Nat), k < ws.length → (spanFrom F p ws)[2 * k]? = some (.int .i64 (p + preL F ws k)) ∧ (spanFrom F p ws)[2 * k + 1]? = some (.int .i64 (p + preL F ws k + wideL F (ws.getD k [])))
  | [], _, _, h => by simp at h
  | x :: r, p, 0, _ => by simp [spanFrom, preL]
  | x :: r, p, k + 1, h => by
    have ih := spanFrom_get F r (p + wideL F x + F.sp) k (by simpa using h)
    have e1 : 2 * (k + 1) = 2 * k + 1 + 1 := by omega
    have e2 : 2 * (k + 1) + 1 = (2 * k + 1) + 1 + 1 := by omega
    rw [e2, e1, preL_cons]
    simp only [spanFrom, List.getElem?_cons_succ, List.getD_cons_succ, ih.1, ih.2]
    constructor <;> (congr 2; omega)
theorem endFrom_pre (F : Fc) : ∀ (ws : List (List UInt8)) (p : Int), endFrom F p ws = p + preL F ws ws.length
  | [], p => by simp [endFrom, preL]
  | x :: r, p => by rw [endFrom, endFrom_pre F r, List.length_cons, preL_cons]; omega
/-- The words that have come. -/
def wds (pre : List Wd) : List (List UInt8) := pre.map (·.1)
theorem wds_len (pre : List Wd) : (wds pre).length = pre.length := by simp [wds]
theorem wds_ok (pre : List Wd) : ∀ x ∈ wds pre, x.length ≤ 60 ∧ allCap x := by
  intro x hx
  obtain ⟨y, _, rfl⟩ := List.mem_map.1 hx
  exact y.2
theorem wds_snoc (pre : List Wd) (x : Wd) : wds (pre ++ [x]) = wds pre ++ [x.1] := by simp [wds]
theorem endFrom_bd {F : Fc} (hF : F.ok) (h : vface F = true) (pre : List Wd) (hn : pre.length ≤ 61) : 0 ≤ endFrom F 0 (wds pre) ∧ endFrom F 0 (wds pre) ≤ 222040 := by
  have := preL_bd hF h (wds_ok pre) (wds pre).length (Nat.le_refl _)
  rw [endFrom_pre]
  simp only [wds, List.length_map] at *
  omega

theorem ret_slice {A : Option Addr} {n m c : Nat} (h : n = m) : Ending.returned (.slice A n c) = .returned (.slice A m c) := by rw [h]
end Go.Proofs.Ytjgcadohjccfaaa
