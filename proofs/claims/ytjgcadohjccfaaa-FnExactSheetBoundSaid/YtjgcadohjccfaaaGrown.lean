/- Texts of one's own lie on where another block is written. -/
import Derived.Test.YtjgcadohjccfaaaG7
namespace Go.Proofs.Ytjgcadohjccfaaa
open Go.RowKit
theorem grown_strsIn {w w' : World} {r : Option Nat} {L : Nat} (h : w.grownBy w' r) {A : Option Addr} {xs : List ByteArray} (hP : StrsIn w L A xs) (hne : ∀ b, blkS A xs = some b → some b ≠ r) : StrsIn w' L A xs := fun hn => by
  obtain ⟨b, o, rfl, h1, h2, h3, h4⟩ := hP hn
  have hb := hne b (blkS_some hn)
  exact ⟨b, o, rfl, h1, Nat.lt_of_lt_of_le h2 h.size, fun k x hx => h.cell (h3 k x hx) hb, grown_there h h4 h2 hb⟩
end Go.Proofs.Ytjgcadohjccfaaa
