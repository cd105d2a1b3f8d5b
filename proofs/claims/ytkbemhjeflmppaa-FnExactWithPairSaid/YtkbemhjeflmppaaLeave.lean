/- A call that stays in its one goroutine: of its row may be said that the others are only leaving. -/
import Derived.Test.YtkbemhjeflmppaaChecked
import Derived.Handed
import Derived.Conc.Holds
namespace Go.Proofs.Ytkbemhjeflmppaa
open Go

theorem leaving_of_handed {a : Assume} {C : Checked} {os : Os} {f : FuncId} {r : Reach} {Pre : World → Array Value → Prop} {Post : World → Array Value → Value → World → Prop}
    (h : ReturnsInHanded a C os f r Pre Post) : ReturnsInLeavingWide a C os f r Pre Post := fun e =>
  ReturnsInOpen.mono (fun m w t x => ⟨x.2.1, ⟨fun g hg => ⟨0, by
    have hd := x.1.1
    unfold Machine.othersDone at hd
    exact eq_of_beq (List.all_eq_true.1 hd g hg)⟩, x.1.2⟩, x.2.2⟩) (fun _ x => x) (h e)
end Go.Proofs.Ytkbemhjeflmppaa
