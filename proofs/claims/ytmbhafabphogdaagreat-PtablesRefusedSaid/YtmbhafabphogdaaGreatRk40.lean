/- BlHas -/
import Derived.Test.YtmbhafabphogdaaGreatRk39
import Derived.Test.YtmbhafabphogdaaGreatRk02
import Derived.Stop.RegionWithIn
/- BlHas -/
namespace Go.Proofs.YtmbhafabphogdaaGreat
open Go.RowKit Go.Shelf
set_option linter.unusedVariables false
attribute [local go_sem] Oper.semAt_some

theorem keeps_below {B : Nat} {W W' : World} (h : Below W.heap.size W W') : KeepsFrom B W W' := ⟨h.size, fun k o _ hk _ => (h.block k (Array.getElem?_eq_some_iff.1 hk).1).trans hk⟩
theorem below_of_drew {B : Nat} {a w : World} (h : Below B a.drew w) : Below B a w := ⟨h.os, h.tape, h.output, h.size, h.block⟩

end Go.Proofs.YtmbhafabphogdaaGreat
