/- 'Same' of the statements of layer 13; Sorted: the program's, the document's. -/
import Derived.Test.YtifhiiokgpbhmaaEntRange
import Derived.Test.YtifhiiokgpbhmaaEntRef
namespace Go.Proofs.Ytifhiiokgpbhmaa
open Go.RowKit Go.Shelf
set_option linter.unusedVariables false

def SameEnd (b : Bool) (w : World) (e : Ending) (w' : World) : Prop := e = .returned (.bool b) ∧ ∃ n, w' = w.drewN n
theorem ents_eq {a b : List EntS} (hl : a.length = b.length) (h : ∀ (j : Nat) x y, a[j]? = some x → b[j]? = some y → x = y) : a = b := by
  apply List.ext_getElem hl
  intro j h1 h2
  exact h j _ _ (List.getElem?_eq_getElem h1) (List.getElem?_eq_getElem h2)
end Go.Proofs.Ytifhiiokgpbhmaa
