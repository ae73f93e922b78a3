/- Last, Sorted of entries: the program's. -/
import Derived.Test.YtifhiiokgpbhmaaEntRange
namespace Go.Proofs.Ytifhiiokgpbhmaa
open Go.RowKit Go.Shelf
set_option linter.unusedVariables false

end Go.Proofs.Ytifhiiokgpbhmaa
