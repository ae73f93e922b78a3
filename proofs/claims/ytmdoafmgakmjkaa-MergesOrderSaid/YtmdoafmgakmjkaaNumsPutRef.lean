/- The document's own part of NumsPut. -/
import Derived.Test.YtmdoafmgakmjkaaNumsPut
namespace Go.Proofs.Ytmdoafmgakmjkaa
open Go.RowKit
set_option linter.unusedVariables false

end Go.Proofs.Ytmdoafmgakmjkaa
