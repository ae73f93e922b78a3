/- The document's own part of NumsPut. -/
import Derived.Test.YtiaobmgafhcfnaaNumsPut
namespace Go.Proofs.Ytiaobmgafhcfnaa
open Go.RowKit
set_option linter.unusedVariables false

end Go.Proofs.Ytiaobmgafhcfnaa
