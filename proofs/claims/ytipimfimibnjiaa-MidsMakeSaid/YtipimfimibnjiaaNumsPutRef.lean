/- The document's own part of NumsPut. -/
import Derived.Test.YtipimfimibnjiaaNumsPut
namespace Go.Proofs.Ytipimfimibnjiaa
open Go.RowKit
set_option linter.unusedVariables false

end Go.Proofs.Ytipimfimibnjiaa
