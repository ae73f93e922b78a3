/- Key, Back, Same, Class, and a number's bits: the document's. -/
import Derived.Test.YtfnppmiapjhjlaaFloatFold
import Derived.Test.YtfnppmiapjhjlaaBase
import Derived.Test.YtfnppmiapjhjlaaFloatFrom
import Derived.Laws.Externs
import Derived.Laws.Bits64
namespace Go.Proofs.Ytfnppmiapjhjlaa
open Go.RowKit
set_option linter.unusedVariables false

end Go.Proofs.Ytfnppmiapjhjlaa
