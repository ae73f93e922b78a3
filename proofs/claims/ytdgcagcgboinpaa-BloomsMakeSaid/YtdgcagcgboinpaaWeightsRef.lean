/- Key, Back, Same, Class, and a number's bits: the document's. -/
import Derived.Test.YtdgcagcgboinpaaFloatFold
import Derived.Test.YtdgcagcgboinpaaBase
import Derived.Test.YtdgcagcgboinpaaFloatFrom
import Derived.Laws.Externs
import Derived.Laws.Bits64
namespace Go.Proofs.Ytdgcagcgboinpaa
open Go.RowKit
set_option linter.unusedVariables false

end Go.Proofs.Ytdgcagcgboinpaa
