/- The program's batches answer as the API says. -/
import Derived.Test.YtnefofcofccmfaaBatApi
import Derived.Test.YtnefofcofccmfaaBatPutOwn
import Derived.Test.YtnefofcofccmfaaBatGetOwn
namespace Go.Proofs.Ytnefofcofccmfaa
open Go.RowKit
theorem bapi : BatApi := ⟨bcheck_any, bput_any, bget_any, bsame_any⟩
end Go.Proofs.Ytnefofcofccmfaa
