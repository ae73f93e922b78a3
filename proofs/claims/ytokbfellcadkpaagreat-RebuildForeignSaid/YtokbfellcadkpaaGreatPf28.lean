/- ZfTfNone -/
import Derived.Test.YtokbfellcadkpaaGreatPf12
import Derived.Test.YtokbfellcadkpaaGreatPf10
import Derived.Test.YtokbfellcadkpaaGreatPf26
import Derived.Test.YtokbfellcadkpaaGreatPf25
import Derived.Test.YtokbfellcadkpaaGreatPf01
import Derived.Test.YtokbfellcadkpaaGreatPf02
namespace Go.Proofs.YtokbfellcadkpaaGreat
open Go.RowKit Go.Shelf
set_option linter.unusedVariables false
section
variable {w : World} {p : Value}
theorem tready_nil (hn:Says 97 #[p] w (.bool true)) : Says 61 #[p] w (.int .i64 1):=by
 have k0:=Lib.hid (hn);clear hn;unfold Says at *;go_enter Tryz.func61,Tryz.ntmps61;go_wp2_with fail;refine k0.out.mono ?_;rintro e w' ⟨rfl,rfl⟩;go_wp2;go_ret;exact⟨rfl,rfl⟩
theorem tflread_nil (hn:Says 97 #[p] w (.bool true))(k:Int) : Says 28 #[p,.int .i64 k] w (.tuple #[.string ByteArray.empty,.int .i64 1]):=by
 have k0:=Lib.hid (tready_nil hn);clear hn;unfold Says at *;go_enter Tryz.func28,Tryz.ntmps28;go_wp2_with fail;refine k0.out.mono ?_;rintro e w' ⟨rfl,rfl⟩;go_wp2;go_ret2;exact⟨rfl,rfl⟩
end
end Go.Proofs.YtokbfellcadkpaaGreat
