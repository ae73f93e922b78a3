/- Two texts, the same or not, in the walk's words. No function of the program. -/
import Derived.Test.YtcfidpjhemjbjaaBase
import Derived.Lib.IndexBytes
namespace Go.Proofs.Ytcfidpjhemjbjaa
set_option linter.unusedVariables false

theorem ctxt_eq {a b : ByteArray} (h : a = b) : (a.toList != b.toList) = false ∧ (a.toList == b.toList) = true ∧ (!(a.toList == b.toList)) = false := by subst h; simp
theorem ctxt_ne {a b : ByteArray} (h : ¬ a = b) : (a.toList != b.toList) = true ∧ (a.toList == b.toList) = false ∧ (!(a.toList == b.toList)) = true := by
  have : ¬ a.toList = b.toList := fun x => by
    rw [Lib.toList_data, Lib.toList_data] at x
    exact h (ByteArray.ext (Array.toList_inj.1 x))
  simpa using this
end Go.Proofs.Ytcfidpjhemjbjaa
