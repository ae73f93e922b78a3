/- sums.Open: whether a text is sealed, and the text that is (Seal stands apart, in SealOne). -/
import Derived.Test.YtcfidpjhemjbjaaSealOne
namespace Go.Proofs.Ytcfidpjhemjbjaa
open Go.RowKit
set_option linter.unusedVariables false

/-- Is a text sealed (P2.2)? -/
def opOk (s : ByteArray) : Bool := decide (4 ≤ s.size ∧ s.extract (s.size - 4) s.size = bs (tailS (s.extract 0 (s.size - 4)).data.toList))
/-- The text that is sealed (P2.2). -/
def opA (s : ByteArray) : ByteArray := if opOk s = true then s.extract 0 (s.size - 4) else ByteArray.empty

theorem list_eq {a b : ByteArray} (h : a = b) : (a.toList == b.toList) = true := by rw [h, beq_iff_eq]
theorem list_ne {a b : ByteArray} (h : ¬ a = b) : (a.toList == b.toList) = false := by
  rw [beq_eq_false_iff_ne]
  intro x
  rw [Lib.toList_data, Lib.toList_data] at x
  exact h (ByteArray.ext (Array.toList_inj.1 x))

end Go.Proofs.Ytcfidpjhemjbjaa
