/- A number of a word's bits; tests on words, in the walks' words. -/
import Derived.Test.YtfnppmiapjhjlaaBase
import Derived.Laws.Externs
namespace Go.Proofs.Ytfnppmiapjhjlaa
open Go.RowKit
set_option linter.unusedVariables false

theorem ret_w64 {a b : Int} (h : a = b) : Ending.returned (.int .u64 a) = .returned (.int .u64 b) := by rw [h]
theorem ret_f64 {a b : Nat} (h : a = b) : Ending.returned (.float .f64 a) = .returned (.float .f64 b) := by rw [h]

/-- A test on a word, in the walk's words. -/
theorem ge_yes {b c : Nat} (h : c ≤ b) : decide ((c : Int) ≤ (b : Int)) = true := decide_eq_true (by omega)
theorem ge_no {b c : Nat} (h : ¬ c ≤ b) : decide ((c : Int) ≤ (b : Int)) = false := decide_eq_false (by omega)
theorem lt_yes {b c : Nat} (h : b < c) : decide ((b : Int) < (c : Int)) = true := decide_eq_true (by omega)
theorem lt_no {b c : Nat} (h : ¬ b < c) : decide ((b : Int) < (c : Int)) = false := decide_eq_false (by omega)

end Go.Proofs.Ytfnppmiapjhjlaa
