/- How two numbers stand to each other, in the walks' words. -/
import Derived.Test.YtdhkfkkpddpcaaaFloatMath
import Derived.Test.YtdhkfkkpddpcaaaBase
namespace Go.Proofs.Ytdhkfkkpddpcaaa
open Go.RowKit
set_option linter.unusedVariables false

theorem f_lt {a b : Nat} (ha : a < 18446744073709551616) (hb : b < 18446744073709551616) : (FloatKind.f64.format.order a b == some Ordering.lt) = (!nanB a && !nanB b && decide (sr a < sr b)) := by
  show (Ieee.double.order a b == some Ordering.lt) = _
  rw [order_eq ha hb]
  cases nanB a <;> cases nanB b <;> simp [compare, compareOfLessAndEq]
  by_cases h : sr a < sr b
  · simp [h]
  · by_cases h2 : sr a = sr b <;> simp [h, h2]
theorem f_gt {a b : Nat} (ha : a < 18446744073709551616) (hb : b < 18446744073709551616) : (FloatKind.f64.format.order a b == some Ordering.gt) = (!nanB a && !nanB b && decide (sr b < sr a)) := by
  show (Ieee.double.order a b == some Ordering.gt) = _
  rw [order_eq ha hb]
  cases nanB a <;> cases nanB b <;> simp [compare, compareOfLessAndEq]
  by_cases h : sr a < sr b
  · have : ¬ sr b < sr a := by omega
    simp [h, this]
  · by_cases h2 : sr a = sr b
    · have : ¬ sr b < sr a := by omega
      simp [h2]
    · have : sr b < sr a := by omega
      simp [h, h2, this]
theorem f_eq {a b : Nat} (ha : a < 18446744073709551616) (hb : b < 18446744073709551616) : (FloatKind.f64.format.order a b == some Ordering.eq) = (!nanB a && !nanB b && decide (sr a = sr b)) := by
  show (Ieee.double.order a b == some Ordering.eq) = _
  rw [order_eq ha hb]
  cases nanB a <;> cases nanB b <;> simp [compare, compareOfLessAndEq]
  by_cases h : sr a < sr b
  · have : ¬ sr a = sr b := by omega
    simp [h, this]
  · by_cases h2 : sr a = sr b <;> simp [h2, h]
theorem f_self {a : Nat} (ha : a < 18446744073709551616) : (FloatKind.f64.format.order a a == some Ordering.eq) = !nanB a := by
  rw [f_eq ha ha]
  cases nanB a <;> simp
theorem f_ne {a b : Nat} : (FloatKind.f64.format.order a b != some Ordering.eq) = !(FloatKind.f64.format.order a b == some Ordering.eq) := rfl
theorem f_le {a b : Nat} (ha : a < 18446744073709551616) (hb : b < 18446744073709551616) : (FloatKind.f64.format.order a b == some Ordering.lt || FloatKind.f64.format.order a b == some Ordering.eq) = (!nanB a && !nanB b && decide (sr a ≤ sr b)) := by
  rw [f_lt ha hb, f_eq ha hb]
  cases nanB a <;> cases nanB b <;> simp
  by_cases h : sr a < sr b
  · simp [h, Int.le_of_lt h]
  · by_cases h2 : sr a = sr b
    · simp [h2]
    · have h3 : ¬ sr a ≤ sr b := by omega
      simp [h, h2, h3]
end Go.Proofs.Ytdhkfkkpddpcaaa
