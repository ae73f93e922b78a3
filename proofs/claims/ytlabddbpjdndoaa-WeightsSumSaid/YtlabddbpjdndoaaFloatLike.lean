/- How two numbers stand to each other, in the walks' words; 'Like' and 'minus' of the statements of layer 4. -/
import Derived.Test.YtlabddbpjdndoaaFloatEnds
namespace Go.Proofs.Ytlabddbpjdndoaa
open Go.RowKit
set_option linter.unusedVariables false

theorem f_lt {a b : Nat} (ha : a < 18446744073709551616) (hb : b < 18446744073709551616) : (FloatKind.f64.format.order a b == some Ordering.lt) = (!nanB a && !nanB b && decide (sr a < sr b)) := by
  show (Ieee.double.order a b == some Ordering.lt) = _
  rw [order_eq ha hb]
  cases nanB a <;> cases nanB b <;> simp [compare, compareOfLessAndEq]
  by_cases h : sr a < sr b
  · simp [h]
  · by_cases h2 : sr a = sr b <;> simp [h, h2]
theorem f_gt {a b : Nat} (ha : a < 18446744073709551616) (hb : b < 18446744073709551616) : (FloatKind.f64.format.order a b == some Ordering.gt) = (!nanB a && !nanB b && decide (sr b < sr a)) := by
  show (Ieee.double.order a b == some Ordering.gt) = _
  rw [order_eq ha hb]
  cases nanB a <;> cases nanB b <;> simp [compare, compareOfLessAndEq]
  by_cases h : sr a < sr b
  · have : ¬ sr b < sr a := by omega
    simp [h, this]
  · by_cases h2 : sr a = sr b
    · have : ¬ sr b < sr a := by omega
      simp [h2]
    · have : sr b < sr a := by omega
      simp [h, h2, this]
theorem f_eq {a b : Nat} (ha : a < 18446744073709551616) (hb : b < 18446744073709551616) : (FloatKind.f64.format.order a b == some Ordering.eq) = (!nanB a && !nanB b && decide (sr a = sr b)) := by
  show (Ieee.double.order a b == some Ordering.eq) = _
  rw [order_eq ha hb]
  cases nanB a <;> cases nanB b <;> simp [compare, compareOfLessAndEq]
  by_cases h : sr a < sr b
  · have : ¬ sr a = sr b := by omega
    simp [h, this]
  · by_cases h2 : sr a = sr b <;> simp [h2, h]
theorem f_self {a : Nat} (ha : a < 18446744073709551616) : (FloatKind.f64.format.order a a == some Ordering.eq) = !nanB a := by
  rw [f_eq ha ha]
  cases nanB a <;> simp
theorem f_ne {a b : Nat} : (FloatKind.f64.format.order a b != some Ordering.eq) = !(FloatKind.f64.format.order a b == some Ordering.eq) := rfl

theorem like_any (a b : Nat) (w : World) (ha : a < 18446744073709551616) (hb : b < 18446744073709551616) :
    Calls Try.prog 23 #[.float .f64 a, .float .f64 b] w fun e w' => e = .returned (.bool (decide (a = b) || nanB a && nanB b)) ∧ w = w' := by
  have h1 := Lib.hid (fun w => same_ref a b w ha hb)
  have e1 : (FloatKind.f64.format.order a a != some Ordering.eq) = nanB a := by rw [f_ne, f_self ha]; cases nanB a <;> rfl
  have e2 : (FloatKind.f64.format.order b b != some Ordering.eq) = nanB b := by rw [f_ne, f_self hb]; cases nanB b <;> rfl
  generalize decide (a = b) = d at *
  generalize nanB a = x at *
  generalize nanB b = y at *
  clear ha hb
  cases d <;> cases x <;> cases y
  all_goals
    go_enter Try.func23, Try.ntmps23
    go_wp2_with fail
    refine (h1.out _).mono ?_
    rintro e w' ⟨rfl, rfl⟩
    go_wp2
    go_ret
    exact ⟨rfl, rfl⟩
theorem minus_any (w : World) : Calls Try.prog 29 #[] w fun e w' => e = .returned (.float .f64 9223372036854775808) ∧ w = w' := by
  have h1 : ∀ w, (callFunc 9 #[.int .u64 9223372036854775808]).run Try.prog w = .ok (.value (.float .f64 9223372036854775808)) w := fun w => frombits_run 9223372036854775808 w
  go_enter Try.func29, Try.ntmps29
  go_wp2
  go_ret
  exact ⟨rfl, rfl⟩
end Go.Proofs.Ytlabddbpjdndoaa
