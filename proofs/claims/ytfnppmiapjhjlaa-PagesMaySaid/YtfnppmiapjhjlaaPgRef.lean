/- The document's own functions of pages: may, Head, Put. -/
import Derived.Test.YtfnppmiapjhjlaaPgMath
import Derived.Test.YtfnppmiapjhjlaaPgStep
import Derived.Test.YtfnppmiapjhjlaaZeros
import Derived.Test.YtfnppmiapjhjlaaSealOneRef
import Derived.Test.YtfnppmiapjhjlaaNumsPutRef
import Derived.Lib.Hide
import Derived.Deep.RegionWith
import Derived.Deep.DeepMust
namespace Go.Proofs.Ytfnppmiapjhjlaa
open Go.RowKit
set_option linter.unusedVariables false

theorem pmay_ref (n p : Int) (w : World) :
    Calls Try.prog 26 #[.int .i64 n, .int .i64 p] w fun e w' => e = .returned (.bool (pgOk n p)) ∧ w = w' := by
  have hiff := @pgOk_iff n p
  generalize pgOk n p = q at *
  by_cases h1 : 60 ≤ n
  · have d1 : decide (60 ≤ n) = true := decide_eq_true h1
    by_cases h2 : n ≤ 120000
    · have d2 : decide (n ≤ 120000) = true := decide_eq_true h2
      have h0 : 0 ≤ n := by omega
      by_cases hr : n % 60 = 0
      · have e1 : (n % 60 == 0) = true := by rw [hr]; rfl
        have e2 : (n.tmod 60 == 0) = true := by rw [Int.tmod_eq_emod_of_nonneg h0]; exact e1
        by_cases hp1 : 1 ≤ p
        · have d3 : decide (1 ≤ p) = true := decide_eq_true hp1
          by_cases hp2 : p ≤ 16
          · obtain rfl : q = true := hiff.2 (by omega)
            have d4 : decide (p ≤ 16) = true := decide_eq_true hp2
            clear hiff
            go_enter Try.func26, Try.ntmps26
            go_wp2
            go_ret
            exact ⟨rfl, rfl⟩
          · obtain rfl : q = false := Bool.eq_false_iff.2 (fun e => by have := hiff.1 e; omega)
            have d4 : decide (p ≤ 16) = false := decide_eq_false hp2
            clear hiff
            go_enter Try.func26, Try.ntmps26
            go_wp2
            go_ret
            exact ⟨rfl, rfl⟩
        · obtain rfl : q = false := Bool.eq_false_iff.2 (fun e => by have := hiff.1 e; omega)
          have d3 : decide (1 ≤ p) = false := decide_eq_false hp1
          clear hiff
          go_enter Try.func26, Try.ntmps26
          go_wp2
          go_ret
          exact ⟨rfl, rfl⟩
      · obtain rfl : q = false := Bool.eq_false_iff.2 (fun e => by have := hiff.1 e; omega)
        have e1 : (n % 60 == 0) = false := by rw [beq_eq_false_iff_ne]; exact hr
        have e2 : (n.tmod 60 == 0) = false := by rw [Int.tmod_eq_emod_of_nonneg h0]; exact e1
        clear hiff hr
        go_enter Try.func26, Try.ntmps26
        go_wp2
        go_ret
        exact ⟨rfl, rfl⟩
    · obtain rfl : q = false := Bool.eq_false_iff.2 (fun e => by have := hiff.1 e; omega)
      have d2 : decide (n ≤ 120000) = false := decide_eq_false h2
      clear hiff
      go_enter Try.func26, Try.ntmps26
      go_wp2
      go_ret
      exact ⟨rfl, rfl⟩
  · obtain rfl : q = false := Bool.eq_false_iff.2 (fun e => by have := hiff.1 e; omega)
    have d1 : decide (60 ≤ n) = false := decide_eq_false h1
    clear hiff
    go_enter Try.func26, Try.ntmps26
    go_wp2
    go_ret
    exact ⟨rfl, rfl⟩
end Go.Proofs.Ytfnppmiapjhjlaa
