/- Hash and Step: the document's. -/
import Derived.Test.YtfnppmiapjhjlaaHash
namespace Go.Proofs.Ytfnppmiapjhjlaa
open Go.RowKit
set_option linter.unusedVariables false

theorem step_ref_walk (x : Nat) (hx : x < 18446744073709551616) : (x : Int) / 131072 + (x : Int) % 131072 * 140737488355328 = ((rotH x : Nat) : Int) := by unfold rotH; omega

theorem step_ref_wrap (x : Nat) (hx : x < 18446744073709551616) : IntKind.u64.wrap (IntKind.u64.wrap ((x : Int) / 131072 + (x : Int) % 131072 * 140737488355328 + 1) - ((x : Int) / 131072 + (x : Int) % 131072 * 140737488355328) % 2) = ((stepH x : Nat) : Int) := by
  have hr := rotH_lt hx
  rw [step_ref_walk x hx, IntKind.wrap_u64, IntKind.wrap_u64]
  unfold stepH
  generalize rotH x = r at *
  omega

theorem step_ref (x : Nat) (w : World) (hx : x < 18446744073709551616) :
    Calls Try.prog 46 #[.int .u64 (x : Nat)] w fun e w' => e = .returned (.int .u64 (stepH x : Nat)) ∧ w = w' := by
  go_enter Try.func46, Try.ntmps46
  go_wp2
  go_ret
  exact ⟨ret_u64 (step_ref_wrap x hx), rfl⟩

end Go.Proofs.Ytfnppmiapjhjlaa
