/- Hash and Step: the program's. -/
import Derived.Test.YtfnppmiapjhjlaaHashMath
import Derived.Test.YtfnppmiapjhjlaaBase
import Derived.Laws.Bits64
namespace Go.Proofs.Ytfnppmiapjhjlaa
open Go.RowKit
set_option linter.unusedVariables false

theorem val_u64 {a b : Int} (h : a = b) : Value.int .u64 a = .int .u64 b := by rw [h]
theorem ret_u64 {a b : Int} (h : a = b) : Ending.returned (.int .u64 a) = .returned (.int .u64 b) := by rw [h]

/-- The words that the walks write, for what is reckoned here. -/
theorem mixA_walk (x : Nat) (hx : x < 18446744073709551616) : IntKind.u64.wrap (bits .xor .u64 (x : Int) ((x : Int) / 4294967296) * 11400714819323198485) = ((mixA x : Nat) : Int) := mixStep_u64 x 4294967296 11400714819323198485 hx
theorem mixH_walk (x : Nat) : bits .xor .u64 ((mixA x : Nat) : Int) (((mixA x : Nat) : Int) / 536870912) = ((mixH x : Nat) : Int) := xorShift_u64 (mixA x) 536870912 (mixA_lt x)

theorem amount : bits .and .u64 (IntKind.u64.wrap (-17)) 63 = 47 := by decide +kernel

theorem rotH_or (x : Nat) (hx : x < 18446744073709551616) : x * 140737488355328 % 18446744073709551616 ||| x / 131072 = rotH x := by
  have e : x * 140737488355328 % 18446744073709551616 = x % 131072 * 140737488355328 := by omega
  have h := nat_join 47 (x % 131072 * 140737488355328) (x / 131072) (Nat.mul_mod_left _ _) (by omega)
  rw [e, h]
  unfold rotH
  omega
theorem rot_walk (x : Nat) (hx : x < 18446744073709551616) : bits .or .u64 (IntKind.u64.wrap ((x : Int) * 140737488355328)) ((x : Int) / 131072) = ((rotH x : Nat) : Int) := by
  have e1 : IntKind.u64.wrap ((x : Int) * 140737488355328) = ((x * 140737488355328 % 18446744073709551616 : Nat) : Int) := by
    rw [IntKind.wrap_u64]
    omega
  have e2 : (x : Int) / 131072 = ((x / 131072 : Nat) : Int) := by omega
  rw [e1, e2, u64_or_nat _ _ (by omega) (by omega), rotH_or x hx]

theorem rot_any (x : Nat) (w : World) (hx : x < 18446744073709551616) :
    Calls Try.prog 56 #[.int .u64 (x : Nat), .int .i64 (-17)] w fun e w' => e = .returned (.int .u64 (rotH x : Nat)) ∧ w = w' := by
  have hb := amount
  go_enter Try.func56, Try.ntmps56
  go_wp2
  go_ret
  exact ⟨ret_u64 (rot_walk x hx), rfl⟩

theorem step_walk (x : Nat) (hx : x < 18446744073709551616) : bits .or .u64 ((rotH x : Nat) : Int) 1 = ((stepH x : Nat) : Int) := by
  have h := u64_or_nat (rotH x) 1 (rotH_lt hx) (by decide)
  rw [stepH_or] at h
  exact h

theorem step_any (x : Nat) (w : World) (hx : x < 18446744073709551616) :
    Calls Try.prog 45 #[.int .u64 (x : Nat)] w fun e w' => e = .returned (.int .u64 (stepH x : Nat)) ∧ w = w' := by
  have h := Lib.hid (fun w => rot_any x w hx)
  have hr := rotH_lt hx
  have hs := Lib.hid (step_walk x hx)
  generalize rotH x = r at *
  go_enter Try.func45, Try.ntmps45
  go_wp2_with fail
  refine (h.out _).mono ?_
  rintro e w' ⟨rfl, rfl⟩
  go_wp2
  go_ret
  exact ⟨ret_u64 hs.out, rfl⟩

/-- A byte goes into a state, as the walk writes it. -/
theorem hst_walk (y c : Nat) (hy : y < 18446744073709551616) (hc : c < 256) : IntKind.u64.wrap (bits .xor .u64 (y : Int) (c : Int) * 1099511628211) = ((hst y c : Nat) : Int) := by
  rw [u64_xor_nat y c hy (byte_big hc), IntKind.wrap_u64, hst_eq, Int.natCast_emod, Int.natCast_mul]
  rfl
theorem start_walk (s : Nat) (hs : s < 18446744073709551616) : bits .xor .u64 14695981039346656037 (s : Int) = ((startH ^^^ s : Nat) : Int) := u64_xor_nat 14695981039346656037 s (by decide) hs

end Go.Proofs.Ytfnppmiapjhjlaa
