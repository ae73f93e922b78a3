/- The walk of annalistlaw03.HashesStep. -/
import Derived.Test.YtlhoomdmjkabfaaHashEx
namespace Go.Proofs.Ytlhoomdmjkabfaa.hashesStepW
open Go.RowKit
set_option linter.unusedVariables false

theorem flip_walk (x b : Nat) (hx : x < 18446744073709551616) (hb : b < 64) : bits .xor .u64 (x : Int) (IntKind.u64.wrap (2 ^ b)) = ((x ^^^ 2 ^ b : Nat) : Int) ∧ x ^^^ 2 ^ b < 18446744073709551616 := by
  have h2 : 2 ^ b < 18446744073709551616 := Nat.pow_lt_pow_right (by decide) hb (m := b) (n := 64)
  have e : IntKind.u64.wrap (2 ^ b) = ((2 ^ b : Nat) : Int) := by
    have e2 : (2 : Int) ^ b = ((2 ^ b : Nat) : Int) := by rw [Int.natCast_pow]; rfl
    rw [IntKind.wrap_u64, e2]
    generalize 2 ^ b = p at *
    omega
  rw [e]
  exact ⟨u64_xor_nat x _ hx h2, xlt hx h2⟩

set_option maxHeartbeats 400000 in
theorem walk (a0 : Int) (a1 : Int) (w0 : (Lit.int .u64 a0).wf = true) (w1 : (Lit.int .u8 a1).wf = true) (w : World) :
    Calls Try.prog 6 #[.int .u64 a0, .int .u8 a1] w fun e w' => e = .returned (.bool true) ∧ Below w.heap.size w w' := by
  obtain ⟨x, rfl, hx⟩ := u64_nat w0
  obtain ⟨y, rfl, hy⟩ := u8_nat w1
  obtain ⟨e1, hz⟩ := flip_walk x (y % 64) hx (Nat.mod_lt _ (by decide))
  have hbit := stepH_bit (b := y % 64) hx (Nat.mod_lt _ (by decide))
  generalize x ^^^ 2 ^ (y % 64) = z at *
  have h1 := Lib.hid (fun w => step_any x w hx)
  have h2 := Lib.hid (fun w => step_any z w hz)
  have o1 := stepH_odd x
  have o2 := stepH_odd z
  generalize stepH x = a at *
  generalize stepH z = b at *
  have t1 : ((a : Int) % 2 == 1) = true := by simp; omega
  have t2 : ((b : Int) % 2 == 1) = true := by simp; omega
  obtain ⟨d, d1, d2⟩ : ∃ d : Bool, ((a : Int) != (b : Int)) = d ∧ ((y : Int) % 64 != 17) = d := by
    by_cases h : y % 64 = 17
    · have h' := hbit.2 h
      exact ⟨false, by simp; omega, by simp; omega⟩
    · have h' := fun e => h (hbit.1 e)
      exact ⟨true, by simp; omega, by simp; omega⟩
  have d3 : (d == d) = true := beq_self_eq_true d
  go_enter Try.func6, Try.ntmps6
  go_wp2_with fail
  refine (h1.out _).mono ?_
  rintro e w' ⟨rfl, rfl⟩
  go_wp2_with fail
  refine (h2.out _).mono ?_
  rintro e w' ⟨rfl, rfl⟩
  go_wp2_with fail
  refine (hashed_true _).mono ?_
  rintro e w' ⟨rfl, rfl⟩
  go_wp2
  go_ret
  exact ⟨rfl, Below.refl _ _⟩
end Go.Proofs.Ytlhoomdmjkabfaa.hashesStepW
