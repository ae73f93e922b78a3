/- The chapter's examples of layer 3, as the statements ask them. -/
import Derived.Test.YtlhoomdmjkabfaaHash
namespace Go.Proofs.Ytlhoomdmjkabfaa
open Go.RowKit
set_option linter.unusedVariables false

theorem ex_hash (x : Nat) (s : ByteArray) (n : Nat) (hx : x < 18446744073709551616) (hs : s.size ≤ 1000) (h : hashH x s.data.toList = n) (w : World) :
    Calls Try.prog 8 #[.int .u64 (x : Nat), .string s] w fun e w' => e = .returned (.int .u64 (n : Nat)) ∧ w = w' := h ▸ hash_any x s w hx (by unfold maxLen; omega)
theorem ex_step (x n : Nat) (hx : x < 18446744073709551616) (h : stepH x = n) (w : World) :
    Calls Try.prog 10 #[.int .u64 (x : Nat)] w fun e w' => e = .returned (.int .u64 (n : Nat)) ∧ w = w' := h ▸ step_any x w hx

set_option maxHeartbeats 1000000 in
theorem hashed_true (w : World) : Calls Try.prog 7 #[] w fun e w' => e = .returned (.bool true) ∧ w = w' := by
  go_enter Try.func7, Try.ntmps7
  go_wp2_with fail
  refine (ex_hash 0 ⟨#[97, 98, 99]⟩ 7 (by decide) (by decide) (by decide +kernel) _).mono ?_
  rintro e w1 ⟨rfl, rfl⟩
  go_wp2_with fail
  refine (ex_hash 14695981039346656037 ⟨#[]⟩ 0 (by decide) (by decide) (by decide +kernel) _).mono ?_
  rintro e w1 ⟨rfl, rfl⟩
  go_wp2_with fail
  refine (ex_hash 14695981039346656037 ⟨#[0]⟩ 0 (by decide) (by decide) (by decide +kernel) _).mono ?_
  rintro e w1 ⟨rfl, rfl⟩
  go_wp2_with fail
  refine (ex_step 0 1 (by decide) (by decide +kernel) _).mono ?_
  rintro e w1 ⟨rfl, rfl⟩
  go_wp2_with fail
  refine (ex_step 262144 3 (by decide) (by decide +kernel) _).mono ?_
  rintro e w1 ⟨rfl, rfl⟩
  go_wp2_with fail
  refine (ex_step 1 140737488355329 (by decide) (by decide +kernel) _).mono ?_
  rintro e w1 ⟨rfl, rfl⟩
  go_wp2
  go_ret
  exact ⟨rfl, rfl⟩
end Go.Proofs.Ytlhoomdmjkabfaa
