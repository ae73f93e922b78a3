/- Probe: the program's and the document's; mask. -/
import Derived.Test.YtfnppmiapjhjlaaBlMath
import Derived.Test.YtfnppmiapjhjlaaHashRef
namespace Go.Proofs.Ytfnppmiapjhjlaa
open Go.RowKit
set_option linter.unusedVariables false

theorem prb_walk (h n m : Nat) (hh : h < 18446744073709551616) (hm : 0 < m) : prb h (n : Nat) (m : Nat) = (h + n * stepH h % 18446744073709551616) % 18446744073709551616 % m := by
  unfold prb
  rw [if_neg (by omega), Int.toNat_natCast, Int.toNat_natCast]
  congr 1
  omega
theorem prb_wrap (h n m s : Nat) (hh : h < 18446744073709551616) (hn : n < 9223372036854775808) (hm : m < 9223372036854775808) (hm0 : 0 < m) (hs : stepH h = s) :
    wrap64 (Int.tmod (IntKind.u64.wrap ((h : Int) + IntKind.u64.wrap ((n : Int) * (s : Int)))) (m : Int)) = ((prb h (n : Nat) (m : Nat) : Nat) : Int) := by
  rw [prb_walk h n m hh hm0, hs, IntKind.wrap_u64, IntKind.wrap_u64, ← Int.natCast_mul]
  have e : ((h : Int) + ((n * s : Nat) : Int) % 18446744073709551616) % 18446744073709551616 = (((h + n * s % 18446744073709551616) % 18446744073709551616 : Nat) : Int) := by omega
  rw [e]
  generalize (h + n * s % 18446744073709551616) % 18446744073709551616 = x
  rw [← Int.ofNat_tmod]
  have := Nat.mod_lt x hm0
  generalize x % m = y at *
  unfold wrap64
  omega

set_option maxHeartbeats 400000 in
theorem probe_any (h : Nat) (i b : Int) (w : World) (hh : h < 18446744073709551616) (wi : (Lit.int .i64 i).wf = true) (wb : (Lit.int .i64 b).wf = true) :
    Calls Try.prog 32 #[.int .u64 (h : Nat), .int .i64 i, .int .i64 b] w fun e w' => e = .returned (.int .i64 (prb h i b : Nat)) ∧ w = w' := by
  have bi := bounds_i64 wi
  have bb := bounds_i64 wb
  by_cases hb : b < 1
  · have e : prb h i b = 0 := by unfold prb; rw [if_pos (Or.inl hb)]
    rw [e]
    go_enter Try.func32, Try.ntmps32
    go_wp2
    go_ret
    exact ⟨rfl, rfl⟩
  · by_cases hi : i < 0
    · have e : prb h i b = 0 := by unfold prb; rw [if_pos (Or.inr hi)]
      rw [e]
      go_enter Try.func32, Try.ntmps32
      go_wp2
      go_ret
      exact ⟨rfl, rfl⟩
    · obtain ⟨n, rfl⟩ : ∃ n : Nat, i = n := ⟨i.toNat, by omega⟩
      obtain ⟨m, rfl⟩ : ∃ m : Nat, b = m := ⟨b.toNat, by omega⟩
      have hs := Lib.hid fun w => step_any h w hh
      have hl := stepH_lt hh
      have hw := Lib.hid (prb_wrap h n m (stepH h) hh (by omega) (by omega) (by omega) rfl)
      generalize stepH h = s at *
      generalize prb h (n : Nat) (m : Nat) = r at *
      have hm0 : ((m : Int) == 0) = false := by simp; omega
      go_enter Try.func32, Try.ntmps32
      go_wp2_with fail
      refine (hs.out _).mono ?_
      rintro e w' ⟨rfl, rfl⟩
      go_wp2
      go_ret
      refine ⟨ret_int ?_, rfl⟩
      exact hw.out
set_option maxHeartbeats 400000 in
/-- The document's. -/
theorem probe_ref (h : Nat) (i b : Int) (w : World) (hh : h < 18446744073709551616) (wi : (Lit.int .i64 i).wf = true) (wb : (Lit.int .i64 b).wf = true) :
    Calls Try.prog 34 #[.int .u64 (h : Nat), .int .i64 i, .int .i64 b] w fun e w' => e = .returned (.int .i64 (prb h i b : Nat)) ∧ w = w' := by
  have bi := bounds_i64 wi
  have bb := bounds_i64 wb
  by_cases hb : b < 1
  · have e : prb h i b = 0 := by unfold prb; rw [if_pos (Or.inl hb)]
    rw [e]
    go_enter Try.func34, Try.ntmps34
    go_wp2
    go_ret
    exact ⟨rfl, rfl⟩
  · by_cases hi : i < 0
    · have e : prb h i b = 0 := by unfold prb; rw [if_pos (Or.inr hi)]
      rw [e]
      go_enter Try.func34, Try.ntmps34
      go_wp2
      go_ret
      exact ⟨rfl, rfl⟩
    · obtain ⟨n, rfl⟩ : ∃ n : Nat, i = n := ⟨i.toNat, by omega⟩
      obtain ⟨m, rfl⟩ : ∃ m : Nat, b = m := ⟨b.toNat, by omega⟩
      have hs := Lib.hid fun w => step_ref h w hh
      have hl := stepH_lt hh
      have hw := Lib.hid (prb_wrap h n m (stepH h) hh (by omega) (by omega) (by omega) rfl)
      generalize stepH h = s at *
      generalize prb h (n : Nat) (m : Nat) = r at *
      have hm0 : ((m : Int) == 0) = false := by simp; omega
      go_enter Try.func34, Try.ntmps34
      go_wp2_with fail
      refine (hs.out _).mono ?_
      rintro e w' ⟨rfl, rfl⟩
      go_wp2
      go_ret
      refine ⟨ret_int ?_, rfl⟩
      exact hw.out

theorem mask_any (k : Nat) (w : World) (hk : k < 9223372036854775808) :
    Calls Try.prog 37 #[.int .i64 (k : Nat)] w fun e w' => e = .returned (.int .u8 (2 ^ (k % 8) : Nat)) ∧ w = w' := by
  go_enter Try.func37, Try.ntmps37
  go_wp2
  go_ret
  refine ⟨ret_int ?_, rfl⟩
  have h := pow8_lt (Nat.mod_lt k (by decide) : k % 8 < 8)
  have e : (2 : Int) ^ (k % 8) = ((2 ^ (k % 8) : Nat) : Int) := by rw [Int.natCast_pow]; rfl
  rw [e]
  generalize 2 ^ (k % 8) = x at *
  omega
end Go.Proofs.Ytfnppmiapjhjlaa
