/- Hash and Step: the program's. -/
import Derived.Test.YtlhoomdmjkabfaaHashMath
import Derived.Test.YtlhoomdmjkabfaaBase
import Derived.Laws.Bits64
namespace Go.Proofs.Ytlhoomdmjkabfaa
open Go.RowKit
set_option linter.unusedVariables false

theorem val_u64 {a b : Int} (h : a = b) : Value.int .u64 a = .int .u64 b := by rw [h]
theorem ret_u64 {a b : Int} (h : a = b) : Ending.returned (.int .u64 a) = .returned (.int .u64 b) := by rw [h]

/-- The words that the walks write, for what is reckoned here. -/
theorem mixA_walk (x : Nat) (hx : x < 18446744073709551616) : IntKind.u64.wrap (bits .xor .u64 (x : Int) ((x : Int) / 4294967296) * 11400714819323198485) = ((mixA x : Nat) : Int) := mixStep_u64 x 4294967296 11400714819323198485 hx
theorem mixH_walk (x : Nat) : bits .xor .u64 ((mixA x : Nat) : Int) (((mixA x : Nat) : Int) / 536870912) = ((mixH x : Nat) : Int) := xorShift_u64 (mixA x) 536870912 (mixA_lt x)

theorem mix_any (x : Nat) (w : World) (hx : x < 18446744073709551616) :
    Calls Try.prog 12 #[.int .u64 (x : Nat)] w fun e w' => e = .returned (.int .u64 (mixH x : Nat)) ∧ w = w' := by
  go_enter Try.func12, Try.ntmps12
  go_wp2
  go_ret
  exact ⟨ret_u64 (by rw [mixA_walk x hx, mixH_walk]), rfl⟩

theorem amount : bits .and .u64 (IntKind.u64.wrap (-17)) 63 = 47 := by decide +kernel

theorem rotH_or (x : Nat) (hx : x < 18446744073709551616) : x * 140737488355328 % 18446744073709551616 ||| x / 131072 = rotH x := by
  have e : x * 140737488355328 % 18446744073709551616 = x % 131072 * 140737488355328 := by omega
  have h := nat_join 47 (x % 131072 * 140737488355328) (x / 131072) (Nat.mul_mod_left _ _) (by omega)
  rw [e, h]
  unfold rotH
  omega
theorem rot_walk (x : Nat) (hx : x < 18446744073709551616) : bits .or .u64 (IntKind.u64.wrap ((x : Int) * 140737488355328)) ((x : Int) / 131072) = ((rotH x : Nat) : Int) := by
  have e1 : IntKind.u64.wrap ((x : Int) * 140737488355328) = ((x * 140737488355328 % 18446744073709551616 : Nat) : Int) := by
    rw [IntKind.wrap_u64]
    omega
  have e2 : (x : Int) / 131072 = ((x / 131072 : Nat) : Int) := by omega
  rw [e1, e2, u64_or_nat _ _ (by omega) (by omega), rotH_or x hx]

theorem rot_any (x : Nat) (w : World) (hx : x < 18446744073709551616) :
    Calls Try.prog 13 #[.int .u64 (x : Nat), .int .i64 (-17)] w fun e w' => e = .returned (.int .u64 (rotH x : Nat)) ∧ w = w' := by
  have hb := amount
  go_enter Try.func13, Try.ntmps13
  go_wp2
  go_ret
  exact ⟨ret_u64 (rot_walk x hx), rfl⟩

theorem step_walk (x : Nat) (hx : x < 18446744073709551616) : bits .or .u64 ((rotH x : Nat) : Int) 1 = ((stepH x : Nat) : Int) := by
  have h := u64_or_nat (rotH x) 1 (rotH_lt hx) (by decide)
  rw [stepH_or] at h
  exact h

theorem step_any (x : Nat) (w : World) (hx : x < 18446744073709551616) :
    Calls Try.prog 10 #[.int .u64 (x : Nat)] w fun e w' => e = .returned (.int .u64 (stepH x : Nat)) ∧ w = w' := by
  have h := Lib.hid (fun w => rot_any x w hx)
  have hr := rotH_lt hx
  have hs := Lib.hid (step_walk x hx)
  generalize rotH x = r at *
  go_enter Try.func10, Try.ntmps10
  go_wp2_with fail
  refine (h.out _).mono ?_
  rintro e w' ⟨rfl, rfl⟩
  go_wp2
  go_ret
  exact ⟨ret_u64 hs.out, rfl⟩

/-- A byte goes into a state, as the walk writes it. -/
theorem hst_walk (y c : Nat) (hy : y < 18446744073709551616) (hc : c < 256) : IntKind.u64.wrap (bits .xor .u64 (y : Int) (c : Int) * 1099511628211) = ((hst y c : Nat) : Int) := by
  rw [u64_xor_nat y c hy (byte_big hc), IntKind.wrap_u64, hst_eq, Int.natCast_emod, Int.natCast_mul]
  rfl
theorem start_walk (s : Nat) (hs : s < 18446744073709551616) : bits .xor .u64 14695981039346656037 (s : Int) = ((startH ^^^ s : Nat) : Int) := u64_xor_nat 14695981039346656037 s (by decide) hs

set_option maxHeartbeats 400000 in
theorem hash_any (x : Nat) (s : ByteArray) (w : World) (hx : x < 18446744073709551616) (hs : s.size ≤ maxLen) :
    Calls Try.prog 8 #[.int .u64 (x : Nat), .string s] w fun e w' => e = .returned (.int .u64 (hashH x s.data.toList : Nat)) ∧ w = w' := by
  unfold maxLen at hs
  by_cases h0 : x = 0
  · subst h0
    go_enter Try.func8, Try.ntmps8
    go_wp2
    go_ret
    exact ⟨rfl, rfl⟩
  · have h0' : ((x : Int) == 0) = false := by simp; omega
    have hst0 := start_walk x hx
    have hlt0 := xlt startH_lt hx
    have hH : hashH x s.data.toList = mixH (foldH (startH ^^^ x) s.data.toList) := by unfold hashH; rw [if_neg h0]
    generalize startH ^^^ x = y0 at *
    have HH := Lib.hid hH
    clear hH
    go_enter Try.func8, Try.ntmps8
    go_wp2
    go_loop [5, 13] (fun a i => ∃ k : Nat, k ≤ s.size ∧ i = .int .i64 k ∧ a = .int .u64 (foldH y0 (s.data.toList.take k) : Nat)) (fun _ i => s.size - (intOf i).toNat)
    case atStart => exact ⟨0, by omega, rfl, val_u64 (by rw [List.take_zero, foldH_nil])⟩
    case round =>
      obtain ⟨k, hk, rfl, rfl⟩ := hrel
      have hy : foldH y0 (s.data.toList.take k) < 18446744073709551616 := foldH_lt _ hlt0
      by_cases hlt : k < s.size
      · have h1 := Lib.hid (take_snoc s k hlt)
        have h2 := Lib.hid (foldH_snoc y0 (s.data.toList.take k) s[k])
        have hc := (s[k]).toNat_lt
        generalize foldH y0 (s.data.toList.take k) = y at *
        go_wp2
        go_round
        case rel => exact ⟨k + 1, by omega, by go_num, val_u64 (by rw [h1.out, h2.out]; exact hst_walk y _ hy hc)⟩
        case measure => simp [intOf]; omega
      · obtain rfl : k = s.size := by omega
        have h1 : List.take s.size s.data.toList = s.data.toList := List.take_of_length_le (by simp)
        rw [h1] at hy ⊢
        clear h1
        generalize foldH y0 s.data.toList = y at *
        have h := Lib.hid (fun w => mix_any y w hy)
        go_wp2_with fail
        refine (h.out _).mono ?_
        rintro e w' ⟨rfl, rfl⟩
        go_wp2
        go_ret
        exact ⟨ret_u64 (by rw [HH.out]), rfl⟩
end Go.Proofs.Ytlhoomdmjkabfaa
