/- The walk of annalistlaw01.NumsTell. -/
import Derived.Test.YtlcdloljhcnchaaNumsPutEx
namespace Go.Proofs.Ytlcdloljhcnchaa.numsTellW
open Go.RowKit
set_option linter.unusedVariables false

theorem long (a0 a1 : Int) (a2 : ByteArray) (w2 : a2.size ≤ maxLen) (h : 1000 < a2.size) (w : World) :
    Calls Try.prog 3 #[.int .u64 a0, .int .i64 a1, .string a2] w fun e w' => e = .returned (.bool true) ∧ Below w.heap.size w w' := by
  unfold maxLen at w2
  go_enter Try.func3, Try.ntmps3
  go_wp2_with (go_at_call 7; refine (put_true _).mono ?_; rintro e w' ⟨rfl, hb⟩)
  go_ret
  exact ⟨rfl, ‹Below _ _ _›⟩

set_option maxHeartbeats 1000000 in
theorem short (n : Nat) (hn : n < 18446744073709551616) (a1 : Int) (a2 : ByteArray) (hs2 : a2.size ≤ maxLen) (h : a2.size ≤ 1000) (w : World) :
    Calls Try.prog 3 #[.int .u64 (n : Nat), .int .i64 a1, .string a2] w fun e w' => e = .returned (.bool true) ∧ Below w.heap.size w w' := by
  go_enter Try.func3, Try.ntmps3
  go_wp2_with fail
  go_loopw [7] (fun i wr => ∃ k : Int, -1 ≤ k ∧ k ≤ 10 ∧ i = .int .i64 k ∧ Below w.heap.size w wr) (fun i _ => (10 - intOf i).toNat)
  case atStart => exact ⟨-1, by omega, by omega, rfl, Below.refl _ _⟩
  case round =>
    obtain ⟨k, hk1, hk2, rfl, hbel⟩ := hrel
    by_cases hlt : k < 10
    · go_wp2_with fail
      refine (put_any n k _ hn).mono ?_
      rintro e w1 ⟨rfl, hb1⟩
      go_wp2_with fail
      refine (putr_any n k _ hn).mono ?_
      rintro e w2 ⟨rfl, hb2⟩
      go_wp2_with fail
      go_roundw
      case rel => exact ⟨k + 1, by omega, by omega, rfl, hbel.trans ((bj hb1 hb2).mono hbel.size)⟩
      case measure => simp [intOf]; omega
    · go_wp2_with fail
      refine (put_any n a1 _ hn).mono ?_
      rintro e w1 ⟨rfl, hb1⟩
      go_wp2_with fail
      refine (putr_any n a1 _ hn).mono ?_
      rintro e w2 ⟨rfl, hb2⟩
      go_wp2_with fail
      refine (get_any a2 _ hs2).mono ?_
      rintro e w3 ⟨rfl, rfl⟩
      go_wp2_with fail
      refine (get_ref a2 _ hs2).mono ?_
      rintro e w3 ⟨rfl, rfl⟩
      go_wp2_with fail
      refine (put_true _).mono ?_
      rintro e w3 ⟨rfl, hb3⟩
      go_wp2
      go_ret
      exact ⟨rfl, hbel.trans ((bj hb1 (bj hb2 hb3)).mono hbel.size)⟩

theorem walk (a0 a1 : Int) (a2 : ByteArray) (w0 : (Lit.int .u64 a0).wf = true) (w1 : (Lit.int .i64 a1).wf = true) (w2 : a2.size ≤ maxLen) (w : World) :
    Calls Try.prog 3 #[.int .u64 a0, .int .i64 a1, .string a2] w fun e w' => e = .returned (.bool true) ∧ Below w.heap.size w w' := by
  by_cases h : a2.size ≤ 1000
  · obtain ⟨n, rfl, hn⟩ := u64_nat w0
    exact short n hn a1 a2 w2 h w
  · exact long a0 a1 a2 w2 (by omega) w
end Go.Proofs.Ytlcdloljhcnchaa.numsTellW
