/- The walk of annalistlaw03.HashesTell. -/
import Derived.Test.YtlhoomdmjkabfaaHashEx
import Derived.Test.YtlhoomdmjkabfaaHashRef
namespace Go.Proofs.Ytlhoomdmjkabfaa.hashesTellW
open Go.RowKit
set_option linter.unusedVariables false

theorem long (x : Int) (s : ByteArray) (hs : s.size ≤ maxLen) (h : 2000 < s.size) (w : World) :
    Calls Try.prog 3 #[.int .u64 x, .string s] w fun e w' => e = .returned (.bool true) ∧ Below w.heap.size w w' := by
  unfold maxLen at hs
  go_enter Try.func3, Try.ntmps3
  go_wp2_with fail
  refine (hashed_true _).mono ?_
  rintro e w' ⟨rfl, rfl⟩
  go_wp2
  go_ret
  exact ⟨rfl, Below.refl _ _⟩

set_option maxHeartbeats 400000 in
theorem short (x : Nat) (s : ByteArray) (hx : x < 18446744073709551616) (hs : s.size ≤ 2000) (w : World) :
    Calls Try.prog 3 #[.int .u64 (x : Nat), .string s] w fun e w' => e = .returned (.bool true) ∧ Below w.heap.size w w' := by
  have h1 := Lib.hid (fun w => hash_any x s w hx (by unfold maxLen; omega))
  have h2 := Lib.hid (fun w => hash_ref x s w hx (by unfold maxLen; omega))
  have hlt := hashH_lt x s.data.toList
  have hz : hashH 0 s.data.toList = 7 := by unfold hashH; rw [if_pos rfl]
  have h0 := Lib.hid (fun w => hash_any 0 s w (by decide) (by unfold maxLen; omega))
  rw [hz] at h0
  clear hz
  generalize hashH x s.data.toList = a at *
  have h3 := Lib.hid (fun w => step_any a w hlt)
  have h4 := Lib.hid (fun w => step_ref a w hlt)
  have h5 := Lib.hid (fun w => step_any x w hx)
  have h6 := Lib.hid (fun w => step_ref x w hx)
  generalize stepH a = b at *
  generalize stepH x = c at *
  go_enter Try.func3, Try.ntmps3
  go_wp2_with fail
  refine (h1.out _).mono ?_
  rintro e w' ⟨rfl, rfl⟩
  go_wp2_with fail
  refine (h2.out _).mono ?_
  rintro e w' ⟨rfl, rfl⟩
  go_wp2_with fail
  refine (h3.out _).mono ?_
  rintro e w' ⟨rfl, rfl⟩
  go_wp2_with fail
  refine (h4.out _).mono ?_
  rintro e w' ⟨rfl, rfl⟩
  go_wp2_with fail
  refine (h5.out _).mono ?_
  rintro e w' ⟨rfl, rfl⟩
  go_wp2_with fail
  refine (h6.out _).mono ?_
  rintro e w' ⟨rfl, rfl⟩
  go_wp2_with fail
  refine (h0.out _).mono ?_
  rintro e w' ⟨rfl, rfl⟩
  go_wp2_with fail
  refine (hashed_true _).mono ?_
  rintro e w' ⟨rfl, rfl⟩
  go_wp2
  go_ret
  exact ⟨rfl, Below.refl _ _⟩

theorem walk (a0 : Int) (a1 : ByteArray) (w0 : (Lit.int .u64 a0).wf = true) (w1 : a1.size ≤ maxLen) (w : World) :
    Calls Try.prog 3 #[.int .u64 a0, .string a1] w fun e w' => e = .returned (.bool true) ∧ Below w.heap.size w w' := by
  by_cases h : a1.size ≤ 2000
  · obtain ⟨n, rfl, hn⟩ := u64_nat w0
    exact short n a1 hn h w
  · exact long a0 a1 w1 (by omega) w
end Go.Proofs.Ytlhoomdmjkabfaa.hashesTellW
