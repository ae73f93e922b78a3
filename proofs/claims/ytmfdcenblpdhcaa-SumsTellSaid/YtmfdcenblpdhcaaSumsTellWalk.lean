/- The walk of annalistlaw02.SumsTell. -/
import Derived.Test.YtmfdcenblpdhcaaSumsEx
import Derived.Test.YtmfdcenblpdhcaaSumsIntoRef
namespace Go.Proofs.Ytmfdcenblpdhcaa.sumsTellW
open Go.RowKit
set_option linter.unusedVariables false

theorem long (s : ByteArray) (x : Int) (hs : s.size ≤ maxLen) (h : 20000 < s.size) (w : World) :
    Calls Try.prog 3 #[.string s, .int .u32 x] w fun e w' => e = .returned (.bool true) ∧ Below w.heap.size w w' := by
  unfold maxLen at hs
  go_enter Try.func3, Try.ntmps3
  go_wp2_with fail
  refine (summed_true _).mono ?_
  rintro e w' ⟨rfl, hb⟩
  go_wp2
  go_ret
  exact ⟨rfl, ‹Below _ _ _›⟩

set_option maxHeartbeats 400000 in
theorem short (s : ByteArray) (x : Nat) (hx : x < 4294967296) (hs : s.size ≤ 20000) (w : World) :
    Calls Try.prog 3 #[.string s, .int .u32 (x : Nat)] w fun e w' => e = .returned (.bool true) ∧ Below w.heap.size w w' := by
  have h1 := Lib.hid (fun w => sum_any s w (by unfold maxLen; omega))
  have h2 := Lib.hid (fun w => sum_ref s w (by unfold maxLen; omega))
  have h3 := Lib.hid (fun w => more_any x s w hx (by unfold maxLen; omega))
  have h4 := Lib.hid (fun w => more_ref x s w hx (by unfold maxLen; omega))
  generalize sumS s.data.toList = a at *
  generalize moreS x s.data.toList = b at *
  go_enter Try.func3, Try.ntmps3
  go_wp2_with fail
  refine (h1.out _).mono ?_
  rintro e w' ⟨rfl, rfl⟩
  go_wp2_with fail
  refine (h2.out _).mono ?_
  rintro e w' ⟨rfl, rfl⟩
  go_wp2_with fail
  refine (h3.out _).mono ?_
  rintro e w' ⟨rfl, rfl⟩
  go_wp2_with fail
  refine (h4.out _).mono ?_
  rintro e w' ⟨rfl, rfl⟩
  go_wp2_with fail
  refine (summed_true _).mono ?_
  rintro e w' ⟨rfl, hb⟩
  go_wp2
  go_ret
  exact ⟨rfl, hb⟩

theorem walk (a0 : ByteArray) (a1 : Int) (w0 : a0.size ≤ maxLen) (w1 : (Lit.int .u32 a1).wf = true) (w : World) :
    Calls Try.prog 3 #[.string a0, .int .u32 a1] w fun e w' => e = .returned (.bool true) ∧ Below w.heap.size w w' := by
  by_cases h : a0.size ≤ 20000
  · obtain ⟨n, rfl, hn⟩ := u32_nat w1
    exact short a0 n hn h w
  · exact long a0 a1 w0 (by omega) w
end Go.Proofs.Ytmfdcenblpdhcaa.sumsTellW
