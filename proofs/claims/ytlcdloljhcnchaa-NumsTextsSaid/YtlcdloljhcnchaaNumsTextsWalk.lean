/- The walk of annalistlaw01.NumsTexts. -/
import Derived.Test.YtlcdloljhcnchaaNumsPutEx
namespace Go.Proofs.Ytlcdloljhcnchaa.numsTextsW
open Go.RowKit
set_option linter.unusedVariables false

theorem long (a0 : ByteArray) (hs : a0.size ≤ maxLen) (h : 70000 < a0.size) (w : World) :
    Calls Try.prog 4 #[.string a0] w fun e w' => e = .returned (.bool true) ∧ Below w.heap.size w w' := by
  unfold maxLen at hs
  go_enter Try.func4, Try.ntmps4
  go_wp2_with (go_at_call 7; refine (put_true _).mono ?_; rintro e w' ⟨rfl, hb⟩)
  go_ret
  exact ⟨rfl, ‹Below _ _ _›⟩

set_option maxHeartbeats 1000000 in
theorem short (a0 : ByteArray) (hs : a0.size ≤ maxLen) (h : a0.size ≤ 70000) (w : World) :
    Calls Try.prog 4 #[.string a0] w fun e w' => e = .returned (.bool true) ∧ Below w.heap.size w w' := by
  go_enter Try.func4, Try.ntmps4
  go_wp2_with fail
  refine (read_any a0 _ hs).mono ?_
  rintro e w1 ⟨rfl, hb1⟩
  go_wp2_with fail
  refine (readr_any a0 _ hs).mono ?_
  rintro e w2 ⟨rfl, hb2⟩
  go_wp2_with fail
  refine (text_any a0 _ hs).mono ?_
  rintro e w3 ⟨rfl, hb3⟩
  go_wp2_with fail
  refine (textr_any a0 _ hs).mono ?_
  rintro e w4 ⟨rfl, hb4⟩
  go_wp2_with fail
  refine (put_true _).mono ?_
  rintro e w5 ⟨rfl, hb5⟩
  go_wp2
  go_ret
  exact ⟨rfl, bj hb1 (bj hb2 (bj hb3 (bj hb4 hb5)))⟩

theorem walk (a0 : ByteArray) (w0 : a0.size ≤ maxLen) (w : World) :
    Calls Try.prog 4 #[.string a0] w fun e w' => e = .returned (.bool true) ∧ Below w.heap.size w w' := by
  by_cases h : a0.size ≤ 70000
  · exact short a0 w0 h w
  · exact long a0 w0 (by omega) w
end Go.Proofs.Ytlcdloljhcnchaa.numsTextsW
