/- The walk of PagesPut. -/
import Derived.Test.YtfnppmiapjhjlaaPgExTrue
import Derived.Test.YtfnppmiapjhjlaaPgPutRef
namespace Go.Proofs.Ytfnppmiapjhjlaa.PgPt
open Go.RowKit
set_option linter.unusedVariables false

theorem long (a : ByteArray) (p : Int) (h : 1000 < a.size) (w : World) :
    Calls Try.prog 3 #[.string a, .int .i64 p] w fun e w' => e = .returned (.bool true) ∧ Below w.heap.size w w' := by
  have HE := Lib.hid paged_true
  have s1 : (1000 : Int) < (a.size : Int) := by omega
  go_enter Try.func3, Try.ntmps3
  go_wp2_with fail
  refine (HE.out _).mono ?_
  rintro e w2 ⟨rfl, hb2⟩
  go_wp2
  go_ret
  exact ⟨rfl, hb2⟩

set_option maxHeartbeats 1000000 in
theorem short (a : ByteArray) (p : Int) (h : a.size ≤ 1000) (w : World) :
    Calls Try.prog 3 #[.string a, .int .i64 p] w fun e w' => e = .returned (.bool true) ∧ Below w.heap.size w w' := by
  have HE := Lib.hid paged_true
  have s1 : ¬ (1000 : Int) < (a.size : Int) := by omega
  obtain ⟨m, hm⟩ : ∃ m, a.size / 60 = m := ⟨_, rfl⟩
  obtain ⟨k, hk⟩ : ∃ k, m * 60 = k := ⟨_, rfl⟩
  have d1 : (a.size : Int) / 60 = (m : Int) := by omega
  have d2 : (m : Int) * 60 = (k : Int) := by omega
  have d3 : (k : Int) ≤ (a.size : Int) := by omega
  have d4 : IntKind.i64.wrap ((a.size : Int) / 60) = (m : Int) := by rw [IntKind.wrap_i64]; omega
  have A1 := Lib.hid (pput_any a p)
  have A2 := Lib.hid (pputr_any a p)
  have B1 := Lib.hid (pput_any (a.extract 0 k) p)
  have B2 := Lib.hid (pputr_any (a.extract 0 k) p)
  have C1 := Lib.hid (pput_any (a.extract 0 k) (bits .and .i64 p 15))
  have C2 := Lib.hid (pputr_any (a.extract 0 k) (bits .and .i64 p 15))
  generalize putP a p = R1 at *
  generalize putP (a.extract 0 k) p = R2 at *
  generalize putP (a.extract 0 k) (bits .and .i64 p 15) = R3 at *
  have e1 : (R1.toList == R1.toList) = true := by simp
  have e2 : (R2.toList == R2.toList) = true := by simp
  have e3 : (R3.toList == R3.toList) = true := by simp
  clear hm hk
  go_enter Try.func3, Try.ntmps3
  go_wp2_with fail
  refine (A1.out _).mono ?_
  rintro e w1 ⟨rfl, b1⟩
  go_wp2_with fail
  refine (A2.out _).mono ?_
  rintro e w2 ⟨rfl, b2⟩
  go_wp2_with fail
  refine (B1.out _).mono ?_
  rintro e w3 ⟨rfl, b3⟩
  go_wp2_with fail
  refine (B2.out _).mono ?_
  rintro e w4 ⟨rfl, b4⟩
  go_wp2_with fail
  refine (C1.out _).mono ?_
  rintro e w5 ⟨rfl, b5⟩
  go_wp2_with fail
  refine (C2.out _).mono ?_
  rintro e w6 ⟨rfl, b6⟩
  go_wp2_with fail
  refine (HE.out _).mono ?_
  rintro e w7 ⟨rfl, b7⟩
  go_wp2
  go_ret
  exact ⟨rfl, bj (bj (bj (bj (bj (bj b1 b2) b3) b4) b5) b6) b7⟩

theorem walk (a0 : ByteArray) (a1 : Int) (w0 : a0.size ≤ maxLen) (w1 : (Lit.int .i64 a1).wf = true) (w : World) :
    Calls Try.prog 3 #[.string a0, .int .i64 a1] w fun e w' => e = .returned (.bool true) ∧ Below w.heap.size w w' := by
  by_cases h : a0.size ≤ 1000
  · exact short a0 a1 h w
  · exact long a0 a1 (by omega) w
end Go.Proofs.Ytfnppmiapjhjlaa.PgPt
