/- The walk of annalistlaw04.WeightsTell. -/
import Derived.Test.YtlabddbpjdndoaaWeighed
namespace Go.Proofs.Ytlabddbpjdndoaa.weightsTellW
open Go.RowKit
set_option linter.unusedVariables false

set_option maxHeartbeats 1000000 in
theorem walk (a0 a1 : Int) (w0 : (Lit.int .u64 a0).wf = true) (w1 : (Lit.int .u64 a1).wf = true) (w : World) :
    Calls Try.prog 3 #[.int .u64 a0, .int .u64 a1] w fun e w' => e = .returned (.bool true) ∧ Below w.heap.size w w' := by
  obtain ⟨x, rfl, hx⟩ := u64_nat w0
  obtain ⟨y, rfl, hy⟩ := u64_nat w1
  have hf := fun (b : Nat) w => frombits_run b w
  have kx := Lib.hid (fun w => key_any x w hx)
  have rx := Lib.hid (fun w => key_ref x w hx)
  have ry := Lib.hid (fun w => key_ref y w hy)
  have bx := Lib.hid (fun w => back_any x w hx)
  have cx := Lib.hid (fun w => back_ref x w hx)
  have sb := Lib.hid (fun w => same_ref (backS x) (backS x) w (backS_lt hx) (backS_lt hx))
  have px := Lib.hid (fun w => class_any x w hx)
  have qx := Lib.hid (fun w => class_ref x w hx)
  have sxy := Lib.hid (fun w => same_any x y w hx hy)
  have sxx := Lib.hid (fun w => same_any x x w hx hx)
  have lxy := Lib.hid (fun w => less_any x y w hx hy)
  have e1 : (decide (x = y) == ((x : Int) == (y : Int))) = true := by
    by_cases h : x = y
    · subst h; simp
    · have h2 : ((x : Int) == (y : Int)) = false := beq_eq_false_iff_ne.2 (by omega)
      rw [decide_eq_false h, h2]; rfl
  have e2 : decide ((keyS x : Int) < (keyS y : Int)) = decide (keyS x < keyS y) := by
    by_cases h : keyS x < keyS y
    · rw [decide_eq_true h, lt_yes h]
    · rw [decide_eq_false h, lt_no h]
  have e3 : decide (backS x = backS x) = true := decide_eq_true rfl
  have e4 : decide (x = x) = true := decide_eq_true rfl
  rw [e3] at sb
  rw [e4] at sxx
  clear hx hy e3 e4
  generalize he5 : decide (keyS x < keyS y) = d2 at *
  generalize decide (x = y) = d1 at *
  generalize keyS x = a at *
  generalize keyS y = b at *
  generalize backS x = c at *
  generalize classS x = d at *
  go_enter Try.func3, Try.ntmps3
  go_wp2_with fail
  refine (kx.out _).mono ?_
  rintro e w' ⟨rfl, rfl⟩
  go_wp2_with fail
  refine (rx.out _).mono ?_
  rintro e w' ⟨rfl, rfl⟩
  go_wp2_with fail
  refine (bx.out _).mono ?_
  rintro e w' ⟨rfl, rfl⟩
  go_wp2_with fail
  refine (cx.out _).mono ?_
  rintro e w' ⟨rfl, rfl⟩
  go_wp2_with fail
  refine (sb.out _).mono ?_
  rintro e w' ⟨rfl, rfl⟩
  go_wp2_with fail
  refine (px.out _).mono ?_
  rintro e w' ⟨rfl, rfl⟩
  go_wp2_with fail
  refine (qx.out _).mono ?_
  rintro e w' ⟨rfl, rfl⟩
  go_wp2_with fail
  refine (sxy.out _).mono ?_
  rintro e w' ⟨rfl, rfl⟩
  go_wp2_with fail
  refine (sxx.out _).mono ?_
  rintro e w' ⟨rfl, rfl⟩
  go_wp2_with fail
  refine (lxy.out _).mono ?_
  rintro e w' ⟨rfl, rfl⟩
  go_wp2_with fail
  refine (rx.out _).mono ?_
  rintro e w' ⟨rfl, rfl⟩
  go_wp2_with fail
  refine (ry.out _).mono ?_
  rintro e w' ⟨rfl, rfl⟩
  go_wp2_with fail
  refine (weighed_true _).mono ?_
  rintro e w' ⟨rfl, hb⟩
  go_wp2
  go_ret
  exact ⟨rfl, hb⟩
end Go.Proofs.Ytlabddbpjdndoaa.weightsTellW
