/- Key, Back, Same, Class, and a number's bits: the document's. -/
import Derived.Test.YtlabddbpjdndoaaFloatFold
import Derived.Test.YtlabddbpjdndoaaBase
import Derived.Laws.Externs
import Derived.Laws.Bits64
namespace Go.Proofs.Ytlabddbpjdndoaa
open Go.RowKit
set_option linter.unusedVariables false

theorem bits_run (b : Nat) (w : World) : (callFunc 26 #[.float .f64 b]).run Try.prog w = .ok (.value (.int .u64 (b : Nat))) w := by
  rw [run_callFunc_extern Try.func26 (by kernel_rfl) (by kernel_rfl) (by kernel_rfl) (e := Extern.MathFloatBits.float64bits) (by kernel_rfl)]
  rfl
theorem frombits_run (b : Nat) (w : World) : (callFunc 9 #[.int .u64 (b : Nat)]).run Try.prog w = .ok (.value (.float .f64 b)) w := by
  rw [run_callFunc_extern Try.func9 (by kernel_rfl) (by kernel_rfl) (by kernel_rfl) (e := Extern.MathFloatBits.float64frombits) (by kernel_rfl)]
  rfl

theorem ret_w64 {a b : Int} (h : a = b) : Ending.returned (.int .u64 a) = .returned (.int .u64 b) := by rw [h]
theorem ret_f64 {a b : Nat} (h : a = b) : Ending.returned (.float .f64 a) = .returned (.float .f64 b) := by rw [h]

/-- A test on a word, in the walk's words. -/
theorem ge_yes {b c : Nat} (h : c ≤ b) : decide ((c : Int) ≤ (b : Int)) = true := decide_eq_true (by omega)
theorem ge_no {b c : Nat} (h : ¬ c ≤ b) : decide ((c : Int) ≤ (b : Int)) = false := decide_eq_false (by omega)
theorem lt_yes {b c : Nat} (h : b < c) : decide ((b : Int) < (c : Int)) = true := decide_eq_true (by omega)
theorem lt_no {b c : Nat} (h : ¬ b < c) : decide ((b : Int) < (c : Int)) = false := decide_eq_false (by omega)

theorem key_ref (b : Nat) (w : World) (hb : b < 18446744073709551616) :
    Calls Try.prog 11 #[.float .f64 b] w fun e w' => e = .returned (.int .u64 (keyS b : Nat)) ∧ w = w' := by
  have h1 := fun w => bits_run b w
  by_cases h : 9223372036854775808 ≤ b
  · have t : decide ((9223372036854775808 : Int) ≤ (b : Int)) = true := ge_yes h
    have e : (18446744073709551615 : Int) - (b : Int) = ((keyS b : Nat) : Int) := by unfold keyS; rw [if_neg (by omega)]; omega
    go_enter Try.func11, Try.ntmps11
    go_wp2
    go_ret
    exact ⟨rfl, rfl⟩
  · have t : decide ((9223372036854775808 : Int) ≤ (b : Int)) = false := ge_no h
    have e : (b : Int) + 9223372036854775808 = ((keyS b : Nat) : Int) := by unfold keyS; rw [if_pos (by omega)]; omega
    go_enter Try.func11, Try.ntmps11
    go_wp2
    go_ret
    exact ⟨rfl, rfl⟩

theorem back_ref (b : Nat) (w : World) (hb : b < 18446744073709551616) :
    Calls Try.prog 14 #[.int .u64 (b : Nat)] w fun e w' => e = .returned (.float .f64 (backS b)) ∧ w = w' := by
  have h1 := fun b w => frombits_run b w
  by_cases h : b < 9223372036854775808
  · have t : decide ((b : Int) < (9223372036854775808 : Int)) = true := lt_yes h
    have e : (18446744073709551615 : Int) - (b : Int) = ((backS b : Nat) : Int) := by unfold backS; rw [if_pos h]; omega
    go_enter Try.func14, Try.ntmps14
    go_wp2
    go_ret
    exact ⟨rfl, rfl⟩
  · have t : decide ((b : Int) < (9223372036854775808 : Int)) = false := lt_no h
    have e : (b : Int) - 9223372036854775808 = ((backS b : Nat) : Int) := by unfold backS; rw [if_neg h]; omega
    go_enter Try.func14, Try.ntmps14
    go_wp2
    go_ret
    exact ⟨rfl, rfl⟩

theorem same_ref (a b : Nat) (w : World) (ha : a < 18446744073709551616) (hb : b < 18446744073709551616) :
    Calls Try.prog 12 #[.float .f64 a, .float .f64 b] w fun e w' => e = .returned (.bool (decide (a = b))) ∧ w = w' := by
  have h1 := Lib.hid (fun w => key_ref a w ha)
  have h2 := Lib.hid (fun w => key_ref b w hb)
  have e : ((keyS a : Int) == (keyS b : Int)) = decide (a = b) := by
    by_cases h : a = b
    · subst h; simp
    · rw [decide_eq_false h]
      have : ¬ keyS a = keyS b := fun e => h (key_inj ha hb e)
      exact beq_eq_false_iff_ne.2 (by omega)
  generalize keyS a = x at *
  generalize keyS b = y at *
  generalize decide (a = b) = d at *
  clear ha hb
  go_enter Try.func12, Try.ntmps12
  go_wp2_with fail
  refine (h1.out _).mono ?_
  rintro e w' ⟨rfl, rfl⟩
  go_wp2_with fail
  refine (h2.out _).mono ?_
  rintro e w' ⟨rfl, rfl⟩
  go_wp2
  go_ret
  exact ⟨rfl, rfl⟩

theorem class_ref (b : Nat) (w : World) (hb : b < 18446744073709551616) :
    Calls Try.prog 16 #[.float .f64 b] w fun e w' => e = .returned (.int .i64 (classS b : Nat)) ∧ w = w' := by
  have h1 := fun w => bits_run b w
  obtain ⟨r, hr⟩ : ∃ r, r = b % 9223372036854775808 := ⟨_, rfl⟩
  have e0 : (b : Int) % 9223372036854775808 = (r : Int) := by omega
  have hc : classS b = if 9218868437227405312 < r then 0 else if r = 0 then 3 else if r = 9218868437227405312 then (if 9223372036854775808 ≤ b then 1 else 5) else if 9223372036854775808 ≤ b then 2 else 4 := by rw [hr]; rfl
  have go : ∀ (d0 d1 d2 d3 : Bool) (c : Nat), decide ((9223372036854775808 : Int) ≤ (b : Int)) = d0 → decide ((9218868437227405312 : Int) < (r : Int)) = d1 → ((r : Int) == 0) = d2 → ((r : Int) == 9218868437227405312) = d3 →
      c = (if d1 then 0 else if d2 then 3 else if d3 then (if d0 then 1 else 5) else if d0 then 2 else 4) →
      Calls Try.prog 16 #[.float .f64 b] w fun e w' => e = .returned (.int .i64 (c : Nat)) ∧ w = w' := by
    intro d0 d1 d2 d3 c t0 t1 t2 t3 hcc
    clear hc hr hb
    cases d0 <;> cases d1 <;> cases d2 <;> cases d3 <;> simp only [if_true, if_false, Bool.false_eq_true] at hcc <;> subst hcc
    all_goals
      go_enter Try.func16, Try.ntmps16
      go_wp2
      go_ret
      exact ⟨rfl, rfl⟩
  refine go _ _ _ _ _ rfl rfl rfl rfl ?_
  rw [hc]
  have q1 : (decide ((9218868437227405312 : Int) < (r : Int)) = true) = (9218868437227405312 < r) := by simp only [decide_eq_true_eq]; apply propext; omega
  have q2 : (((r : Int) == 0) = true) = (r = 0) := by simp only [beq_iff_eq]; apply propext; omega
  have q3 : (((r : Int) == 9218868437227405312) = true) = (r = 9218868437227405312) := by simp only [beq_iff_eq]; apply propext; omega
  have q0 : (decide ((9223372036854775808 : Int) ≤ (b : Int)) = true) = (9223372036854775808 ≤ b) := by simp only [decide_eq_true_eq]; apply propext; omega
  simp only [q0, q1, q2, q3]
end Go.Proofs.Ytlabddbpjdndoaa
