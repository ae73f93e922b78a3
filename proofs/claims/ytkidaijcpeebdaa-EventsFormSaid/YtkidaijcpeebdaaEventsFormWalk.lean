/- The walk of EventsForm. -/
import Derived.Test.YtkidaijcpeebdaaEventsLaw
import Derived.Test.YtkidaijcpeebdaaEventsBytes
namespace Go.Proofs.Ytkidaijcpeebdaa.EvForm
open Go.RowKit
set_option linter.unusedVariables false
attribute [local go_sem] run_store_float

theorem same_self (t d : ByteArray) (b : Nat) (hb : b < 18446744073709551616) (w : World) :
    Calls Try.prog 16 #[.agg #[.string t, .string d, .float .f64 b], .agg #[.string t, .string d, .float .f64 b]] w fun e w' => e = .returned (.bool true) ∧ Below w.heap.size w w' := by
  have := same_any t d b t d b w hb hb
  rw [evEq_self] at this
  exact this

theorem none_read (s : ByteArray) (hs : s.size ≤ 1000) (w : World) (h : erOk s = false) :
    Calls Try.prog 7 #[.string s] w fun e w' => e = .returned (.bool true) ∧ Below w.heap.size w w' := by
  have H := fun W => readev_any s W (by unfold maxLen; omega)
  obtain ⟨e1, e2, e3, e4⟩ := er_no h
  rw [e1, e2, e3, e4, h] at H
  have H1 := Lib.hid H
  clear H e1 e2 e3 e4 h
  go_enter Try.func7, Try.ntmps7
  go_wp2_with fail
  refine (H1.out _).mono ?_
  rintro e w1 ⟨rfl, hb1⟩
  have hbw := hb1.alloc hb1.size (.cells #[.string ByteArray.empty, .string ByteArray.empty, .float .f64 0] 28)
  go_wp2_with fail
  refine (same_self ByteArray.empty ByteArray.empty 0 (by omega) _).mono ?_
  rintro e w2 ⟨rfl, hb2⟩
  go_wp2_with fail
  refine (happened_true _).mono ?_
  rintro e w3 ⟨rfl, hb3⟩
  go_wp2
  go_ret
  exact ⟨rfl, bj hbw (bj hb2 hb3)⟩

theorem one_read (s : ByteArray) (hs : s.size ≤ 1000) (w : World) (h : erOk s = true) :
    Calls Try.prog 7 #[.string s] w fun e w' => e = .returned (.bool true) ∧ Below w.heap.size w w' := by
  have H := fun W => readev_any s W (by unfold maxLen; omega)
  obtain ⟨hk, hw⟩ := er_form h
  have hb := erW_lt s
  rw [h] at H
  have hzs : (evB (erT s) (erD s) (erW s)).size + (erR s).size = s.size := by rw [← ByteArray.size_append, hw]
  generalize erT s = t at *
  generalize erD s = d at *
  generalize erW s = b at *
  generalize erR s = r at *
  have H1 := Lib.hid H
  have HC := fun W => check_any t d b W (by have := (chk_zero.1 hk); unfold maxLen; omega) (by have := (chk_zero.1 hk); unfold maxLen; omega)
  rw [hk] at HC
  have HC1 := Lib.hid HC
  have HB := Lib.hid fun W => bytes_yes t d b W hb hk
  have ha : ∀ w : World, (Op.stringOp .add (evB t d b) r).run Try.prog w = .ok (.string s) w := fun w => by
    have := run_string_add_sum (P := Try.prog) (w := w) (evB t d b) r (by omega)
    rw [hw] at this
    exact this
  have e1 : (s.toList == s.toList) = true := by simp
  generalize evB t d b = B at *
  clear H HC hk hw hb hzs h
  go_enter Try.func7, Try.ntmps7
  go_wp2_with fail
  refine (H1.out _).mono ?_
  rintro e w1 ⟨rfl, hb1⟩
  have E1 := EvAt.new w1 t d b
  have hbw := hb1.alloc hb1.size (.cells #[.string t, .string d, .float .f64 b] 28)
  go_wp2_with fail
  refine (HC1.out _).mono ?_
  rintro e w2 ⟨rfl, hb2⟩
  have E2 := E1.below hb2
  have k0 := E2.c0
  have k1 := E2.c1
  have k2 := E2.c2
  clear E1 E2
  go_wp2_with fail
  refine (HB.out _).mono ?_
  rintro e w3 ⟨rfl, hb3⟩
  go_wp2_with fail
  refine (happened_true _).mono ?_
  rintro e w4 ⟨rfl, hb4⟩
  go_wp2
  go_ret
  exact ⟨rfl, bj hbw (bj hb2 (bj hb3 hb4))⟩

theorem walk (s : ByteArray) (hs : s.size ≤ maxLen) (w : World) : Calls Try.prog 7 #[.string s] w fun e w' => e = .returned (.bool true) ∧ Below w.heap.size w w' := by
  by_cases h : 1000 < s.size
  · unfold maxLen at hs
    go_enter Try.func7, Try.ntmps7
    go_wp2_with fail
    refine (happened_true _).mono ?_
    rintro e w1 ⟨rfl, hb1⟩
    go_wp2
    go_ret
    exact ⟨rfl, hb1⟩
  · cases e : erOk s with
    | false => exact none_read s (by omega) w e
    | true => exact one_read s (by omega) w e
end Go.Proofs.Ytkidaijcpeebdaa.EvForm
