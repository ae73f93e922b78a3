/- The walk of EventsRead. -/
import Derived.Test.YtkidaijcpeebdaaEventsLaw
import Derived.Test.YtkidaijcpeebdaaEventsReadRef
namespace Go.Proofs.Ytkidaijcpeebdaa.EvRead
open Go.RowKit
set_option linter.unusedVariables false
attribute [local go_sem] run_store_float

set_option maxHeartbeats 1000000 in
theorem walk (s : ByteArray) (hs : s.size ≤ maxLen) (w : World) : Calls Try.prog 4 #[.string s] w fun e w' => e = .returned (.bool true) ∧ Below w.heap.size w w' := by
  by_cases h : 2000 < s.size
  · unfold maxLen at hs
    go_enter Try.func4, Try.ntmps4
    go_wp2_with fail
    refine (happened_true _).mono ?_
    rintro e w1 ⟨rfl, hb1⟩
    go_wp2
    go_ret
    exact ⟨rfl, hb1⟩
  · have H1 := Lib.hid fun W => readev_any s W hs
    have H2 := Lib.hid fun W => readev_ref s W hs
    have HW := erW_lt s
    generalize erT s = t at *
    generalize erD s = d at *
    generalize erW s = b at *
    generalize erR s = r at *
    generalize erOk s = o at *
    have HE := same_ref t d b t d b
    rw [evEq_self] at HE
    have HS := Lib.hid fun W => HE W HW HW
    have e1 : (r.toList == r.toList) = true := by simp
    unfold maxLen at hs
    clear HE HW
    cases o
    all_goals
      go_enter Try.func4, Try.ntmps4
      go_wp2_with fail
      refine (H1.out _).mono ?_
      rintro e w1 ⟨rfl, hb1⟩
      have E1 := EvAt.new w1 t d b
      go_wp2_with fail
      refine (H2.out _).mono ?_
      rintro e w2 ⟨rfl, hb2⟩
      have E2 := E1.below hb2
      have k0 := E2.c0
      have k1 := E2.c1
      have k2 := E2.c2
      have hbw := (((Below.refl _ _).trans hb1).alloc hb1.size (.cells #[.string t, .string d, .float .f64 b] 28)).trans (hb2.mono (by have := hb1.size; simp; omega))
      have hlt := E2.lt
      have hbw2 := hbw.alloc hbw.size (.cells #[.string t, .string d, .float .f64 b] 28)
      clear E1 E2 hbw
      go_wp2_with fail
      refine (HS.out _).mono ?_
      rintro e w3 ⟨rfl, hb3⟩
      go_wp2_with fail
      refine (happened_true _).mono ?_
      rintro e w4 ⟨rfl, hb4⟩
      go_wp2
      go_ret
      exact ⟨rfl, bj hbw2 (bj hb3 hb4)⟩
end Go.Proofs.Ytkidaijcpeebdaa.EvRead
