/- The small functions of the statements of layer 7 that later layers' statements call, too: Great, Event. -/
import Derived.Test.YtnefofcofccmfaaEventsReadOne
import Derived.Deep.RegionHeld3
namespace Go.Proofs.Ytnefofcofccmfaa
open Go.RowKit
set_option linter.unusedVariables false
attribute [local go_sem] run_store_float

def grt (t d : ByteArray) : Bool := decide (1000 < t.size) || decide (1000 < d.size)
theorem grt_no {t d : ByteArray} (h : grt t d = false) : t.size ≤ 1000 ∧ d.size ≤ 1000 := by
  simp only [grt, Bool.or_eq_false_iff, decide_eq_false_iff_not] at h
  omega
theorem great_any (t d : ByteArray) (b : Nat) (w : World) (ht : t.size ≤ maxLen) (hd : d.size ≤ maxLen) :
    Calls Try.prog 19 #[.agg #[.string t, .string d, .int .u64 (b : Nat)]] w fun e w' => e = .returned (.bool (grt t d)) ∧ Below w.heap.size w w' := by
  unfold maxLen at ht hd
  unfold grt
  by_cases h1 : 1000 < t.size
  · rw [decide_eq_true h1]
    have q1 : decide ((1000 : Int) < (t.size : Int)) = true := decide_eq_true (by omega)
    go_enter Try.func19, Try.ntmps19
    go_wp2
    go_ret
    exact ⟨rfl, (Below.refl _ _).alloc (Nat.le_refl _) _⟩
  · rw [decide_eq_false h1]
    have q1 : decide ((1000 : Int) < (t.size : Int)) = false := decide_eq_false (by omega)
    by_cases h2 : 1000 < d.size
    · rw [decide_eq_true h2]
      have q2 : decide ((1000 : Int) < (d.size : Int)) = true := decide_eq_true (by omega)
      go_enter Try.func19, Try.ntmps19
      go_wp2
      go_ret
      exact ⟨rfl, (Below.refl _ _).alloc (Nat.le_refl _) _⟩
    · rw [decide_eq_false h2]
      have q2 : decide ((1000 : Int) < (d.size : Int)) = false := decide_eq_false (by omega)
      go_enter Try.func19, Try.ntmps19
      go_wp2
      go_ret
      exact ⟨rfl, (Below.refl _ _).alloc (Nat.le_refl _) _⟩

theorem event_any (t d : ByteArray) (b : Nat) (w : World) :
    Calls Try.prog 37 #[.agg #[.string t, .string d, .int .u64 (b : Nat)]] w fun e w' => e = .returned (.agg #[.string t, .string d, .float .f64 b]) ∧ Below w.heap.size w w' := by
  have hfb := fun w => frombits_run b w
  have hbw : Below w.heap.size w ((w.alloc (.cells #[.string t, .string d, .int .u64 (b : Nat)] 44)).alloc (.cells #[.string t, .string d, .float .f64 b] 47)) := ((Below.refl _ _).alloc (Nat.le_refl _) _).alloc (by simp) _
  go_enter Try.func37, Try.ntmps37
  go_wp2_with fail
  go_region
  all_goals
    go_wp2
    exact bodyPost_ret (v := .agg #[.string t, .string d, .float .f64 b]) (by simp [results, Try.results37, go_sem]) rfl ⟨rfl, hbw.drew⟩

end Go.Proofs.Ytnefofcofccmfaa
