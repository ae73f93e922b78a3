/- The chapter's examples of layer 5, as the statements ask them. -/
import Derived.Test.YtdhkfkkpddpcaaaRates
namespace Go.Proofs.Ytdhkfkkpddpcaaa
open Go.RowKit
set_option linter.unusedVariables false

def probesB (b n : Nat) : Bool := if nanB b then n == 4 else decide (1 ≤ n) && decide (n ≤ 16) && (List.range n).all (fun k => k == 0 || decide (sr b < hw k)) && (n == 16 || decide ((hw n : Int) ≤ sr b))
theorem probesB_of {b n : Nat} (h : probesB b n = true) : ProbesOf b n := by
  unfold probesB at h
  unfold ProbesOf
  split at h
  · rename_i q
    rw [if_pos q]
    exact beq_iff_eq.1 h
  · rename_i q
    rw [if_neg q]
    simp only [Bool.and_eq_true, Bool.or_eq_true, decide_eq_true_eq, beq_iff_eq, List.all_eq_true, List.mem_range] at h
    refine ⟨h.1.1.1, h.1.1.2, fun k k1 k2 => ?_, h.2⟩
    rcases h.1.2 k k2 with e | e
    · omega
    · exact e
theorem ex_probes (b n : Nat) (hb : b < 18446744073709551616) (h : probesB b n = true) (w : World) :
    Calls Try.prog 7 #[.float .f64 b] w fun e w' => e = .returned (.int .i64 n) ∧ w = w' := by
  refine (probes_any b w hb).mono ?_
  rintro e w' ⟨m, he, hm, hw⟩
  obtain rfl := hm.same (probesB_of h)
  exact ⟨he, hw⟩
theorem ex_pages (n k : Int) (r : Nat) (h : pagesS n k = r) (w : World) :
    Calls Try.prog 9 #[.int .i64 n, .int .i64 k] w fun e w' => e = .returned (.int .i64 r) ∧ w = w' := h ▸ pages_any n k w
theorem nan_run (w : World) : Calls Try.prog 14 #[] w fun e w' => e = .returned (.float .f64 9221120237041090561) ∧ w = w' := by
  have h1 : ∀ w, (callFunc 6 #[.int .u64 9221120237041090561]).run Try.prog w = .ok (.value (.float .f64 9221120237041090561)) w := fun w => frombits_run 9221120237041090561 w
  go_enter Try.func14, Try.ntmps14
  go_wp2
  go_ret
  exact ⟨rfl, rfl⟩
theorem inf_up (w : World) : Calls Try.prog 15 #[.int .i64 1] w fun e w' => e = .returned (.float .f64 9218868437227405312) ∧ w = w' := by
  have h1 : ∀ w, (callFunc 6 #[.int .u64 9218868437227405312]).run Try.prog w = .ok (.value (.float .f64 9218868437227405312)) w := fun w => frombits_run 9218868437227405312 w
  go_enter Try.func15, Try.ntmps15
  go_wp2
  go_ret
  exact ⟨rfl, rfl⟩
theorem inf_down (w : World) : Calls Try.prog 15 #[.int .i64 (-1)] w fun e w' => e = .returned (.float .f64 18442240474082181120) ∧ w = w' := by
  have h1 : ∀ w, (callFunc 6 #[.int .u64 18442240474082181120]).run Try.prog w = .ok (.value (.float .f64 18442240474082181120)) w := fun w => frombits_run 18442240474082181120 w
  go_enter Try.func15, Try.ntmps15
  go_wp2
  go_ret
  exact ⟨rfl, rfl⟩

set_option maxHeartbeats 1000000 in
theorem rated_true (w : World) : Calls Try.prog 11 #[] w fun e w' => e = .returned (.bool true) ∧ w = w' := by
  have h1 : ∀ w, (callFunc 6 #[.int .u64 9223372036854775808]).run Try.prog w = .ok (.value (.float .f64 9223372036854775808)) w := fun w => frombits_run 9223372036854775808 w
  go_enter Try.func11, Try.ntmps11
  go_wp2_with fail
  refine (ex_probes 4607182418800017408 1 (by decide) (by decide +kernel) _).mono ?_
  rintro e w' ⟨rfl, rfl⟩
  go_wp2_with fail
  refine (ex_probes 4602678819172646912 1 (by decide) (by decide +kernel) _).mono ?_
  rintro e w' ⟨rfl, rfl⟩
  go_wp2_with fail
  refine (ex_probes 4602498675187552092 2 (by decide) (by decide +kernel) _).mono ?_
  rintro e w' ⟨rfl, rfl⟩
  go_wp2_with fail
  refine (ex_probes 4576918229304087675 7 (by decide) (by decide +kernel) _).mono ?_
  rintro e w' ⟨rfl, rfl⟩
  go_wp2_with fail
  refine (nan_run _).mono ?_
  rintro e w' ⟨rfl, rfl⟩
  go_wp2_with fail
  refine (ex_probes 9221120237041090561 4 (by decide) (by decide +kernel) _).mono ?_
  rintro e w' ⟨rfl, rfl⟩
  go_wp2_with fail
  refine (inf_down _).mono ?_
  rintro e w' ⟨rfl, rfl⟩
  go_wp2_with fail
  refine (ex_probes 18442240474082181120 16 (by decide) (by decide +kernel) _).mono ?_
  rintro e w' ⟨rfl, rfl⟩
  go_wp2_with fail
  refine (inf_up _).mono ?_
  rintro e w' ⟨rfl, rfl⟩
  go_wp2_with fail
  refine (ex_probes 9218868437227405312 1 (by decide) (by decide +kernel) _).mono ?_
  rintro e w' ⟨rfl, rfl⟩
  go_wp2_with fail
  refine (ex_probes 9223372036854775808 16 (by decide) (by decide +kernel) _).mono ?_
  rintro e w' ⟨rfl, rfl⟩
  go_wp2_with fail
  refine (ex_pages 0 4 1 (by decide) _).mono ?_
  rintro e w' ⟨rfl, rfl⟩
  go_wp2_with fail
  refine (ex_pages 80 4 1 (by decide) _).mono ?_
  rintro e w' ⟨rfl, rfl⟩
  go_wp2_with fail
  refine (ex_pages 81 4 2 (by decide) _).mono ?_
  rintro e w' ⟨rfl, rfl⟩
  go_wp2_with fail
  refine (ex_pages (-1) (-1) 1 (by decide) _).mono ?_
  rintro e w' ⟨rfl, rfl⟩
  go_wp2
  go_ret
  exact ⟨rfl, rfl⟩
end Go.Proofs.Ytdhkfkkpddpcaaa
