/- The walk of annalistlaw05.RatesTell. -/
import Derived.Test.YtdhkfkkpddpcaaaRated
import Derived.Test.YtdhkfkkpddpcaaaRatesRef
namespace Go.Proofs.Ytdhkfkkpddpcaaa.ratesTellW
open Go.RowKit
set_option linter.unusedVariables false

theorem walk (a0 a1 a2 : Int) (w0 : (Lit.int .u64 a0).wf = true) (w1 : (Lit.int .i64 a1).wf = true) (w2 : (Lit.int .i64 a2).wf = true) (w : World) :
    Calls Try.prog 3 #[.int .u64 a0, .int .i64 a1, .int .i64 a2] w fun e w' => e = .returned (.bool true) ∧ Below w.heap.size w w' := by
  obtain ⟨x, rfl, hx⟩ := u64_nat w0
  have hf := fun w => frombits_run x w
  have k1 := Lib.hid (fun w => probes_any x w hx)
  have k2 := Lib.hid (fun w => probes_ref x w hx)
  have k3 := Lib.hid (fun w => pages_any a1 a2 w)
  have k4 := Lib.hid (fun w => pages_ref a1 a2 w)
  generalize pagesS a1 a2 = r at *
  clear hx w0 w1 w2
  go_enter Try.func3, Try.ntmps3
  go_wp2_with fail
  refine (k1.out _).mono ?_
  rintro e w' ⟨m, rfl, hm, rfl⟩
  have HM := Lib.hid hm
  clear hm
  go_wp2_with fail
  refine (k2.out _).mono ?_
  rintro e w' ⟨n, rfl, hn, rfl⟩
  obtain rfl := HM.out.same hn
  clear hn HM
  go_wp2_with fail
  refine (k3.out _).mono ?_
  rintro e w' ⟨rfl, rfl⟩
  go_wp2_with fail
  refine (k4.out _).mono ?_
  rintro e w' ⟨rfl, rfl⟩
  go_wp2_with fail
  refine (rated_true _).mono ?_
  rintro e w' ⟨rfl, rfl⟩
  go_wp2
  go_ret
  exact ⟨rfl, Below.refl _ _⟩
end Go.Proofs.Ytdhkfkkpddpcaaa.ratesTellW
