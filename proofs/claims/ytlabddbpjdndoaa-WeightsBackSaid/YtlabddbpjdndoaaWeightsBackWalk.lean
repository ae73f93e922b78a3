/- The walk of annalistlaw04.WeightsBack. -/
import Derived.Test.YtlabddbpjdndoaaWeighed
namespace Go.Proofs.Ytlabddbpjdndoaa.weightsBackW
open Go.RowKit
set_option linter.unusedVariables false

theorem walk (a0 : Int) (w0 : (Lit.int .u64 a0).wf = true) (w : World) :
    Calls Try.prog 5 #[.int .u64 a0] w fun e w' => e = .returned (.bool true) ∧ Below w.heap.size w w' := by
  obtain ⟨x, rfl, hx⟩ := u64_nat w0
  have hf := fun (b : Nat) w => frombits_run b w
  have hg := fun (b : Nat) w => bits_run b w
  have h1 := fun w => back_any x w hx
  have h2 := fun w => key_any (backS x) w (backS_lt hx)
  have h3 := Lib.hid (fun w => key_any x w hx)
  have h4 := fun w => back_any (keyS x) w (keyS_lt hx)
  rw [key_back hx] at h2
  rw [back_key hx] at h4
  have H1 := Lib.hid h1
  have H2 := Lib.hid h2
  have H4 := Lib.hid h4
  clear h1 h2 h4 hx
  generalize backS x = y at *
  generalize keyS x = z at *
  go_enter Try.func5, Try.ntmps5
  go_wp2_with fail
  refine (H1.out _).mono ?_
  rintro e w' ⟨rfl, rfl⟩
  go_wp2_with fail
  refine (H2.out _).mono ?_
  rintro e w' ⟨rfl, rfl⟩
  go_wp2_with fail
  refine (h3.out _).mono ?_
  rintro e w' ⟨rfl, rfl⟩
  go_wp2_with fail
  refine (H4.out _).mono ?_
  rintro e w' ⟨rfl, rfl⟩
  go_wp2_with fail
  refine (weighed_true _).mono ?_
  rintro e w' ⟨rfl, hb⟩
  go_wp2
  go_ret
  exact ⟨rfl, hb⟩
end Go.Proofs.Ytlabddbpjdndoaa.weightsBackW
