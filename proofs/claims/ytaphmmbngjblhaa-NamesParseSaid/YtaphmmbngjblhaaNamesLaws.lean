/- The walks of layer 10's laws as their frames ask for them, over what the program's names answer. -/
import Derived.Test.YtaphmmbngjblhaaNamesBackWalk
namespace Go.Proofs.Ytaphmmbngjblhaa
open Go.RowKit
set_option linter.unusedVariables false

theorem namestell_law (api : NamesApi) (a0 : Int) (a1 : ByteArray) (w0 : (Lit.int .i64 a0).wf = true) (w1 : a1.size ≤ maxLen) (w : World) :
    Calls Try.prog 3 #[.int .i64 a0, .string a1] w fun e w' => e = .returned (.bool true) ∧ Below w.heap.size w w' := by
  exact ntell_walk api a0 a1 w w0 w1
theorem namesparse_law (api : NamesApi) (a0 : ByteArray) (w0 : a0.size ≤ maxLen) (w : World) :
    Calls Try.prog 4 #[.string a0] w fun e w' => e = .returned (.bool true) ∧ Below w.heap.size w w' := by
  exact nparse_walk api a0 w w0
theorem namesback_law (api : NamesApi) (a0 : Int) (a1 : ByteArray) (w0 : (Lit.int .i64 a0).wf = true) (w1 : a1.size ≤ maxLen) (w : World) :
    Calls Try.prog 5 #[.int .i64 a0, .string a1] w fun e w' => e = .returned (.bool true) ∧ Below w.heap.size w w' := by
  exact nback_walk api a0 a1 w w0 w1
theorem namesorder_law (api : NamesApi) (a0 : Int) (a1 : Int) (w0 : (Lit.int .u32 a0).wf = true) (w1 : (Lit.int .u32 a1).wf = true) (w : World) :
    Calls Try.prog 6 #[.int .u32 a0, .int .u32 a1] w fun e w' => e = .returned (.bool true) ∧ Below w.heap.size w w' := by
  obtain ⟨m, rfl, hm⟩ := u32_nat w0
  obtain ⟨n, rfl, hn⟩ := u32_nat w1
  exact norder_walk api m n w hm hn
end Go.Proofs.Ytaphmmbngjblhaa
