/- The walks of layer 9's laws, over the program's batches themselves. -/
import Derived.Test.YtnefofcofccmfaaBatLaws
import Derived.Test.YtnefofcofccmfaaBatIs
namespace Go.Proofs.Ytnefofcofccmfaa
open Go.RowKit
set_option linter.unusedVariables false

theorem BatchesTellW.walk (w : World) (s0 : ByteArray) (f0 : Int) (u0 : Value) (l0 : List RawS) (s1 : ByteArray) (f1 : Int) (u1 : Value) (l1 : List RawS) (ws0 : s0.size ≤ maxLen) (wf0 : (Lit.int .i64 f0).wf = true) (hl0 : RawsIn w u0 l0) (wl0 : ∀ x ∈ l0, RawOk x) (ws1 : s1.size ≤ maxLen) (wf1 : (Lit.int .i64 f1).wf = true) (hl1 : RawsIn w u1 l1) (wl1 : ∀ x ∈ l1, RawOk x) :
    Calls Try.prog 3 #[batV s0 f0 u0, batV s1 f1 u1] w fun e w' => e = .returned (.bool true) ∧ Below w.heap.size w w' :=
  batchestell_law bapi w s0 f0 u0 l0 s1 f1 u1 l1 ws0 wf0 hl0 wl0 ws1 wf1 hl1 wl1
theorem BatchesGetW.walk (a0 : ByteArray) (w0 : a0.size ≤ maxLen) (w : World) :
    Calls Try.prog 4 #[.string a0] w fun e w' => e = .returned (.bool true) ∧ Below w.heap.size w w' :=
  batchesget_law bapi a0 w0 w
theorem BatchesBackW.walk (w : World) (s0 : ByteArray) (f0 : Int) (u0 : Value) (l0 : List RawS) (a1 : ByteArray) (a2 : Int) (ws0 : s0.size ≤ maxLen) (wf0 : (Lit.int .i64 f0).wf = true) (hl0 : RawsIn w u0 l0) (wl0 : ∀ x ∈ l0, RawOk x) (w1 : a1.size ≤ maxLen) (w2 : (Lit.int .u16 a2).wf = true) :
    Calls Try.prog 5 #[batV s0 f0 u0, .string a1, .int .u16 a2] w fun e w' => e = .returned (.bool true) ∧ Below w.heap.size w w' :=
  batchesback_law bapi w s0 f0 u0 l0 a1 a2 ws0 wf0 hl0 wl0 w1 w2
theorem BatchesFormW.walk (a0 : ByteArray) (w0 : a0.size ≤ maxLen) (w : World) :
    Calls Try.prog 6 #[.string a0] w fun e w' => e = .returned (.bool true) ∧ Below w.heap.size w w' :=
  batchesform_law bapi a0 w0 w
theorem BatchesFirstW.walk (w : World) (s0 : ByteArray) (f0 : Int) (u0 : Value) (l0 : List RawS) (a1 : Int) (ws0 : s0.size ≤ maxLen) (wf0 : (Lit.int .i64 f0).wf = true) (hl0 : RawsIn w u0 l0) (wl0 : ∀ x ∈ l0, RawOk x) (w1 : (Lit.int .i64 a1).wf = true) :
    Calls Try.prog 7 #[batV s0 f0 u0, .int .i64 a1] w fun e w' => e = .returned (.bool true) ∧ Below w.heap.size w w' :=
  batchesfirst_law bapi w s0 f0 u0 l0 a1 ws0 wf0 hl0 wl0 w1
end Go.Proofs.Ytnefofcofccmfaa
