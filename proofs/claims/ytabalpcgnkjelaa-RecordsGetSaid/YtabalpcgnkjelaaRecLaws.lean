/- The walks of layer 8's laws as their frames ask for them, over what the program's records answer. -/
import Derived.Test.YtabalpcgnkjelaaRecPutGetWalk
import Derived.Test.YtabalpcgnkjelaaRecBackWalk
import Derived.Test.YtabalpcgnkjelaaRecEndsWalk
import Derived.Test.YtabalpcgnkjelaaRecTornWalk
import Derived.Test.YtabalpcgnkjelaaRecRowWalk
import Derived.Test.YtabalpcgnkjelaaRecTurnedWalk
namespace Go.Proofs.Ytabalpcgnkjelaa
open Go.RowKit
set_option linter.unusedVariables false

theorem recordsput_law (api : RecApi)  (a0 : ByteArray) (w0 : a0.size ≤ maxLen) (w : World) :
    Calls Try.prog 3 #[.string a0] w fun e w' => e = .returned (.bool true) ∧ Below w.heap.size w w' := by
  exact put_walk api a0 w0 w

theorem recordsget_law (api : RecApi)  (a0 : ByteArray) (a1 : Int) (w0 : a0.size ≤ maxLen) (w1 : (Lit.int .i64 a1).wf = true) (w : World) :
    Calls Try.prog 4 #[.string a0, .int .i64 a1] w fun e w' => e = .returned (.bool true) ∧ Below w.heap.size w w' := by
  exact get_walk api a0 a1 w0 w1 w

theorem recordsrow_law (api : RecApi) (w : World) (a0 : ByteArray) (v1 : Value) (l1 : List ByteArray) (a2 : Int) (w0 : a0.size ≤ maxLen) (hl1 : StrsIn w v1 l1) (wl1 : ∀ p ∈ l1, p.size ≤ maxLen) (w2 : (Lit.int .u16 a2).wf = true) :
    Calls Try.prog 5 #[.string a0, v1, .int .u16 a2] w fun e w' => e = .returned (.bool true) ∧ Below w.heap.size w w' := by
  obtain ⟨n, rfl, hn⟩ := u16_nat w2
  exact row_walk api a0 v1 l1 n w w0 wl1 hl1 hn

theorem recordsback_law (api : RecApi)  (a0 : ByteArray) (a1 : ByteArray) (a2 : ByteArray) (w0 : a0.size ≤ maxLen) (w1 : a1.size ≤ maxLen) (w2 : a2.size ≤ maxLen) (w : World) :
    Calls Try.prog 6 #[.string a0, .string a1, .string a2] w fun e w' => e = .returned (.bool true) ∧ Below w.heap.size w w' := by
  exact rback_walk api a0 a1 a2 w0 w1 w2 w

theorem recordstorn_law (api : RecApi) (w : World) (a0 : ByteArray) (v1 : Value) (l1 : List ByteArray) (a2 : Int) (w0 : a0.size ≤ maxLen) (hl1 : StrsIn w v1 l1) (wl1 : ∀ p ∈ l1, p.size ≤ maxLen) (w2 : (Lit.int .u16 a2).wf = true) :
    Calls Try.prog 7 #[.string a0, v1, .int .u16 a2] w fun e w' => e = .returned (.bool true) ∧ Below w.heap.size w w' := by
  obtain ⟨n, rfl, hn⟩ := u16_nat w2
  exact torn_walk api a0 v1 l1 n w w0 wl1 hl1 hn

theorem recordsturned_law (api : RecApi)  (a0 : ByteArray) (a1 : Int) (a2 : Int) (w0 : a0.size ≤ maxLen) (w1 : (Lit.int .u16 a1).wf = true) (w2 : (Lit.int .u32 a2).wf = true) (w : World) :
    Calls Try.prog 8 #[.string a0, .int .u16 a1, .int .u32 a2] w fun e w' => e = .returned (.bool true) ∧ Below w.heap.size w w' := by
  obtain ⟨i, rfl, hi⟩ := u16_nat w1
  obtain ⟨j, rfl, hj⟩ := u32_nat w2
  exact turned_walk api a0 i j hi hj w0 w

theorem recordsends_law (api : RecApi) (w : World) (a0 : ByteArray) (v1 : Value) (l1 : List ByteArray) (w0 : a0.size ≤ maxLen) (hl1 : StrsIn w v1 l1) (wl1 : ∀ p ∈ l1, p.size ≤ maxLen) :
    Calls Try.prog 9 #[.string a0, v1] w fun e w' => e = .returned (.bool true) ∧ Below w.heap.size w w' := by
  exact ends_walk api a0 v1 l1 w w0 wl1 hl1

end Go.Proofs.Ytabalpcgnkjelaa
