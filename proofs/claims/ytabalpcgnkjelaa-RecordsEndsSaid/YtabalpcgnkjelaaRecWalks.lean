/- The walks of layer 8's laws, over the program's records themselves. -/
import Derived.Test.YtabalpcgnkjelaaRecLaws
import Derived.Test.YtabalpcgnkjelaaRecIs
namespace Go.Proofs.Ytabalpcgnkjelaa
open Go.RowKit
set_option linter.unusedVariables false

theorem RecordsPutW.walk  (a0 : ByteArray) (w0 : a0.size ≤ maxLen) (w : World) :
    Calls Try.prog 3 #[.string a0] w fun e w' => e = .returned (.bool true) ∧ Below w.heap.size w w' :=
  recordsput_law api a0 w0 w
theorem RecordsGetW.walk  (a0 : ByteArray) (a1 : Int) (w0 : a0.size ≤ maxLen) (w1 : (Lit.int .i64 a1).wf = true) (w : World) :
    Calls Try.prog 4 #[.string a0, .int .i64 a1] w fun e w' => e = .returned (.bool true) ∧ Below w.heap.size w w' :=
  recordsget_law api a0 a1 w0 w1 w
theorem RecordsRowW.walk (w : World) (a0 : ByteArray) (v1 : Value) (l1 : List ByteArray) (a2 : Int) (w0 : a0.size ≤ maxLen) (hl1 : StrsIn w v1 l1) (wl1 : ∀ p ∈ l1, p.size ≤ maxLen) (w2 : (Lit.int .u16 a2).wf = true) :
    Calls Try.prog 5 #[.string a0, v1, .int .u16 a2] w fun e w' => e = .returned (.bool true) ∧ Below w.heap.size w w' :=
  recordsrow_law api w a0 v1 l1 a2 w0 hl1 wl1 w2
theorem RecordsBackW.walk  (a0 : ByteArray) (a1 : ByteArray) (a2 : ByteArray) (w0 : a0.size ≤ maxLen) (w1 : a1.size ≤ maxLen) (w2 : a2.size ≤ maxLen) (w : World) :
    Calls Try.prog 6 #[.string a0, .string a1, .string a2] w fun e w' => e = .returned (.bool true) ∧ Below w.heap.size w w' :=
  recordsback_law api a0 a1 a2 w0 w1 w2 w
theorem RecordsTornW.walk (w : World) (a0 : ByteArray) (v1 : Value) (l1 : List ByteArray) (a2 : Int) (w0 : a0.size ≤ maxLen) (hl1 : StrsIn w v1 l1) (wl1 : ∀ p ∈ l1, p.size ≤ maxLen) (w2 : (Lit.int .u16 a2).wf = true) :
    Calls Try.prog 7 #[.string a0, v1, .int .u16 a2] w fun e w' => e = .returned (.bool true) ∧ Below w.heap.size w w' :=
  recordstorn_law api w a0 v1 l1 a2 w0 hl1 wl1 w2
theorem RecordsTurnedW.walk  (a0 : ByteArray) (a1 : Int) (a2 : Int) (w0 : a0.size ≤ maxLen) (w1 : (Lit.int .u16 a1).wf = true) (w2 : (Lit.int .u32 a2).wf = true) (w : World) :
    Calls Try.prog 8 #[.string a0, .int .u16 a1, .int .u32 a2] w fun e w' => e = .returned (.bool true) ∧ Below w.heap.size w w' :=
  recordsturned_law api a0 a1 a2 w0 w1 w2 w
theorem RecordsEndsW.walk (w : World) (a0 : ByteArray) (v1 : Value) (l1 : List ByteArray) (w0 : a0.size ≤ maxLen) (hl1 : StrsIn w v1 l1) (wl1 : ∀ p ∈ l1, p.size ≤ maxLen) :
    Calls Try.prog 9 #[.string a0, v1] w fun e w' => e = .returned (.bool true) ∧ Below w.heap.size w w' :=
  recordsends_law api w a0 v1 l1 w0 hl1 wl1
end Go.Proofs.Ytabalpcgnkjelaa
