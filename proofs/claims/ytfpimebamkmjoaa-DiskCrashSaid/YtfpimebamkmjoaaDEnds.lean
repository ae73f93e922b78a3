/- DiskCrash and DiskFails over the program's disk. -/
import Derived.Test.YtfpimebamkmjoaaDApi
import Derived.Test.YtfpimebamkmjoaaDiskCrashWalk
import Derived.Test.YtfpimebamkmjoaaDiskFailsWalk
namespace Go.Proofs.Ytfpimebamkmjoaa.crashOf
open Go.RowKit
theorem walk (a0 a1 : ByteArray) (a2 : Int) (w0 : a0.size ≤ maxLen) (w1 : a1.size ≤ maxLen) (w2 : (Lit.int .i64 a2).wf = true) (w : World) :
    Calls Try.prog 5 #[.string a0, .string a1, .int .i64 a2] w fun e w' => e = .returned (.bool true) ∧ Below w.heap.size w w' := crash_walk api a0 a1 a2 w0 w1 w2 w
end Go.Proofs.Ytfpimebamkmjoaa.crashOf
namespace Go.Proofs.Ytfpimebamkmjoaa.failsOf
open Go.RowKit
theorem walk (a0 a1 a2 : Int) (w0 : (Lit.int .u8 a0).wf = true) (w1 : (Lit.int .u8 a1).wf = true) (w2 : (Lit.int .u8 a2).wf = true) (w : World) :
    Calls Try.prog 6 #[.int .u8 a0, .int .u8 a1, .int .u8 a2] w fun e w' => e = .returned (.bool true) ∧ Below w.heap.size w w' := fails_walk api a0 a1 a2 w0 w1 w2 w
end Go.Proofs.Ytfpimebamkmjoaa.failsOf
