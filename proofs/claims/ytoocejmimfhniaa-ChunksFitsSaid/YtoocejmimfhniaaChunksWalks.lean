/- The walks of the laws of chunks, over the program itself. -/
import Derived.Test.YtoocejmimfhniaaChunksLaws
import Derived.Test.YtoocejmimfhniaaChunksIs
namespace Go.Proofs.Ytoocejmimfhniaa
open Go.RowKit
set_option linter.unusedVariables false

theorem ChunksScanW.walk (a0 : ByteArray) (a1 : Int) (w0 : a0.size ≤ maxLen) (w1 : (Lit.int .i64 a1).wf = true) (w : World) :
    Calls Try.prog 3 #[.string a0, .int .i64 a1] w fun e w' => e = .returned (.bool true) ∧ Below w.heap.size w w' :=
  chunksscan_law capi a0 a1 w0 w1 w
theorem ChunksFitsW.walk (a0 : Int) (a1 : ByteArray) (w0 : (Lit.int .i64 a0).wf = true) (w1 : a1.size ≤ maxLen) (w : World) :
    Calls Try.prog 5 #[.int .i64 a0, .string a1] w fun e w' => e = .returned (.bool true) ∧ Below w.heap.size w w' :=
  chunksfits_law capi a0 a1 w0 w1 w
theorem ChunksTornW.walk (w : World) (v0 : Value) (l0 : List ByteArray) (a1 : Int) (a2 : Int) (hl0 : StrsIn w v0 l0) (wl0 : ∀ p ∈ l0, p.size ≤ maxLen) (w1 : (Lit.int .u8 a1).wf = true) (w2 : (Lit.int .u16 a2).wf = true) :
    Calls Try.prog 6 #[v0, .int .u8 a1, .int .u16 a2] w fun e w' => e = .returned (.bool true) ∧ Below w.heap.size w w' :=
  chunkstorn_law capi w v0 l0 a1 a2 hl0 wl0 w1 w2
theorem ChunksRowW.walk (w : World) (v0 : Value) (l0 : List ByteArray) (a1 : Int) (a2 : ByteArray) (hl0 : StrsIn w v0 l0) (wl0 : ∀ p ∈ l0, p.size ≤ maxLen) (w1 : (Lit.int .u8 a1).wf = true) (w2 : a2.size ≤ maxLen) :
    Calls Try.prog 4 #[v0, .int .u8 a1, .string a2] w fun e w' => e = .returned (.bool true) ∧ Below w.heap.size w w' :=
  chunksrow_law capi w v0 l0 a1 a2 hl0 wl0 w1 w2
theorem ChunksOtherW.walk (a0 : Int) (a1 : Int) (a2 b2 : Int) (w0 : (Lit.int .u8 a0).wf = true) (w1 : (Lit.int .u8 a1).wf = true) (wa2 : (Lit.int .u8 a2).wf = true) (wb2 : (Lit.int .u8 b2).wf = true) (w : World) :
    Calls Try.prog 7 #[.int .u8 a0, .int .u8 a1, .agg #[.int .u8 a2, .int .u8 b2]] w fun e w' => e = .returned (.bool true) ∧ Below w.heap.size w w' :=
  chunksother_law capi a0 a1 a2 b2 w0 w1 wa2 wb2 w
theorem ChunksRoomW.walk (w : World) (v0 : Value) (l0 : List Nat) (hl0 : U16sIn w v0 l0) (wl0 : ∀ x ∈ l0, x < 65536) :
    Calls Try.prog 8 #[v0] w fun e w' => e = .returned (.bool true) ∧ Below w.heap.size w w' :=
  chunksroom_law capi w v0 l0 hl0 wl0
end Go.Proofs.Ytoocejmimfhniaa
