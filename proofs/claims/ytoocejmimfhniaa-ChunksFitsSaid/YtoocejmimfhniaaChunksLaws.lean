/- The walks of layer 11's laws as their frames ask for them, over what the program's chunks answer. -/
import Derived.Test.YtoocejmimfhniaaChunksWalk
import Derived.Test.YtoocejmimfhniaaChunksRowWalk
import Derived.Test.YtoocejmimfhniaaChunksOtherWalk
import Derived.Test.YtoocejmimfhniaaChunksRoomWalk
namespace Go.Proofs.Ytoocejmimfhniaa
open Go.RowKit
set_option linter.unusedVariables false

theorem chunksscan_law (api : ChunksApi) (a0 : ByteArray) (a1 : Int) (w0 : a0.size ≤ maxLen) (w1 : (Lit.int .i64 a1).wf = true) (w : World) :
    Calls Try.prog 3 #[.string a0, .int .i64 a1] w fun e w' => e = .returned (.bool true) ∧ Below w.heap.size w w' := by
  exact scan_walk api a0 a1 w0 w1 w
theorem chunksfits_law (api : ChunksApi) (a0 : Int) (a1 : ByteArray) (w0 : (Lit.int .i64 a0).wf = true) (w1 : a1.size ≤ maxLen) (w : World) :
    Calls Try.prog 5 #[.int .i64 a0, .string a1] w fun e w' => e = .returned (.bool true) ∧ Below w.heap.size w w' := by
  exact fits_walk api a0 a1 w0 w1 w
theorem chunkstorn_law (api : ChunksApi) (w : World) (v0 : Value) (l0 : List ByteArray) (a1 : Int) (a2 : Int) (hl0 : StrsIn w v0 l0) (wl0 : ∀ p ∈ l0, p.size ≤ maxLen) (w1 : (Lit.int .u8 a1).wf = true) (w2 : (Lit.int .u16 a2).wf = true) :
    Calls Try.prog 6 #[v0, .int .u8 a1, .int .u16 a2] w fun e w' => e = .returned (.bool true) ∧ Below w.heap.size w w' := by
  obtain ⟨n, rfl, hn⟩ := u8_nat w1
  obtain ⟨c, rfl, hc⟩ := u16_nat w2
  exact torn_walk api v0 l0 n c w wl0 hl0 hn hc
theorem chunksrow_law (api : ChunksApi) (w : World) (v0 : Value) (l0 : List ByteArray) (a1 : Int) (a2 : ByteArray) (hl0 : StrsIn w v0 l0) (wl0 : ∀ p ∈ l0, p.size ≤ maxLen) (w1 : (Lit.int .u8 a1).wf = true) (w2 : a2.size ≤ maxLen) :
    Calls Try.prog 4 #[v0, .int .u8 a1, .string a2] w fun e w' => e = .returned (.bool true) ∧ Below w.heap.size w w' := by
  obtain ⟨n, rfl, hn⟩ := u8_nat w1
  exact crow_walk api v0 l0 n a2 w wl0 hl0 hn w2
theorem chunksother_law (api : ChunksApi) (a0 : Int) (a1 : Int) (a2 b2 : Int) (w0 : (Lit.int .u8 a0).wf = true) (w1 : (Lit.int .u8 a1).wf = true) (wa2 : (Lit.int .u8 a2).wf = true) (wb2 : (Lit.int .u8 b2).wf = true) (w : World) :
    Calls Try.prog 7 #[.int .u8 a0, .int .u8 a1, .agg #[.int .u8 a2, .int .u8 b2]] w fun e w' => e = .returned (.bool true) ∧ Below w.heap.size w w' := by
  obtain ⟨n, rfl, hn⟩ := u8_nat w0
  obtain ⟨o, rfl, ho⟩ := u8_nat w1
  obtain ⟨x, rfl, hx⟩ := u8_nat wa2
  obtain ⟨y, rfl, hy⟩ := u8_nat wb2
  exact chunksOtherV.walk api n o x y hn ho hx hy w
theorem chunksroom_law (api : ChunksApi) (w : World) (v0 : Value) (l0 : List Nat) (hl0 : U16sIn w v0 l0) (wl0 : ∀ x ∈ l0, x < 65536) :
    Calls Try.prog 8 #[v0] w fun e w' => e = .returned (.bool true) ∧ Below w.heap.size w w' := by
  exact room_walk api v0 l0 w hl0 wl0
end Go.Proofs.Ytoocejmimfhniaa
