/-
  No cell of these rows narrows 'for every input' (looked for: loops, veiled, ifaces, maps, wideKeys, modest, calm, conditions, laid).
  DERIVED. THE GIVEN ROWS OF THIS SEAT. 6 by the template 'for every input the law returns true; each argument reads behind the call as it read before'; 0 by the template 'total and deterministic' (their statements: YtoocejmimfhniaaTotals.lean).
  GIVEN WITH THE SEED: the statements are not yours to turn. If you find one false, say at which input.
  Laid BY PROGRAM, IN A SANDBOX (cutbox-rows.mjs): the forced cells as the released guide's own fill.sh prints them over the translation 77283e6e6602aca9… (all of the seat's roots in one cut). By AI agents, Wed Nov 11 2026. No macro, syntax, notation, axiom, sorry.
-/
import Derived.Test.YtoocejmimfhniaaChecked
import GoSem.Claim
import GoSem.ClaimJoined
import GoSem.ClaimMapViews
import Derived.JoinedTies
import Derived.KernelRfl
namespace Go.Proofs.Ytoocejmimfhniaa
/- THE CELL 'sum', in the pinned program and in every row, IS THE sha256 OF THE DUMP (.gsa) THAT YtoocejmimfhniaaProg.lean LOADS. Nothing in Lean hashes anything: it is a label: what it is worth is what the hold of that sum in a sandbox is worth. -/
noncomputable def Try.pinned : Pinned := { name := "ytoocejmimfhniaa", sum := "77283e6e6602aca9b93b1625b77425d602715bbe04e99138833fd6e26e18e908", checked := Try.checked }
namespace Rows
def none {H : Type} : Left H := { results := [], args := [] }

/-- 'annalistlaw11.ChunksScan': WHATEVER THE INPUT: true; the input reads as it did. -/
def chunksScanSpec : ChangeSpec := { name := "chunksScan", fn := fun _ => fun
  | [d1, d2] => { results := [.lit (.bool true)], args := [d1, d2] }
  | _ => none }
def chunksScanRow : OpenClaim := { program := "ytoocejmimfhniaa", sum := "77283e6e6602aca9b93b1625b77425d602715bbe04e99138833fd6e26e18e908", func := "annalist/annalistlaw11.ChunksScan", spec := "chunksScan", unfollowed := true, recurses := true, apart := false }
def ChunksScanSaid : Prop := chunksScanRow.holds Try.pinned (OpenSpec.ofChange chunksScanSpec)

/-- ITS FALSE NEIGHBOUR: 'it returns false'. Refute it at one input. -/
def chunksScanWrong : ChangeSpec := { name := "chunksScan", fn := fun _ => fun
  | [d1, d2] => { results := [.lit (.bool false)], args := [d1, d2] }
  | _ => none }
def ChunksScanWrongFalsely : Prop := chunksScanRow.holds Try.pinned (OpenSpec.ofChange chunksScanWrong)

/-- 'annalistlaw11.ChunksRow': WHATEVER THE INPUT: true; the input reads as it did. -/
def chunksRowSpec : ChangeSpec := { name := "chunksRow", fn := fun _ => fun
  | [d1, d2, d3] => { results := [.lit (.bool true)], args := [d1, d2, d3] }
  | _ => none }
def chunksRowRow : OpenClaim := { program := "ytoocejmimfhniaa", sum := "77283e6e6602aca9b93b1625b77425d602715bbe04e99138833fd6e26e18e908", func := "annalist/annalistlaw11.ChunksRow", spec := "chunksRow", unfollowed := true, recurses := true, apart := false }
def ChunksRowSaid : Prop := chunksRowRow.holds Try.pinned (OpenSpec.ofChange chunksRowSpec)

/-- ITS FALSE NEIGHBOUR: 'it returns false'. Refute it at one input. -/
def chunksRowWrong : ChangeSpec := { name := "chunksRow", fn := fun _ => fun
  | [d1, d2, d3] => { results := [.lit (.bool false)], args := [d1, d2, d3] }
  | _ => none }
def ChunksRowWrongFalsely : Prop := chunksRowRow.holds Try.pinned (OpenSpec.ofChange chunksRowWrong)

/-- 'annalistlaw11.ChunksFits': WHATEVER THE INPUT: true; the input reads as it did. -/
def chunksFitsSpec : ChangeSpec := { name := "chunksFits", fn := fun _ => fun
  | [d1, d2] => { results := [.lit (.bool true)], args := [d1, d2] }
  | _ => none }
def chunksFitsRow : OpenClaim := { program := "ytoocejmimfhniaa", sum := "77283e6e6602aca9b93b1625b77425d602715bbe04e99138833fd6e26e18e908", func := "annalist/annalistlaw11.ChunksFits", spec := "chunksFits", unfollowed := true, recurses := true, apart := false }
def ChunksFitsSaid : Prop := chunksFitsRow.holds Try.pinned (OpenSpec.ofChange chunksFitsSpec)

/-- ITS FALSE NEIGHBOUR: 'it returns false'. Refute it at one input. -/
def chunksFitsWrong : ChangeSpec := { name := "chunksFits", fn := fun _ => fun
  | [d1, d2] => { results := [.lit (.bool false)], args := [d1, d2] }
  | _ => none }
def ChunksFitsWrongFalsely : Prop := chunksFitsRow.holds Try.pinned (OpenSpec.ofChange chunksFitsWrong)

/-- 'annalistlaw11.ChunksTorn': WHATEVER THE INPUT: true; the input reads as it did. -/
def chunksTornSpec : ChangeSpec := { name := "chunksTorn", fn := fun _ => fun
  | [d1, d2, d3] => { results := [.lit (.bool true)], args := [d1, d2, d3] }
  | _ => none }
def chunksTornRow : OpenClaim := { program := "ytoocejmimfhniaa", sum := "77283e6e6602aca9b93b1625b77425d602715bbe04e99138833fd6e26e18e908", func := "annalist/annalistlaw11.ChunksTorn", spec := "chunksTorn", unfollowed := true, recurses := true, apart := false }
def ChunksTornSaid : Prop := chunksTornRow.holds Try.pinned (OpenSpec.ofChange chunksTornSpec)

/-- ITS FALSE NEIGHBOUR: 'it returns false'. Refute it at one input. -/
def chunksTornWrong : ChangeSpec := { name := "chunksTorn", fn := fun _ => fun
  | [d1, d2, d3] => { results := [.lit (.bool false)], args := [d1, d2, d3] }
  | _ => none }
def ChunksTornWrongFalsely : Prop := chunksTornRow.holds Try.pinned (OpenSpec.ofChange chunksTornWrong)

/-- 'annalistlaw11.ChunksOther': WHATEVER THE INPUT: true; the input reads as it did. -/
def chunksOtherSpec : ChangeSpec := { name := "chunksOther", fn := fun _ => fun
  | [d1, d2, d3] => { results := [.lit (.bool true)], args := [d1, d2, d3] }
  | _ => none }
def chunksOtherRow : OpenClaim := { program := "ytoocejmimfhniaa", sum := "77283e6e6602aca9b93b1625b77425d602715bbe04e99138833fd6e26e18e908", func := "annalist/annalistlaw11.ChunksOther", spec := "chunksOther", unfollowed := true, recurses := true, apart := false }
def ChunksOtherSaid : Prop := chunksOtherRow.holds Try.pinned (OpenSpec.ofChange chunksOtherSpec)

/-- ITS FALSE NEIGHBOUR: 'it returns false'. Refute it at one input. -/
def chunksOtherWrong : ChangeSpec := { name := "chunksOther", fn := fun _ => fun
  | [d1, d2, d3] => { results := [.lit (.bool false)], args := [d1, d2, d3] }
  | _ => none }
def ChunksOtherWrongFalsely : Prop := chunksOtherRow.holds Try.pinned (OpenSpec.ofChange chunksOtherWrong)

/-- 'annalistlaw11.ChunksRoom': WHATEVER THE INPUT: true; the input reads as it did. -/
def chunksRoomSpec : ChangeSpec := { name := "chunksRoom", fn := fun _ => fun
  | [d] => { results := [.lit (.bool true)], args := [d] }
  | _ => none }
def chunksRoomRow : OpenClaim := { program := "ytoocejmimfhniaa", sum := "77283e6e6602aca9b93b1625b77425d602715bbe04e99138833fd6e26e18e908", func := "annalist/annalistlaw11.ChunksRoom", spec := "chunksRoom", unfollowed := true, recurses := true, apart := false }
def ChunksRoomSaid : Prop := chunksRoomRow.holds Try.pinned (OpenSpec.ofChange chunksRoomSpec)

/-- ITS FALSE NEIGHBOUR: 'it returns false'. Refute it at one input. -/
def chunksRoomWrong : ChangeSpec := { name := "chunksRoom", fn := fun _ => fun
  | [d] => { results := [.lit (.bool false)], args := [d] }
  | _ => none }
def ChunksRoomWrongFalsely : Prop := chunksRoomRow.holds Try.pinned (OpenSpec.ofChange chunksRoomWrong)

/- THE SECOND FORM. 'bulk': how many values and letters a reading holds, each counted each time it is reached (what is shared counts as often as it is met; a slice's spare places count too). A statement '..UptoSaid' is the law's where the arguments, and the package variables that the reading takes, are together of bulk at most 1048576: NARROWER than '..Said'. Prove '..Said' where nothing that the law and all that it calls make is longer than what came in: it says more and counts as full. Else prove '..UptoSaid'. A law counts once. -/
mutual
def uptoBulk {H : Type} : DataW H → Nat
  | .lit (.string bytes) => bytes.length + 1
  | .lit _ => 1
  | .nil => 1
  | .ptr d => uptoBulk d + 1
  | .slice elems spare => uptoBulkAll elems + uptoBulkAll spare + 1
  | .agg parts => uptoBulkAll parts + 1
  | .iface _ d => uptoBulk d + 1
  | .map entries => uptoBulkEntries entries + 1
  | .held _ => 1
def uptoBulkAll {H : Type} : List (DataW H) → Nat
  | [] => 0
  | d :: r => uptoBulk d + uptoBulkAll r
def uptoBulkEntries {H : Type} : List (Lit × DataW H) → Nat
  | [] => 0
  | x :: r => uptoBulkEntry x + uptoBulkEntries r
def uptoBulkEntry {H : Type} : Lit × DataW H → Nat
  | (.string bytes, d) => bytes.length + uptoBulk d + 1
  | (_, d) => uptoBulk d + 1
 end
def uptoSmall : (H : Type) → List (DataW H) → Bool := fun _ ds => decide (uptoBulkAll ds ≤ 1048576)
def OpenSpec.upto (s : _root_.Go.ChangeSpec) : _root_.Go.OpenSpec := { _root_.Go.OpenSpec.ofChange s with cond := some uptoSmall }

/-- 'annalistlaw11.ChunksScan', WHERE WHAT IT READS IS OF BULK AT MOST 1048576: true; the input reads as it did. -/
def chunksScanUptoRow : OpenClaim := { program := "ytoocejmimfhniaa", sum := "77283e6e6602aca9b93b1625b77425d602715bbe04e99138833fd6e26e18e908", func := "annalist/annalistlaw11.ChunksScan", spec := "chunksScan", unfollowed := true, recurses := true, apart := false, narrowed := true }
def ChunksScanUptoSaid : Prop := chunksScanUptoRow.holds Try.pinned (OpenSpec.upto chunksScanSpec)

/-- 'annalistlaw11.ChunksRow', WHERE WHAT IT READS IS OF BULK AT MOST 1048576: true; the input reads as it did. -/
def chunksRowUptoRow : OpenClaim := { program := "ytoocejmimfhniaa", sum := "77283e6e6602aca9b93b1625b77425d602715bbe04e99138833fd6e26e18e908", func := "annalist/annalistlaw11.ChunksRow", spec := "chunksRow", unfollowed := true, recurses := true, apart := false, narrowed := true }
def ChunksRowUptoSaid : Prop := chunksRowUptoRow.holds Try.pinned (OpenSpec.upto chunksRowSpec)

/-- 'annalistlaw11.ChunksFits', WHERE WHAT IT READS IS OF BULK AT MOST 1048576: true; the input reads as it did. -/
def chunksFitsUptoRow : OpenClaim := { program := "ytoocejmimfhniaa", sum := "77283e6e6602aca9b93b1625b77425d602715bbe04e99138833fd6e26e18e908", func := "annalist/annalistlaw11.ChunksFits", spec := "chunksFits", unfollowed := true, recurses := true, apart := false, narrowed := true }
def ChunksFitsUptoSaid : Prop := chunksFitsUptoRow.holds Try.pinned (OpenSpec.upto chunksFitsSpec)

/-- 'annalistlaw11.ChunksTorn', WHERE WHAT IT READS IS OF BULK AT MOST 1048576: true; the input reads as it did. -/
def chunksTornUptoRow : OpenClaim := { program := "ytoocejmimfhniaa", sum := "77283e6e6602aca9b93b1625b77425d602715bbe04e99138833fd6e26e18e908", func := "annalist/annalistlaw11.ChunksTorn", spec := "chunksTorn", unfollowed := true, recurses := true, apart := false, narrowed := true }
def ChunksTornUptoSaid : Prop := chunksTornUptoRow.holds Try.pinned (OpenSpec.upto chunksTornSpec)

/-- 'annalistlaw11.ChunksOther', WHERE WHAT IT READS IS OF BULK AT MOST 1048576: true; the input reads as it did. -/
def chunksOtherUptoRow : OpenClaim := { program := "ytoocejmimfhniaa", sum := "77283e6e6602aca9b93b1625b77425d602715bbe04e99138833fd6e26e18e908", func := "annalist/annalistlaw11.ChunksOther", spec := "chunksOther", unfollowed := true, recurses := true, apart := false, narrowed := true }
def ChunksOtherUptoSaid : Prop := chunksOtherUptoRow.holds Try.pinned (OpenSpec.upto chunksOtherSpec)

/-- 'annalistlaw11.ChunksRoom', WHERE WHAT IT READS IS OF BULK AT MOST 1048576: true; the input reads as it did. -/
def chunksRoomUptoRow : OpenClaim := { program := "ytoocejmimfhniaa", sum := "77283e6e6602aca9b93b1625b77425d602715bbe04e99138833fd6e26e18e908", func := "annalist/annalistlaw11.ChunksRoom", spec := "chunksRoom", unfollowed := true, recurses := true, apart := false, narrowed := true }
def ChunksRoomUptoSaid : Prop := chunksRoomUptoRow.holds Try.pinned (OpenSpec.upto chunksRoomSpec)

end Rows
end Go.Proofs.Ytoocejmimfhniaa
