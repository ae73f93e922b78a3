/-
  No cell of these rows narrows 'for every input' (looked for: loops, veiled, ifaces, maps, wideKeys, modest, calm, conditions, laid).
  DERIVED. THE GIVEN ROWS OF THIS SEAT. 5 by the template 'for every input the law returns true; each argument reads behind the call as it read before'; 0 by the template 'total and deterministic' (their statements: YtnefofcofccmfaaTotals.lean).
  GIVEN WITH THE SEED: the statements are not yours to turn. If you find one false, say at which input.
  Laid BY PROGRAM, IN A SANDBOX (cutbox-rows.mjs): the forced cells as the released guide's own fill.sh prints them over the translation 34d87c608c837794… (all of the seat's roots in one cut). By AI agents, Wed Nov 11 2026. No macro, syntax, notation, axiom, sorry.
-/
import Derived.Test.YtnefofcofccmfaaChecked
import GoSem.Claim
import GoSem.ClaimJoined
import GoSem.ClaimMapViews
import Derived.JoinedTies
import Derived.KernelRfl
namespace Go.Proofs.Ytnefofcofccmfaa
/- THE CELL 'sum', in the pinned program and in every row, IS THE sha256 OF THE DUMP (.gsa) THAT YtnefofcofccmfaaProg.lean LOADS. Nothing in Lean hashes anything: it is a label: what it is worth is what the hold of that sum in a sandbox is worth. -/
noncomputable def Try.pinned : Pinned := { name := "ytnefofcofccmfaa", sum := "34d87c608c837794460b7541bb58e2bceb42685791622de6b23d5d4eb918d04d", checked := Try.checked }
namespace Rows
def none {H : Type} : Left H := { results := [], args := [] }

/-- 'annalistlaw09.BatchesTell': WHATEVER THE INPUT: true; the input reads as it did. -/
def batchesTellSpec : ChangeSpec := { name := "batchesTell", fn := fun _ => fun
  | [d1, d2] => { results := [.lit (.bool true)], args := [d1, d2] }
  | _ => none }
def batchesTellRow : OpenClaim := { program := "ytnefofcofccmfaa", sum := "34d87c608c837794460b7541bb58e2bceb42685791622de6b23d5d4eb918d04d", func := "annalist/annalistlaw09.BatchesTell", spec := "batchesTell", inPlace := ["internal/abi.NoEscape", "math.Float64bits", "math.Float64frombits"], unfollowed := true, recurses := true, apart := false }
def BatchesTellSaid : Prop := batchesTellRow.holds Try.pinned (OpenSpec.ofChange batchesTellSpec)

/-- ITS FALSE NEIGHBOUR: 'it returns false'. Refute it at one input. -/
def batchesTellWrong : ChangeSpec := { name := "batchesTell", fn := fun _ => fun
  | [d1, d2] => { results := [.lit (.bool false)], args := [d1, d2] }
  | _ => none }
def BatchesTellWrongFalsely : Prop := batchesTellRow.holds Try.pinned (OpenSpec.ofChange batchesTellWrong)

/-- 'annalistlaw09.BatchesGet': WHATEVER THE INPUT: true; the input reads as it did. -/
def batchesGetSpec : ChangeSpec := { name := "batchesGet", fn := fun _ => fun
  | [d] => { results := [.lit (.bool true)], args := [d] }
  | _ => none }
def batchesGetRow : OpenClaim := { program := "ytnefofcofccmfaa", sum := "34d87c608c837794460b7541bb58e2bceb42685791622de6b23d5d4eb918d04d", func := "annalist/annalistlaw09.BatchesGet", spec := "batchesGet", inPlace := ["internal/abi.NoEscape", "math.Float64bits", "math.Float64frombits"], unfollowed := true, recurses := true, apart := false }
def BatchesGetSaid : Prop := batchesGetRow.holds Try.pinned (OpenSpec.ofChange batchesGetSpec)

/-- ITS FALSE NEIGHBOUR: 'it returns false'. Refute it at one input. -/
def batchesGetWrong : ChangeSpec := { name := "batchesGet", fn := fun _ => fun
  | [d] => { results := [.lit (.bool false)], args := [d] }
  | _ => none }
def BatchesGetWrongFalsely : Prop := batchesGetRow.holds Try.pinned (OpenSpec.ofChange batchesGetWrong)

/-- 'annalistlaw09.BatchesBack': WHATEVER THE INPUT: true; the input reads as it did. -/
def batchesBackSpec : ChangeSpec := { name := "batchesBack", fn := fun _ => fun
  | [d1, d2, d3] => { results := [.lit (.bool true)], args := [d1, d2, d3] }
  | _ => none }
def batchesBackRow : OpenClaim := { program := "ytnefofcofccmfaa", sum := "34d87c608c837794460b7541bb58e2bceb42685791622de6b23d5d4eb918d04d", func := "annalist/annalistlaw09.BatchesBack", spec := "batchesBack", inPlace := ["internal/abi.NoEscape", "math.Float64bits", "math.Float64frombits"], unfollowed := true, recurses := true, apart := false }
def BatchesBackSaid : Prop := batchesBackRow.holds Try.pinned (OpenSpec.ofChange batchesBackSpec)

/-- ITS FALSE NEIGHBOUR: 'it returns false'. Refute it at one input. -/
def batchesBackWrong : ChangeSpec := { name := "batchesBack", fn := fun _ => fun
  | [d1, d2, d3] => { results := [.lit (.bool false)], args := [d1, d2, d3] }
  | _ => none }
def BatchesBackWrongFalsely : Prop := batchesBackRow.holds Try.pinned (OpenSpec.ofChange batchesBackWrong)

/-- 'annalistlaw09.BatchesForm': WHATEVER THE INPUT: true; the input reads as it did. -/
def batchesFormSpec : ChangeSpec := { name := "batchesForm", fn := fun _ => fun
  | [d] => { results := [.lit (.bool true)], args := [d] }
  | _ => none }
def batchesFormRow : OpenClaim := { program := "ytnefofcofccmfaa", sum := "34d87c608c837794460b7541bb58e2bceb42685791622de6b23d5d4eb918d04d", func := "annalist/annalistlaw09.BatchesForm", spec := "batchesForm", inPlace := ["internal/abi.NoEscape", "math.Float64bits", "math.Float64frombits"], unfollowed := true, recurses := true, apart := false }
def BatchesFormSaid : Prop := batchesFormRow.holds Try.pinned (OpenSpec.ofChange batchesFormSpec)

/-- ITS FALSE NEIGHBOUR: 'it returns false'. Refute it at one input. -/
def batchesFormWrong : ChangeSpec := { name := "batchesForm", fn := fun _ => fun
  | [d] => { results := [.lit (.bool false)], args := [d] }
  | _ => none }
def BatchesFormWrongFalsely : Prop := batchesFormRow.holds Try.pinned (OpenSpec.ofChange batchesFormWrong)

/-- 'annalistlaw09.BatchesFirst': WHATEVER THE INPUT: true; the input reads as it did. -/
def batchesFirstSpec : ChangeSpec := { name := "batchesFirst", fn := fun _ => fun
  | [d1, d2] => { results := [.lit (.bool true)], args := [d1, d2] }
  | _ => none }
def batchesFirstRow : OpenClaim := { program := "ytnefofcofccmfaa", sum := "34d87c608c837794460b7541bb58e2bceb42685791622de6b23d5d4eb918d04d", func := "annalist/annalistlaw09.BatchesFirst", spec := "batchesFirst", inPlace := ["internal/abi.NoEscape", "math.Float64bits", "math.Float64frombits"], unfollowed := true, recurses := true, apart := false }
def BatchesFirstSaid : Prop := batchesFirstRow.holds Try.pinned (OpenSpec.ofChange batchesFirstSpec)

/-- ITS FALSE NEIGHBOUR: 'it returns false'. Refute it at one input. -/
def batchesFirstWrong : ChangeSpec := { name := "batchesFirst", fn := fun _ => fun
  | [d1, d2] => { results := [.lit (.bool false)], args := [d1, d2] }
  | _ => none }
def BatchesFirstWrongFalsely : Prop := batchesFirstRow.holds Try.pinned (OpenSpec.ofChange batchesFirstWrong)

/- THE SECOND FORM. 'bulk': how many values and letters a reading holds, each counted each time it is reached (what is shared counts as often as it is met; a slice's spare places count too). A statement '..UptoSaid' is the law's where the arguments, and the package variables that the reading takes, are together of bulk at most 1048576: NARROWER than '..Said'. Prove '..Said' where nothing that the law and all that it calls make is longer than what came in: it says more and counts as full. Else prove '..UptoSaid'. A law counts once. -/
mutual
def uptoBulk {H : Type} : DataW H → Nat
  | .lit (.string bytes) => bytes.length + 1
  | .lit _ => 1
  | .nil => 1
  | .ptr d => uptoBulk d + 1
  | .slice elems spare => uptoBulkAll elems + uptoBulkAll spare + 1
  | .agg parts => uptoBulkAll parts + 1
  | .iface _ d => uptoBulk d + 1
  | .map entries => uptoBulkEntries entries + 1
  | .held _ => 1
def uptoBulkAll {H : Type} : List (DataW H) → Nat
  | [] => 0
  | d :: r => uptoBulk d + uptoBulkAll r
def uptoBulkEntries {H : Type} : List (Lit × DataW H) → Nat
  | [] => 0
  | x :: r => uptoBulkEntry x + uptoBulkEntries r
def uptoBulkEntry {H : Type} : Lit × DataW H → Nat
  | (.string bytes, d) => bytes.length + uptoBulk d + 1
  | (_, d) => uptoBulk d + 1
 end
def uptoSmall : (H : Type) → List (DataW H) → Bool := fun _ ds => decide (uptoBulkAll ds ≤ 1048576)
def OpenSpec.upto (s : _root_.Go.ChangeSpec) : _root_.Go.OpenSpec := { _root_.Go.OpenSpec.ofChange s with cond := some uptoSmall }

/-- 'annalistlaw09.BatchesTell', WHERE WHAT IT READS IS OF BULK AT MOST 1048576: true; the input reads as it did. -/
def batchesTellUptoRow : OpenClaim := { program := "ytnefofcofccmfaa", sum := "34d87c608c837794460b7541bb58e2bceb42685791622de6b23d5d4eb918d04d", func := "annalist/annalistlaw09.BatchesTell", spec := "batchesTell", inPlace := ["internal/abi.NoEscape", "math.Float64bits", "math.Float64frombits"], unfollowed := true, recurses := true, apart := false, narrowed := true }
def BatchesTellUptoSaid : Prop := batchesTellUptoRow.holds Try.pinned (OpenSpec.upto batchesTellSpec)

/-- 'annalistlaw09.BatchesGet', WHERE WHAT IT READS IS OF BULK AT MOST 1048576: true; the input reads as it did. -/
def batchesGetUptoRow : OpenClaim := { program := "ytnefofcofccmfaa", sum := "34d87c608c837794460b7541bb58e2bceb42685791622de6b23d5d4eb918d04d", func := "annalist/annalistlaw09.BatchesGet", spec := "batchesGet", inPlace := ["internal/abi.NoEscape", "math.Float64bits", "math.Float64frombits"], unfollowed := true, recurses := true, apart := false, narrowed := true }
def BatchesGetUptoSaid : Prop := batchesGetUptoRow.holds Try.pinned (OpenSpec.upto batchesGetSpec)

/-- 'annalistlaw09.BatchesBack', WHERE WHAT IT READS IS OF BULK AT MOST 1048576: true; the input reads as it did. -/
def batchesBackUptoRow : OpenClaim := { program := "ytnefofcofccmfaa", sum := "34d87c608c837794460b7541bb58e2bceb42685791622de6b23d5d4eb918d04d", func := "annalist/annalistlaw09.BatchesBack", spec := "batchesBack", inPlace := ["internal/abi.NoEscape", "math.Float64bits", "math.Float64frombits"], unfollowed := true, recurses := true, apart := false, narrowed := true }
def BatchesBackUptoSaid : Prop := batchesBackUptoRow.holds Try.pinned (OpenSpec.upto batchesBackSpec)

/-- 'annalistlaw09.BatchesForm', WHERE WHAT IT READS IS OF BULK AT MOST 1048576: true; the input reads as it did. -/
def batchesFormUptoRow : OpenClaim := { program := "ytnefofcofccmfaa", sum := "34d87c608c837794460b7541bb58e2bceb42685791622de6b23d5d4eb918d04d", func := "annalist/annalistlaw09.BatchesForm", spec := "batchesForm", inPlace := ["internal/abi.NoEscape", "math.Float64bits", "math.Float64frombits"], unfollowed := true, recurses := true, apart := false, narrowed := true }
def BatchesFormUptoSaid : Prop := batchesFormUptoRow.holds Try.pinned (OpenSpec.upto batchesFormSpec)

/-- 'annalistlaw09.BatchesFirst', WHERE WHAT IT READS IS OF BULK AT MOST 1048576: true; the input reads as it did. -/
def batchesFirstUptoRow : OpenClaim := { program := "ytnefofcofccmfaa", sum := "34d87c608c837794460b7541bb58e2bceb42685791622de6b23d5d4eb918d04d", func := "annalist/annalistlaw09.BatchesFirst", spec := "batchesFirst", inPlace := ["internal/abi.NoEscape", "math.Float64bits", "math.Float64frombits"], unfollowed := true, recurses := true, apart := false, narrowed := true }
def BatchesFirstUptoSaid : Prop := batchesFirstUptoRow.holds Try.pinned (OpenSpec.upto batchesFirstSpec)

end Rows
end Go.Proofs.Ytnefofcofccmfaa
