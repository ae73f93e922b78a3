/-
  No cell of these rows narrows 'for every input' (looked for: loops, veiled, ifaces, maps, wideKeys, modest, calm, conditions, laid).
  DERIVED. THE GIVEN ROWS OF THIS SEAT. 3 by the template 'for every input the law returns true; each argument reads behind the call as it read before'; 0 by the template 'total and deterministic' (their statements: YtcfidpjhemjbjaaTotals.lean).
  GIVEN WITH THE SEED: the statements are not yours to turn. If you find one false, say at which input.
  Laid BY PROGRAM, IN A SANDBOX (cutbox-rows.mjs): the forced cells as the released guide's own fill.sh prints them over the translation d4e40c36922477e8… (all of the seat's roots in one cut). By AI agents, Wed Nov 11 2026. No macro, syntax, notation, axiom, sorry.
-/
import Derived.Test.YtcfidpjhemjbjaaChecked
import GoSem.Claim
import GoSem.ClaimJoined
import GoSem.ClaimMapViews
import Derived.JoinedTies
import Derived.KernelRfl
namespace Go.Proofs.Ytcfidpjhemjbjaa
/- THE CELL 'sum', in the pinned program and in every row, IS THE sha256 OF THE DUMP (.gsa) THAT YtcfidpjhemjbjaaProg.lean LOADS. Nothing in Lean hashes anything: it is a label: what it is worth is what the hold of that sum in a sandbox is worth. -/
noncomputable def Try.pinned : Pinned := { name := "ytcfidpjhemjbjaa", sum := "d4e40c36922477e8e073ddbf978c6c4fade22ccaabb2d16fcc902655d85c20bc", checked := Try.checked }
namespace Rows
def none {H : Type} : Left H := { results := [], args := [] }

/-- 'annalistlaw22.ManifestsTell': WHATEVER THE INPUT: true; the input reads as it did. -/
def manifestsTellSpec : ChangeSpec := { name := "manifestsTell", fn := fun _ => fun
  | [d1, d2, d3] => { results := [.lit (.bool true)], args := [d1, d2, d3] }
  | _ => none }
def manifestsTellRow : OpenClaim := { program := "ytcfidpjhemjbjaa", sum := "d4e40c36922477e8e073ddbf978c6c4fade22ccaabb2d16fcc902655d85c20bc", func := "annalist/annalistlaw22.ManifestsTell", spec := "manifestsTell", inPlace := ["internal/abi.NoEscape"], unfollowed := true, recurses := true, apart := false }
def ManifestsTellSaid : Prop := manifestsTellRow.holds Try.pinned (OpenSpec.ofChange manifestsTellSpec)

/-- ITS FALSE NEIGHBOUR: 'it returns false'. Refute it at one input. -/
def manifestsTellWrong : ChangeSpec := { name := "manifestsTell", fn := fun _ => fun
  | [d1, d2, d3] => { results := [.lit (.bool false)], args := [d1, d2, d3] }
  | _ => none }
def ManifestsTellWrongFalsely : Prop := manifestsTellRow.holds Try.pinned (OpenSpec.ofChange manifestsTellWrong)

/-- 'annalistlaw22.ManifestsBack': WHATEVER THE INPUT: true; the input reads as it did. -/
def manifestsBackSpec : ChangeSpec := { name := "manifestsBack", fn := fun _ => fun
  | [d1, d2] => { results := [.lit (.bool true)], args := [d1, d2] }
  | _ => none }
def manifestsBackRow : OpenClaim := { program := "ytcfidpjhemjbjaa", sum := "d4e40c36922477e8e073ddbf978c6c4fade22ccaabb2d16fcc902655d85c20bc", func := "annalist/annalistlaw22.ManifestsBack", spec := "manifestsBack", inPlace := ["internal/abi.NoEscape"], unfollowed := true, recurses := true, apart := false }
def ManifestsBackSaid : Prop := manifestsBackRow.holds Try.pinned (OpenSpec.ofChange manifestsBackSpec)

/-- ITS FALSE NEIGHBOUR: 'it returns false'. Refute it at one input. -/
def manifestsBackWrong : ChangeSpec := { name := "manifestsBack", fn := fun _ => fun
  | [d1, d2] => { results := [.lit (.bool false)], args := [d1, d2] }
  | _ => none }
def ManifestsBackWrongFalsely : Prop := manifestsBackRow.holds Try.pinned (OpenSpec.ofChange manifestsBackWrong)

/-- 'annalistlaw22.ManifestsSpoilt': WHATEVER THE INPUT: true; the input reads as it did. -/
def manifestsSpoiltSpec : ChangeSpec := { name := "manifestsSpoilt", fn := fun _ => fun
  | [d1, d2, d3] => { results := [.lit (.bool true)], args := [d1, d2, d3] }
  | _ => none }
def manifestsSpoiltRow : OpenClaim := { program := "ytcfidpjhemjbjaa", sum := "d4e40c36922477e8e073ddbf978c6c4fade22ccaabb2d16fcc902655d85c20bc", func := "annalist/annalistlaw22.ManifestsSpoilt", spec := "manifestsSpoilt", inPlace := ["internal/abi.NoEscape"], recurses := true, apart := false }
def ManifestsSpoiltSaid : Prop := manifestsSpoiltRow.holds Try.pinned (OpenSpec.ofChange manifestsSpoiltSpec)

/-- ITS FALSE NEIGHBOUR: 'it returns false'. Refute it at one input. -/
def manifestsSpoiltWrong : ChangeSpec := { name := "manifestsSpoilt", fn := fun _ => fun
  | [d1, d2, d3] => { results := [.lit (.bool false)], args := [d1, d2, d3] }
  | _ => none }
def ManifestsSpoiltWrongFalsely : Prop := manifestsSpoiltRow.holds Try.pinned (OpenSpec.ofChange manifestsSpoiltWrong)

/- THE SECOND FORM. 'bulk': how many values and letters a reading holds, each counted each time it is reached (what is shared counts as often as it is met; a slice's spare places count too). A statement '..UptoSaid' is the law's where the arguments, and the package variables that the reading takes, are together of bulk at most 1048576: NARROWER than '..Said'. Prove '..Said' where nothing that the law and all that it calls make is longer than what came in: it says more and counts as full. Else prove '..UptoSaid'. A law counts once. -/
mutual
def uptoBulk {H : Type} : DataW H → Nat
  | .lit (.string bytes) => bytes.length + 1
  | .lit _ => 1
  | .nil => 1
  | .ptr d => uptoBulk d + 1
  | .slice elems spare => uptoBulkAll elems + uptoBulkAll spare + 1
  | .agg parts => uptoBulkAll parts + 1
  | .iface _ d => uptoBulk d + 1
  | .map entries => uptoBulkEntries entries + 1
  | .held _ => 1
def uptoBulkAll {H : Type} : List (DataW H) → Nat
  | [] => 0
  | d :: r => uptoBulk d + uptoBulkAll r
def uptoBulkEntries {H : Type} : List (Lit × DataW H) → Nat
  | [] => 0
  | x :: r => uptoBulkEntry x + uptoBulkEntries r
def uptoBulkEntry {H : Type} : Lit × DataW H → Nat
  | (.string bytes, d) => bytes.length + uptoBulk d + 1
  | (_, d) => uptoBulk d + 1
 end
def uptoSmall : (H : Type) → List (DataW H) → Bool := fun _ ds => decide (uptoBulkAll ds ≤ 1048576)
def OpenSpec.upto (s : _root_.Go.ChangeSpec) : _root_.Go.OpenSpec := { _root_.Go.OpenSpec.ofChange s with cond := some uptoSmall }

/-- 'annalistlaw22.ManifestsTell', WHERE WHAT IT READS IS OF BULK AT MOST 1048576: true; the input reads as it did. -/
def manifestsTellUptoRow : OpenClaim := { program := "ytcfidpjhemjbjaa", sum := "d4e40c36922477e8e073ddbf978c6c4fade22ccaabb2d16fcc902655d85c20bc", func := "annalist/annalistlaw22.ManifestsTell", spec := "manifestsTell", inPlace := ["internal/abi.NoEscape"], unfollowed := true, recurses := true, apart := false, narrowed := true }
def ManifestsTellUptoSaid : Prop := manifestsTellUptoRow.holds Try.pinned (OpenSpec.upto manifestsTellSpec)

/-- 'annalistlaw22.ManifestsBack', WHERE WHAT IT READS IS OF BULK AT MOST 1048576: true; the input reads as it did. -/
def manifestsBackUptoRow : OpenClaim := { program := "ytcfidpjhemjbjaa", sum := "d4e40c36922477e8e073ddbf978c6c4fade22ccaabb2d16fcc902655d85c20bc", func := "annalist/annalistlaw22.ManifestsBack", spec := "manifestsBack", inPlace := ["internal/abi.NoEscape"], unfollowed := true, recurses := true, apart := false, narrowed := true }
def ManifestsBackUptoSaid : Prop := manifestsBackUptoRow.holds Try.pinned (OpenSpec.upto manifestsBackSpec)

/-- 'annalistlaw22.ManifestsSpoilt', WHERE WHAT IT READS IS OF BULK AT MOST 1048576: true; the input reads as it did. -/
def manifestsSpoiltUptoRow : OpenClaim := { program := "ytcfidpjhemjbjaa", sum := "d4e40c36922477e8e073ddbf978c6c4fade22ccaabb2d16fcc902655d85c20bc", func := "annalist/annalistlaw22.ManifestsSpoilt", spec := "manifestsSpoilt", inPlace := ["internal/abi.NoEscape"], recurses := true, apart := false, narrowed := true }
def ManifestsSpoiltUptoSaid : Prop := manifestsSpoiltUptoRow.holds Try.pinned (OpenSpec.upto manifestsSpoiltSpec)

end Rows
end Go.Proofs.Ytcfidpjhemjbjaa
