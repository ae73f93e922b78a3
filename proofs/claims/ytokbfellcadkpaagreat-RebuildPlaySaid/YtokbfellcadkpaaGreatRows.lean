/-
  No cell of these rows narrows 'for every input' (looked for: loops, veiled, ifaces, maps, wideKeys, modest, calm, conditions, laid).
  DERIVED. THE GIVEN ROWS OF THIS SEAT. 3 by the template 'for every input the law returns true; each argument reads behind the call as it read before'; 0 by the template 'total and deterministic' (their statements: YtokbfellcadkpaaGreatTotals.lean).
  GIVEN WITH THE SEED: the statements are not yours to turn. If you find one false, say at which input.
  Laid BY PROGRAM, IN A SANDBOX (cutbox-rows.mjs): the forced cells as the released guide's own fill.sh prints them over the translation a0b28e6f52a159e9… (all of the seat's roots in one cut). By AI agents, Wed Nov 11 2026. No macro, syntax, notation, axiom, sorry.
-/
import Derived.Test.YtokbfellcadkpaaGreatChecked
import GoSem.Claim
import GoSem.ClaimJoined
import GoSem.ClaimMapViews
import Derived.JoinedTies
import Derived.KernelRfl
namespace Go.Proofs.YtokbfellcadkpaaGreat
/- THE CELL 'sum', in the pinned program and in every row, IS THE sha256 OF THE DUMP (.gsa) THAT YtokbfellcadkpaaGreatProg.lean LOADS. Nothing in Lean hashes anything: it is a label: what it is worth is what the hold of that sum in a sandbox is worth. -/
noncomputable def Tryz.pinned : Pinned := { name := "ytokbfellcadkpaagreat", sum := "a0b28e6f52a159e95902e92d8410db723a5a4f46eea4090abbf31801023ab9af", checked := Tryz.checked }
namespace Rows
def none {H : Type} : Left H := { results := [], args := [] }

/-- 'annalistlaw25.RebuildPlay': WHATEVER THE INPUT: true; the input reads as it did. -/
def rebuildPlaySpec : ChangeSpec := { name := "rebuildPlay", fn := fun _ => fun
  | [d1, d2, d3] => { results := [.lit (.bool true)], args := [d1, d2, d3] }
  | _ => none }
def rebuildPlayRow : OpenClaim := { program := "ytokbfellcadkpaagreat", sum := "a0b28e6f52a159e95902e92d8410db723a5a4f46eea4090abbf31801023ab9af", func := "annalist/annalistlaw25.RebuildPlay", spec := "rebuildPlay", inPlace := ["internal/abi.NoEscape", "internal/bytealg.MakeNoZero", "math.Float64frombits", "math.Float64bits"], unfollowed := true, recurses := true, apart := false }
def RebuildPlaySaid : Prop := rebuildPlayRow.holds Tryz.pinned (OpenSpec.ofChange rebuildPlaySpec)

/-- ITS FALSE NEIGHBOUR: 'it returns false'. Refute it at one input. -/
def rebuildPlayWrong : ChangeSpec := { name := "rebuildPlay", fn := fun _ => fun
  | [d1, d2, d3] => { results := [.lit (.bool false)], args := [d1, d2, d3] }
  | _ => none }
def RebuildPlayWrongFalsely : Prop := rebuildPlayRow.holds Tryz.pinned (OpenSpec.ofChange rebuildPlayWrong)

/-- 'annalistlaw25.RebuildForeign': WHATEVER THE INPUT: true; the input reads as it did. -/
def rebuildForeignSpec : ChangeSpec := { name := "rebuildForeign", fn := fun _ => fun
  | [d] => { results := [.lit (.bool true)], args := [d] }
  | _ => none }
def rebuildForeignRow : OpenClaim := { program := "ytokbfellcadkpaagreat", sum := "a0b28e6f52a159e95902e92d8410db723a5a4f46eea4090abbf31801023ab9af", func := "annalist/annalistlaw25.RebuildForeign", spec := "rebuildForeign", inPlace := ["internal/abi.NoEscape", "internal/bytealg.MakeNoZero", "math.Float64frombits", "math.Float64bits"], unfollowed := true, recurses := true, apart := false }
def RebuildForeignSaid : Prop := rebuildForeignRow.holds Tryz.pinned (OpenSpec.ofChange rebuildForeignSpec)

/-- ITS FALSE NEIGHBOUR: 'it returns false'. Refute it at one input. -/
def rebuildForeignWrong : ChangeSpec := { name := "rebuildForeign", fn := fun _ => fun
  | [d] => { results := [.lit (.bool false)], args := [d] }
  | _ => none }
def RebuildForeignWrongFalsely : Prop := rebuildForeignRow.holds Tryz.pinned (OpenSpec.ofChange rebuildForeignWrong)

/-- 'annalistlaw25.RebuildNone': WHATEVER THE INPUT: true; the input reads as it did. -/
def rebuildNoneSpec : ChangeSpec := { name := "rebuildNone", fn := fun _ => fun
  | [d1, d2] => { results := [.lit (.bool true)], args := [d1, d2] }
  | _ => none }
def rebuildNoneRow : OpenClaim := { program := "ytokbfellcadkpaagreat", sum := "a0b28e6f52a159e95902e92d8410db723a5a4f46eea4090abbf31801023ab9af", func := "annalist/annalistlaw25.RebuildNone", spec := "rebuildNone", inPlace := ["internal/abi.NoEscape", "internal/bytealg.MakeNoZero", "math.Float64frombits", "math.Float64bits"], unfollowed := true, recurses := true, apart := false }
def RebuildNoneSaid : Prop := rebuildNoneRow.holds Tryz.pinned (OpenSpec.ofChange rebuildNoneSpec)

/-- ITS FALSE NEIGHBOUR: 'it returns false'. Refute it at one input. -/
def rebuildNoneWrong : ChangeSpec := { name := "rebuildNone", fn := fun _ => fun
  | [d1, d2] => { results := [.lit (.bool false)], args := [d1, d2] }
  | _ => none }
def RebuildNoneWrongFalsely : Prop := rebuildNoneRow.holds Tryz.pinned (OpenSpec.ofChange rebuildNoneWrong)

/- THE SECOND FORM. 'bulk': how many values and letters a reading holds, each counted each time it is reached (what is shared counts as often as it is met; a slice's spare places count too). A statement '..UptoSaid' is the law's where the arguments, and the package variables that the reading takes, are together of bulk at most 1048576: NARROWER than '..Said'. Prove '..Said' where nothing that the law and all that it calls make is longer than what came in: it says more and counts as full. Else prove '..UptoSaid'. A law counts once. -/
mutual
def uptoBulk {H : Type} : DataW H → Nat
  | .lit (.string bytes) => bytes.length + 1
  | .lit _ => 1
  | .nil => 1
  | .ptr d => uptoBulk d + 1
  | .slice elems spare => uptoBulkAll elems + uptoBulkAll spare + 1
  | .agg parts => uptoBulkAll parts + 1
  | .iface _ d => uptoBulk d + 1
  | .map entries => uptoBulkEntries entries + 1
  | .held _ => 1
def uptoBulkAll {H : Type} : List (DataW H) → Nat
  | [] => 0
  | d :: r => uptoBulk d + uptoBulkAll r
def uptoBulkEntries {H : Type} : List (Lit × DataW H) → Nat
  | [] => 0
  | x :: r => uptoBulkEntry x + uptoBulkEntries r
def uptoBulkEntry {H : Type} : Lit × DataW H → Nat
  | (.string bytes, d) => bytes.length + uptoBulk d + 1
  | (_, d) => uptoBulk d + 1
 end
def uptoSmall : (H : Type) → List (DataW H) → Bool := fun _ ds => decide (uptoBulkAll ds ≤ 1048576)
def OpenSpec.upto (s : _root_.Go.ChangeSpec) : _root_.Go.OpenSpec := { _root_.Go.OpenSpec.ofChange s with cond := some uptoSmall }

/-- 'annalistlaw25.RebuildPlay', WHERE WHAT IT READS IS OF BULK AT MOST 1048576: true; the input reads as it did. -/
def rebuildPlayUptoRow : OpenClaim := { program := "ytokbfellcadkpaagreat", sum := "a0b28e6f52a159e95902e92d8410db723a5a4f46eea4090abbf31801023ab9af", func := "annalist/annalistlaw25.RebuildPlay", spec := "rebuildPlay", inPlace := ["internal/abi.NoEscape", "internal/bytealg.MakeNoZero", "math.Float64frombits", "math.Float64bits"], unfollowed := true, recurses := true, apart := false, narrowed := true }
def RebuildPlayUptoSaid : Prop := rebuildPlayUptoRow.holds Tryz.pinned (OpenSpec.upto rebuildPlaySpec)

/-- 'annalistlaw25.RebuildForeign', WHERE WHAT IT READS IS OF BULK AT MOST 1048576: true; the input reads as it did. -/
def rebuildForeignUptoRow : OpenClaim := { program := "ytokbfellcadkpaagreat", sum := "a0b28e6f52a159e95902e92d8410db723a5a4f46eea4090abbf31801023ab9af", func := "annalist/annalistlaw25.RebuildForeign", spec := "rebuildForeign", inPlace := ["internal/abi.NoEscape", "internal/bytealg.MakeNoZero", "math.Float64frombits", "math.Float64bits"], unfollowed := true, recurses := true, apart := false, narrowed := true }
def RebuildForeignUptoSaid : Prop := rebuildForeignUptoRow.holds Tryz.pinned (OpenSpec.upto rebuildForeignSpec)

/-- 'annalistlaw25.RebuildNone', WHERE WHAT IT READS IS OF BULK AT MOST 1048576: true; the input reads as it did. -/
def rebuildNoneUptoRow : OpenClaim := { program := "ytokbfellcadkpaagreat", sum := "a0b28e6f52a159e95902e92d8410db723a5a4f46eea4090abbf31801023ab9af", func := "annalist/annalistlaw25.RebuildNone", spec := "rebuildNone", inPlace := ["internal/abi.NoEscape", "internal/bytealg.MakeNoZero", "math.Float64frombits", "math.Float64bits"], unfollowed := true, recurses := true, apart := false, narrowed := true }
def RebuildNoneUptoSaid : Prop := rebuildNoneUptoRow.holds Tryz.pinned (OpenSpec.upto rebuildNoneSpec)

end Rows
end Go.Proofs.YtokbfellcadkpaaGreat
