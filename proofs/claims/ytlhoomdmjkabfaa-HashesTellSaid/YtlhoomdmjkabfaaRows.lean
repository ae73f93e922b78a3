/-
  No cell of these rows narrows 'for every input' (looked for: loops, veiled, ifaces, maps, wideKeys, modest, calm, conditions, laid).
  DERIVED. THE GIVEN ROWS OF THIS SEAT. 4 by the template 'for every input the law returns true; each argument reads behind the call as it read before'; 0 by the template 'total and deterministic' (their statements: YtlhoomdmjkabfaaTotals.lean).
  GIVEN WITH THE SEED: the statements are not yours to turn. If you find one false, say at which input.
  Laid BY PROGRAM, IN A SANDBOX (cutbox-rows.mjs): the forced cells as the released guide's own fill.sh prints them over the translation fa23ff5428cb63d4… (all of the seat's roots in one cut). By AI agents, Wed Nov 11 2026. No macro, syntax, notation, axiom, sorry.
-/
import Derived.Test.YtlhoomdmjkabfaaChecked
import GoSem.Claim
import GoSem.ClaimJoined
import GoSem.ClaimMapViews
import Derived.JoinedTies
import Derived.KernelRfl
namespace Go.Proofs.Ytlhoomdmjkabfaa
/- THE CELL 'sum', in the pinned program and in every row, IS THE sha256 OF THE DUMP (.gsa) THAT YtlhoomdmjkabfaaProg.lean LOADS. Nothing in Lean hashes anything: it is a label: what it is worth is what the hold of that sum in a sandbox is worth. -/
noncomputable def Try.pinned : Pinned := { name := "ytlhoomdmjkabfaa", sum := "fa23ff5428cb63d4cfb45f16f54f5e6dec1d6d35796da06f17b924250849cd35", checked := Try.checked }
namespace Rows
def none {H : Type} : Left H := { results := [], args := [] }

/-- 'annalistlaw03.HashesTell': WHATEVER THE INPUT: true; the input reads as it did. -/
def hashesTellSpec : ChangeSpec := { name := "hashesTell", fn := fun _ => fun
  | [d1, d2] => { results := [.lit (.bool true)], args := [d1, d2] }
  | _ => none }
def hashesTellRow : OpenClaim := { program := "ytlhoomdmjkabfaa", sum := "fa23ff5428cb63d4cfb45f16f54f5e6dec1d6d35796da06f17b924250849cd35", func := "annalist/annalistlaw03.HashesTell", spec := "hashesTell", apart := false }
def HashesTellSaid : Prop := hashesTellRow.holds Try.pinned (OpenSpec.ofChange hashesTellSpec)

/-- ITS FALSE NEIGHBOUR: 'it returns false'. Refute it at one input. -/
def hashesTellWrong : ChangeSpec := { name := "hashesTell", fn := fun _ => fun
  | [d1, d2] => { results := [.lit (.bool false)], args := [d1, d2] }
  | _ => none }
def HashesTellWrongFalsely : Prop := hashesTellRow.holds Try.pinned (OpenSpec.ofChange hashesTellWrong)

/-- 'annalistlaw03.HashesByte': WHATEVER THE INPUT: true; the input reads as it did. -/
def hashesByteSpec : ChangeSpec := { name := "hashesByte", fn := fun _ => fun
  | [d1, d2, d3] => { results := [.lit (.bool true)], args := [d1, d2, d3] }
  | _ => none }
def hashesByteRow : OpenClaim := { program := "ytlhoomdmjkabfaa", sum := "fa23ff5428cb63d4cfb45f16f54f5e6dec1d6d35796da06f17b924250849cd35", func := "annalist/annalistlaw03.HashesByte", spec := "hashesByte", apart := false }
def HashesByteSaid : Prop := hashesByteRow.holds Try.pinned (OpenSpec.ofChange hashesByteSpec)

/-- ITS FALSE NEIGHBOUR: 'it returns false'. Refute it at one input. -/
def hashesByteWrong : ChangeSpec := { name := "hashesByte", fn := fun _ => fun
  | [d1, d2, d3] => { results := [.lit (.bool false)], args := [d1, d2, d3] }
  | _ => none }
def HashesByteWrongFalsely : Prop := hashesByteRow.holds Try.pinned (OpenSpec.ofChange hashesByteWrong)

/-- 'annalistlaw03.HashesSeed': WHATEVER THE INPUT: true; the input reads as it did. -/
def hashesSeedSpec : ChangeSpec := { name := "hashesSeed", fn := fun _ => fun
  | [d1, d2, d3] => { results := [.lit (.bool true)], args := [d1, d2, d3] }
  | _ => none }
def hashesSeedRow : OpenClaim := { program := "ytlhoomdmjkabfaa", sum := "fa23ff5428cb63d4cfb45f16f54f5e6dec1d6d35796da06f17b924250849cd35", func := "annalist/annalistlaw03.HashesSeed", spec := "hashesSeed", apart := false }
def HashesSeedSaid : Prop := hashesSeedRow.holds Try.pinned (OpenSpec.ofChange hashesSeedSpec)

/-- ITS FALSE NEIGHBOUR: 'it returns false'. Refute it at one input. -/
def hashesSeedWrong : ChangeSpec := { name := "hashesSeed", fn := fun _ => fun
  | [d1, d2, d3] => { results := [.lit (.bool false)], args := [d1, d2, d3] }
  | _ => none }
def HashesSeedWrongFalsely : Prop := hashesSeedRow.holds Try.pinned (OpenSpec.ofChange hashesSeedWrong)

/-- 'annalistlaw03.HashesStep': WHATEVER THE INPUT: true; the input reads as it did. -/
def hashesStepSpec : ChangeSpec := { name := "hashesStep", fn := fun _ => fun
  | [d1, d2] => { results := [.lit (.bool true)], args := [d1, d2] }
  | _ => none }
def hashesStepRow : OpenClaim := { program := "ytlhoomdmjkabfaa", sum := "fa23ff5428cb63d4cfb45f16f54f5e6dec1d6d35796da06f17b924250849cd35", func := "annalist/annalistlaw03.HashesStep", spec := "hashesStep", apart := false }
def HashesStepSaid : Prop := hashesStepRow.holds Try.pinned (OpenSpec.ofChange hashesStepSpec)

/-- ITS FALSE NEIGHBOUR: 'it returns false'. Refute it at one input. -/
def hashesStepWrong : ChangeSpec := { name := "hashesStep", fn := fun _ => fun
  | [d1, d2] => { results := [.lit (.bool false)], args := [d1, d2] }
  | _ => none }
def HashesStepWrongFalsely : Prop := hashesStepRow.holds Try.pinned (OpenSpec.ofChange hashesStepWrong)

/- THE SECOND FORM. 'bulk': how many values and letters a reading holds, each counted each time it is reached (what is shared counts as often as it is met; a slice's spare places count too). A statement '..UptoSaid' is the law's where the arguments, and the package variables that the reading takes, are together of bulk at most 1048576: NARROWER than '..Said'. Prove '..Said' where nothing that the law and all that it calls make is longer than what came in: it says more and counts as full. Else prove '..UptoSaid'. A law counts once. -/
mutual
def uptoBulk {H : Type} : DataW H → Nat
  | .lit (.string bytes) => bytes.length + 1
  | .lit _ => 1
  | .nil => 1
  | .ptr d => uptoBulk d + 1
  | .slice elems spare => uptoBulkAll elems + uptoBulkAll spare + 1
  | .agg parts => uptoBulkAll parts + 1
  | .iface _ d => uptoBulk d + 1
  | .map entries => uptoBulkEntries entries + 1
  | .held _ => 1
def uptoBulkAll {H : Type} : List (DataW H) → Nat
  | [] => 0
  | d :: r => uptoBulk d + uptoBulkAll r
def uptoBulkEntries {H : Type} : List (Lit × DataW H) → Nat
  | [] => 0
  | x :: r => uptoBulkEntry x + uptoBulkEntries r
def uptoBulkEntry {H : Type} : Lit × DataW H → Nat
  | (.string bytes, d) => bytes.length + uptoBulk d + 1
  | (_, d) => uptoBulk d + 1
 end
def uptoSmall : (H : Type) → List (DataW H) → Bool := fun _ ds => decide (uptoBulkAll ds ≤ 1048576)
def OpenSpec.upto (s : _root_.Go.ChangeSpec) : _root_.Go.OpenSpec := { _root_.Go.OpenSpec.ofChange s with cond := some uptoSmall }

/-- 'annalistlaw03.HashesTell', WHERE WHAT IT READS IS OF BULK AT MOST 1048576: true; the input reads as it did. -/
def hashesTellUptoRow : OpenClaim := { program := "ytlhoomdmjkabfaa", sum := "fa23ff5428cb63d4cfb45f16f54f5e6dec1d6d35796da06f17b924250849cd35", func := "annalist/annalistlaw03.HashesTell", spec := "hashesTell", apart := false, narrowed := true }
def HashesTellUptoSaid : Prop := hashesTellUptoRow.holds Try.pinned (OpenSpec.upto hashesTellSpec)

/-- 'annalistlaw03.HashesByte', WHERE WHAT IT READS IS OF BULK AT MOST 1048576: true; the input reads as it did. -/
def hashesByteUptoRow : OpenClaim := { program := "ytlhoomdmjkabfaa", sum := "fa23ff5428cb63d4cfb45f16f54f5e6dec1d6d35796da06f17b924250849cd35", func := "annalist/annalistlaw03.HashesByte", spec := "hashesByte", apart := false, narrowed := true }
def HashesByteUptoSaid : Prop := hashesByteUptoRow.holds Try.pinned (OpenSpec.upto hashesByteSpec)

/-- 'annalistlaw03.HashesSeed', WHERE WHAT IT READS IS OF BULK AT MOST 1048576: true; the input reads as it did. -/
def hashesSeedUptoRow : OpenClaim := { program := "ytlhoomdmjkabfaa", sum := "fa23ff5428cb63d4cfb45f16f54f5e6dec1d6d35796da06f17b924250849cd35", func := "annalist/annalistlaw03.HashesSeed", spec := "hashesSeed", apart := false, narrowed := true }
def HashesSeedUptoSaid : Prop := hashesSeedUptoRow.holds Try.pinned (OpenSpec.upto hashesSeedSpec)

/-- 'annalistlaw03.HashesStep', WHERE WHAT IT READS IS OF BULK AT MOST 1048576: true; the input reads as it did. -/
def hashesStepUptoRow : OpenClaim := { program := "ytlhoomdmjkabfaa", sum := "fa23ff5428cb63d4cfb45f16f54f5e6dec1d6d35796da06f17b924250849cd35", func := "annalist/annalistlaw03.HashesStep", spec := "hashesStep", apart := false, narrowed := true }
def HashesStepUptoSaid : Prop := hashesStepUptoRow.holds Try.pinned (OpenSpec.upto hashesStepSpec)

end Rows
end Go.Proofs.Ytlhoomdmjkabfaa
