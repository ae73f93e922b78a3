/-
  No cell of these rows narrows 'for every input' (looked for: loops, veiled, ifaces, maps, wideKeys, modest, calm, conditions, laid).
  DERIVED. THE GIVEN ROWS OF THIS SEAT. 3 by the template 'for every input the law returns true; each argument reads behind the call as it read before'; 0 by the template 'total and deterministic' (their statements: YtmdoafmgakmjkaaTotals.lean).
  GIVEN WITH THE SEED: the statements are not yours to turn. If you find one false, say at which input.
  Laid BY PROGRAM, IN A SANDBOX (cutbox-rows.mjs): the forced cells as the released guide's own fill.sh prints them over the translation cf6f5c0aaa31a7d1… (all of the seat's roots in one cut). By AI agents, Wed Nov 11 2026. No macro, syntax, notation, axiom, sorry.
-/
import Derived.Test.YtmdoafmgakmjkaaChecked
import GoSem.Claim
import GoSem.ClaimJoined
import GoSem.ClaimMapViews
import Derived.JoinedTies
import Derived.KernelRfl
namespace Go.Proofs.Ytmdoafmgakmjkaa
/- THE CELL 'sum', in the pinned program and in every row, IS THE sha256 OF THE DUMP (.gsa) THAT YtmdoafmgakmjkaaProg.lean LOADS. Nothing in Lean hashes anything: it is a label: what it is worth is what the hold of that sum in a sandbox is worth. -/
noncomputable def Try.pinned : Pinned := { name := "ytmdoafmgakmjkaa", sum := "cf6f5c0aaa31a7d1ba709ad0b27acd5acc6bb34cc6d52cdf7de426071b8b4938", checked := Try.checked }
namespace Rows
def none {H : Type} : Left H := { results := [], args := [] }

/-- 'annalistlaw20.MergesTell': WHATEVER THE INPUT: true; the input reads as it did. -/
def mergesTellSpec : ChangeSpec := { name := "mergesTell", fn := fun _ => fun
  | [d] => { results := [.lit (.bool true)], args := [d] }
  | _ => none }
def mergesTellRow : OpenClaim := { program := "ytmdoafmgakmjkaa", sum := "cf6f5c0aaa31a7d1ba709ad0b27acd5acc6bb34cc6d52cdf7de426071b8b4938", func := "annalist/annalistlaw20.MergesTell", spec := "mergesTell", apart := false }
def MergesTellSaid : Prop := mergesTellRow.holds Try.pinned (OpenSpec.ofChange mergesTellSpec)

/-- ITS FALSE NEIGHBOUR: 'it returns false'. Refute it at one input. -/
def mergesTellWrong : ChangeSpec := { name := "mergesTell", fn := fun _ => fun
  | [d] => { results := [.lit (.bool false)], args := [d] }
  | _ => none }
def MergesTellWrongFalsely : Prop := mergesTellRow.holds Try.pinned (OpenSpec.ofChange mergesTellWrong)

/-- 'annalistlaw20.MergesSorted': WHATEVER THE INPUT: true; the input reads as it did. -/
def mergesSortedSpec : ChangeSpec := { name := "mergesSorted", fn := fun _ => fun
  | [d] => { results := [.lit (.bool true)], args := [d] }
  | _ => none }
def mergesSortedRow : OpenClaim := { program := "ytmdoafmgakmjkaa", sum := "cf6f5c0aaa31a7d1ba709ad0b27acd5acc6bb34cc6d52cdf7de426071b8b4938", func := "annalist/annalistlaw20.MergesSorted", spec := "mergesSorted", unfollowed := true, recurses := true, apart := false }
def MergesSortedSaid : Prop := mergesSortedRow.holds Try.pinned (OpenSpec.ofChange mergesSortedSpec)

/-- ITS FALSE NEIGHBOUR: 'it returns false'. Refute it at one input. -/
def mergesSortedWrong : ChangeSpec := { name := "mergesSorted", fn := fun _ => fun
  | [d] => { results := [.lit (.bool false)], args := [d] }
  | _ => none }
def MergesSortedWrongFalsely : Prop := mergesSortedRow.holds Try.pinned (OpenSpec.ofChange mergesSortedWrong)

/-- 'annalistlaw20.MergesOrder': WHATEVER THE INPUT: true; the input reads as it did. -/
def mergesOrderSpec : ChangeSpec := { name := "mergesOrder", fn := fun _ => fun
  | [d1, d2] => { results := [.lit (.bool true)], args := [d1, d2] }
  | _ => none }
def mergesOrderRow : OpenClaim := { program := "ytmdoafmgakmjkaa", sum := "cf6f5c0aaa31a7d1ba709ad0b27acd5acc6bb34cc6d52cdf7de426071b8b4938", func := "annalist/annalistlaw20.MergesOrder", spec := "mergesOrder", apart := false }
def MergesOrderSaid : Prop := mergesOrderRow.holds Try.pinned (OpenSpec.ofChange mergesOrderSpec)

/-- ITS FALSE NEIGHBOUR: 'it returns false'. Refute it at one input. -/
def mergesOrderWrong : ChangeSpec := { name := "mergesOrder", fn := fun _ => fun
  | [d1, d2] => { results := [.lit (.bool false)], args := [d1, d2] }
  | _ => none }
def MergesOrderWrongFalsely : Prop := mergesOrderRow.holds Try.pinned (OpenSpec.ofChange mergesOrderWrong)

/- THE SECOND FORM. 'bulk': how many values and letters a reading holds, each counted each time it is reached (what is shared counts as often as it is met; a slice's spare places count too). A statement '..UptoSaid' is the law's where the arguments, and the package variables that the reading takes, are together of bulk at most 1048576: NARROWER than '..Said'. Prove '..Said' where nothing that the law and all that it calls make is longer than what came in: it says more and counts as full. Else prove '..UptoSaid'. A law counts once. -/
mutual
def uptoBulk {H : Type} : DataW H → Nat
  | .lit (.string bytes) => bytes.length + 1
  | .lit _ => 1
  | .nil => 1
  | .ptr d => uptoBulk d + 1
  | .slice elems spare => uptoBulkAll elems + uptoBulkAll spare + 1
  | .agg parts => uptoBulkAll parts + 1
  | .iface _ d => uptoBulk d + 1
  | .map entries => uptoBulkEntries entries + 1
  | .held _ => 1
def uptoBulkAll {H : Type} : List (DataW H) → Nat
  | [] => 0
  | d :: r => uptoBulk d + uptoBulkAll r
def uptoBulkEntries {H : Type} : List (Lit × DataW H) → Nat
  | [] => 0
  | x :: r => uptoBulkEntry x + uptoBulkEntries r
def uptoBulkEntry {H : Type} : Lit × DataW H → Nat
  | (.string bytes, d) => bytes.length + uptoBulk d + 1
  | (_, d) => uptoBulk d + 1
 end
def uptoSmall : (H : Type) → List (DataW H) → Bool := fun _ ds => decide (uptoBulkAll ds ≤ 1048576)
def OpenSpec.upto (s : _root_.Go.ChangeSpec) : _root_.Go.OpenSpec := { _root_.Go.OpenSpec.ofChange s with cond := some uptoSmall }

/-- 'annalistlaw20.MergesTell', WHERE WHAT IT READS IS OF BULK AT MOST 1048576: true; the input reads as it did. -/
def mergesTellUptoRow : OpenClaim := { program := "ytmdoafmgakmjkaa", sum := "cf6f5c0aaa31a7d1ba709ad0b27acd5acc6bb34cc6d52cdf7de426071b8b4938", func := "annalist/annalistlaw20.MergesTell", spec := "mergesTell", apart := false, narrowed := true }
def MergesTellUptoSaid : Prop := mergesTellUptoRow.holds Try.pinned (OpenSpec.upto mergesTellSpec)

/-- 'annalistlaw20.MergesSorted', WHERE WHAT IT READS IS OF BULK AT MOST 1048576: true; the input reads as it did. -/
def mergesSortedUptoRow : OpenClaim := { program := "ytmdoafmgakmjkaa", sum := "cf6f5c0aaa31a7d1ba709ad0b27acd5acc6bb34cc6d52cdf7de426071b8b4938", func := "annalist/annalistlaw20.MergesSorted", spec := "mergesSorted", unfollowed := true, recurses := true, apart := false, narrowed := true }
def MergesSortedUptoSaid : Prop := mergesSortedUptoRow.holds Try.pinned (OpenSpec.upto mergesSortedSpec)

/-- 'annalistlaw20.MergesOrder', WHERE WHAT IT READS IS OF BULK AT MOST 1048576: true; the input reads as it did. -/
def mergesOrderUptoRow : OpenClaim := { program := "ytmdoafmgakmjkaa", sum := "cf6f5c0aaa31a7d1ba709ad0b27acd5acc6bb34cc6d52cdf7de426071b8b4938", func := "annalist/annalistlaw20.MergesOrder", spec := "mergesOrder", apart := false, narrowed := true }
def MergesOrderUptoSaid : Prop := mergesOrderUptoRow.holds Try.pinned (OpenSpec.upto mergesOrderSpec)

end Rows
end Go.Proofs.Ytmdoafmgakmjkaa
