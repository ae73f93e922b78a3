/-
  No cell of these rows narrows 'for every input' (looked for: loops, veiled, ifaces, maps, wideKeys, modest, calm, conditions, laid).
  DERIVED. THE GIVEN ROWS OF THIS SEAT. 4 by the template 'for every input the law returns true; each argument reads behind the call as it read before'; 0 by the template 'total and deterministic' (their statements: YtjbhahcogdpkpaaTotals.lean).
  GIVEN WITH THE SEED: the statements are not yours to turn. If you find one false, say at which input.
  Laid BY PROGRAM, IN A SANDBOX (cutbox-rows.mjs): the forced cells as the released guide's own fill.sh prints them over the translation fd3806c0436f1a52… (all of the seat's roots in one cut). By AI agents, Wed Nov 11 2026. No macro, syntax, notation, axiom, sorry.
-/
import Derived.Test.YtjbhahcogdpkpaaChecked
import GoSem.Claim
import GoSem.ClaimJoined
import GoSem.ClaimMapViews
import Derived.JoinedTies
import Derived.KernelRfl
namespace Go.Proofs.Ytjbhahcogdpkpaa
/- THE CELL 'sum', in the pinned program and in every row, IS THE sha256 OF THE DUMP (.gsa) THAT YtjbhahcogdpkpaaProg.lean LOADS. Nothing in Lean hashes anything: it is a label: what it is worth is what the hold of that sum in a sandbox is worth. -/
noncomputable def Try.pinned : Pinned := { name := "ytjbhahcogdpkpaa", sum := "fd3806c0436f1a528266ef9d5b54a7ebfe091933d59c6ec1da4ae6110e73bb9d", checked := Try.checked }
namespace Rows
def none {H : Type} : Left H := { results := [], args := [] }

/-- 'annalistlaw13.EntriesTell': WHATEVER THE INPUT: true; the input reads as it did. -/
def entriesTellSpec : ChangeSpec := { name := "entriesTell", fn := fun _ => fun
  | [d1, d2, d3] => { results := [.lit (.bool true)], args := [d1, d2, d3] }
  | _ => none }
def entriesTellRow : OpenClaim := { program := "ytjbhahcogdpkpaa", sum := "fd3806c0436f1a528266ef9d5b54a7ebfe091933d59c6ec1da4ae6110e73bb9d", func := "annalist/annalistlaw13.EntriesTell", spec := "entriesTell", unfollowed := true, recurses := true, apart := false }
def EntriesTellSaid : Prop := entriesTellRow.holds Try.pinned (OpenSpec.ofChange entriesTellSpec)

/-- ITS FALSE NEIGHBOUR: 'it returns false'. Refute it at one input. -/
def entriesTellWrong : ChangeSpec := { name := "entriesTell", fn := fun _ => fun
  | [d1, d2, d3] => { results := [.lit (.bool false)], args := [d1, d2, d3] }
  | _ => none }
def EntriesTellWrongFalsely : Prop := entriesTellRow.holds Try.pinned (OpenSpec.ofChange entriesTellWrong)

/-- 'annalistlaw13.EntriesAsk': WHATEVER THE INPUT: true; the input reads as it did. -/
def entriesAskSpec : ChangeSpec := { name := "entriesAsk", fn := fun _ => fun
  | [d1, d2, d3] => { results := [.lit (.bool true)], args := [d1, d2, d3] }
  | _ => none }
def entriesAskRow : OpenClaim := { program := "ytjbhahcogdpkpaa", sum := "fd3806c0436f1a528266ef9d5b54a7ebfe091933d59c6ec1da4ae6110e73bb9d", func := "annalist/annalistlaw13.EntriesAsk", spec := "entriesAsk", unfollowed := true, recurses := true, apart := false }
def EntriesAskSaid : Prop := entriesAskRow.holds Try.pinned (OpenSpec.ofChange entriesAskSpec)

/-- ITS FALSE NEIGHBOUR: 'it returns false'. Refute it at one input. -/
def entriesAskWrong : ChangeSpec := { name := "entriesAsk", fn := fun _ => fun
  | [d1, d2, d3] => { results := [.lit (.bool false)], args := [d1, d2, d3] }
  | _ => none }
def EntriesAskWrongFalsely : Prop := entriesAskRow.holds Try.pinned (OpenSpec.ofChange entriesAskWrong)

/-- 'annalistlaw13.EntriesBack': WHATEVER THE INPUT: true; the input reads as it did. -/
def entriesBackSpec : ChangeSpec := { name := "entriesBack", fn := fun _ => fun
  | [d1, d2] => { results := [.lit (.bool true)], args := [d1, d2] }
  | _ => none }
def entriesBackRow : OpenClaim := { program := "ytjbhahcogdpkpaa", sum := "fd3806c0436f1a528266ef9d5b54a7ebfe091933d59c6ec1da4ae6110e73bb9d", func := "annalist/annalistlaw13.EntriesBack", spec := "entriesBack", unfollowed := true, recurses := true, apart := false }
def EntriesBackSaid : Prop := entriesBackRow.holds Try.pinned (OpenSpec.ofChange entriesBackSpec)

/-- ITS FALSE NEIGHBOUR: 'it returns false'. Refute it at one input. -/
def entriesBackWrong : ChangeSpec := { name := "entriesBack", fn := fun _ => fun
  | [d1, d2] => { results := [.lit (.bool false)], args := [d1, d2] }
  | _ => none }
def EntriesBackWrongFalsely : Prop := entriesBackRow.holds Try.pinned (OpenSpec.ofChange entriesBackWrong)

/-- 'annalistlaw13.EntriesForm': WHATEVER THE INPUT: true; the input reads as it did. -/
def entriesFormSpec : ChangeSpec := { name := "entriesForm", fn := fun _ => fun
  | [d1, d2] => { results := [.lit (.bool true)], args := [d1, d2] }
  | _ => none }
def entriesFormRow : OpenClaim := { program := "ytjbhahcogdpkpaa", sum := "fd3806c0436f1a528266ef9d5b54a7ebfe091933d59c6ec1da4ae6110e73bb9d", func := "annalist/annalistlaw13.EntriesForm", spec := "entriesForm", unfollowed := true, recurses := true, apart := false }
def EntriesFormSaid : Prop := entriesFormRow.holds Try.pinned (OpenSpec.ofChange entriesFormSpec)

/-- ITS FALSE NEIGHBOUR: 'it returns false'. Refute it at one input. -/
def entriesFormWrong : ChangeSpec := { name := "entriesForm", fn := fun _ => fun
  | [d1, d2] => { results := [.lit (.bool false)], args := [d1, d2] }
  | _ => none }
def EntriesFormWrongFalsely : Prop := entriesFormRow.holds Try.pinned (OpenSpec.ofChange entriesFormWrong)

/- THE SECOND FORM. 'bulk': how many values and letters a reading holds, each counted each time it is reached (what is shared counts as often as it is met; a slice's spare places count too). A statement '..UptoSaid' is the law's where the arguments, and the package variables that the reading takes, are together of bulk at most 1048576: NARROWER than '..Said'. Prove '..Said' where nothing that the law and all that it calls make is longer than what came in: it says more and counts as full. Else prove '..UptoSaid'. A law counts once. -/
mutual
def uptoBulk {H : Type} : DataW H → Nat
  | .lit (.string bytes) => bytes.length + 1
  | .lit _ => 1
  | .nil => 1
  | .ptr d => uptoBulk d + 1
  | .slice elems spare => uptoBulkAll elems + uptoBulkAll spare + 1
  | .agg parts => uptoBulkAll parts + 1
  | .iface _ d => uptoBulk d + 1
  | .map entries => uptoBulkEntries entries + 1
  | .held _ => 1
def uptoBulkAll {H : Type} : List (DataW H) → Nat
  | [] => 0
  | d :: r => uptoBulk d + uptoBulkAll r
def uptoBulkEntries {H : Type} : List (Lit × DataW H) → Nat
  | [] => 0
  | x :: r => uptoBulkEntry x + uptoBulkEntries r
def uptoBulkEntry {H : Type} : Lit × DataW H → Nat
  | (.string bytes, d) => bytes.length + uptoBulk d + 1
  | (_, d) => uptoBulk d + 1
 end
def uptoSmall : (H : Type) → List (DataW H) → Bool := fun _ ds => decide (uptoBulkAll ds ≤ 1048576)
def OpenSpec.upto (s : _root_.Go.ChangeSpec) : _root_.Go.OpenSpec := { _root_.Go.OpenSpec.ofChange s with cond := some uptoSmall }

/-- 'annalistlaw13.EntriesTell', WHERE WHAT IT READS IS OF BULK AT MOST 1048576: true; the input reads as it did. -/
def entriesTellUptoRow : OpenClaim := { program := "ytjbhahcogdpkpaa", sum := "fd3806c0436f1a528266ef9d5b54a7ebfe091933d59c6ec1da4ae6110e73bb9d", func := "annalist/annalistlaw13.EntriesTell", spec := "entriesTell", unfollowed := true, recurses := true, apart := false, narrowed := true }
def EntriesTellUptoSaid : Prop := entriesTellUptoRow.holds Try.pinned (OpenSpec.upto entriesTellSpec)

/-- 'annalistlaw13.EntriesAsk', WHERE WHAT IT READS IS OF BULK AT MOST 1048576: true; the input reads as it did. -/
def entriesAskUptoRow : OpenClaim := { program := "ytjbhahcogdpkpaa", sum := "fd3806c0436f1a528266ef9d5b54a7ebfe091933d59c6ec1da4ae6110e73bb9d", func := "annalist/annalistlaw13.EntriesAsk", spec := "entriesAsk", unfollowed := true, recurses := true, apart := false, narrowed := true }
def EntriesAskUptoSaid : Prop := entriesAskUptoRow.holds Try.pinned (OpenSpec.upto entriesAskSpec)

/-- 'annalistlaw13.EntriesBack', WHERE WHAT IT READS IS OF BULK AT MOST 1048576: true; the input reads as it did. -/
def entriesBackUptoRow : OpenClaim := { program := "ytjbhahcogdpkpaa", sum := "fd3806c0436f1a528266ef9d5b54a7ebfe091933d59c6ec1da4ae6110e73bb9d", func := "annalist/annalistlaw13.EntriesBack", spec := "entriesBack", unfollowed := true, recurses := true, apart := false, narrowed := true }
def EntriesBackUptoSaid : Prop := entriesBackUptoRow.holds Try.pinned (OpenSpec.upto entriesBackSpec)

/-- 'annalistlaw13.EntriesForm', WHERE WHAT IT READS IS OF BULK AT MOST 1048576: true; the input reads as it did. -/
def entriesFormUptoRow : OpenClaim := { program := "ytjbhahcogdpkpaa", sum := "fd3806c0436f1a528266ef9d5b54a7ebfe091933d59c6ec1da4ae6110e73bb9d", func := "annalist/annalistlaw13.EntriesForm", spec := "entriesForm", unfollowed := true, recurses := true, apart := false, narrowed := true }
def EntriesFormUptoSaid : Prop := entriesFormUptoRow.holds Try.pinned (OpenSpec.upto entriesFormSpec)

end Rows
end Go.Proofs.Ytjbhahcogdpkpaa
