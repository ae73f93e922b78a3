/-
  No cell of these rows narrows 'for every input' (looked for: loops, veiled, ifaces, maps, wideKeys, modest, calm, conditions, laid).
  DERIVED. THE GIVEN ROWS OF THIS SEAT. 5 by the template 'for every input the law returns true; each argument reads behind the call as it read before'; 0 by the template 'total and deterministic' (their statements: YtdgcagcgboinpaaTotals.lean).
  GIVEN WITH THE SEED: the statements are not yours to turn. If you find one false, say at which input.
  Laid BY PROGRAM, IN A SANDBOX (cutbox-rows.mjs): the forced cells as the released guide's own fill.sh prints them over the translation 0ee337d5256fab1a… (all of the seat's roots in one cut). By AI agents, Wed Nov 11 2026. No macro, syntax, notation, axiom, sorry.
-/
import Derived.Test.YtdgcagcgboinpaaChecked
import GoSem.Claim
import GoSem.ClaimJoined
import GoSem.ClaimMapViews
import Derived.JoinedTies
import Derived.KernelRfl
namespace Go.Proofs.Ytdgcagcgboinpaa
/- THE CELL 'sum', in the pinned program and in every row, IS THE sha256 OF THE DUMP (.gsa) THAT YtdgcagcgboinpaaProg.lean LOADS. Nothing in Lean hashes anything: it is a label: what it is worth is what the hold of that sum in a sandbox is worth. -/
noncomputable def Try.pinned : Pinned := { name := "ytdgcagcgboinpaa", sum := "0ee337d5256fab1ab9a3e0df3eba2e1dc3b01d9c013654e70347e470f307317a", checked := Try.checked }
namespace Rows
def none {H : Type} : Left H := { results := [], args := [] }

/-- 'annalistlaw14.BloomsTell': WHATEVER THE INPUT: true; the input reads as it did. -/
def bloomsTellSpec : ChangeSpec := { name := "bloomsTell", fn := fun _ => fun
  | [d1, d2, d3] => { results := [.lit (.bool true)], args := [d1, d2, d3] }
  | _ => none }
def bloomsTellRow : OpenClaim := { program := "ytdgcagcgboinpaa", sum := "0ee337d5256fab1ab9a3e0df3eba2e1dc3b01d9c013654e70347e470f307317a", func := "annalist/annalistlaw14.BloomsTell", spec := "bloomsTell", unfollowed := true, recurses := true, apart := false }
def BloomsTellSaid : Prop := bloomsTellRow.holds Try.pinned (OpenSpec.ofChange bloomsTellSpec)

/-- ITS FALSE NEIGHBOUR: 'it returns false'. Refute it at one input. -/
def bloomsTellWrong : ChangeSpec := { name := "bloomsTell", fn := fun _ => fun
  | [d1, d2, d3] => { results := [.lit (.bool false)], args := [d1, d2, d3] }
  | _ => none }
def BloomsTellWrongFalsely : Prop := bloomsTellRow.holds Try.pinned (OpenSpec.ofChange bloomsTellWrong)

/-- 'annalistlaw14.BloomsMake': WHATEVER THE INPUT: true; the input reads as it did. -/
def bloomsMakeSpec : ChangeSpec := { name := "bloomsMake", fn := fun _ => fun
  | [d1, d2] => { results := [.lit (.bool true)], args := [d1, d2] }
  | _ => none }
def bloomsMakeRow : OpenClaim := { program := "ytdgcagcgboinpaa", sum := "0ee337d5256fab1ab9a3e0df3eba2e1dc3b01d9c013654e70347e470f307317a", func := "annalist/annalistlaw14.BloomsMake", spec := "bloomsMake", unfollowed := true, recurses := true, apart := false }
def BloomsMakeSaid : Prop := bloomsMakeRow.holds Try.pinned (OpenSpec.ofChange bloomsMakeSpec)

/-- ITS FALSE NEIGHBOUR: 'it returns false'. Refute it at one input. -/
def bloomsMakeWrong : ChangeSpec := { name := "bloomsMake", fn := fun _ => fun
  | [d1, d2] => { results := [.lit (.bool false)], args := [d1, d2] }
  | _ => none }
def BloomsMakeWrongFalsely : Prop := bloomsMakeRow.holds Try.pinned (OpenSpec.ofChange bloomsMakeWrong)

/-- 'annalistlaw14.BloomsHas': WHATEVER THE INPUT: true; the input reads as it did. -/
def bloomsHasSpec : ChangeSpec := { name := "bloomsHas", fn := fun _ => fun
  | [d1, d2, d3] => { results := [.lit (.bool true)], args := [d1, d2, d3] }
  | _ => none }
def bloomsHasRow : OpenClaim := { program := "ytdgcagcgboinpaa", sum := "0ee337d5256fab1ab9a3e0df3eba2e1dc3b01d9c013654e70347e470f307317a", func := "annalist/annalistlaw14.BloomsHas", spec := "bloomsHas", unfollowed := true, recurses := true, apart := false }
def BloomsHasSaid : Prop := bloomsHasRow.holds Try.pinned (OpenSpec.ofChange bloomsHasSpec)

/-- ITS FALSE NEIGHBOUR: 'it returns false'. Refute it at one input. -/
def bloomsHasWrong : ChangeSpec := { name := "bloomsHas", fn := fun _ => fun
  | [d1, d2, d3] => { results := [.lit (.bool false)], args := [d1, d2, d3] }
  | _ => none }
def BloomsHasWrongFalsely : Prop := bloomsHasRow.holds Try.pinned (OpenSpec.ofChange bloomsHasWrong)

/-- 'annalistlaw14.BloomsLess': WHATEVER THE INPUT: true; the input reads as it did. -/
def bloomsLessSpec : ChangeSpec := { name := "bloomsLess", fn := fun _ => fun
  | [d1, d2, d3] => { results := [.lit (.bool true)], args := [d1, d2, d3] }
  | _ => none }
def bloomsLessRow : OpenClaim := { program := "ytdgcagcgboinpaa", sum := "0ee337d5256fab1ab9a3e0df3eba2e1dc3b01d9c013654e70347e470f307317a", func := "annalist/annalistlaw14.BloomsLess", spec := "bloomsLess", unfollowed := true, recurses := true, apart := false }
def BloomsLessSaid : Prop := bloomsLessRow.holds Try.pinned (OpenSpec.ofChange bloomsLessSpec)

/-- ITS FALSE NEIGHBOUR: 'it returns false'. Refute it at one input. -/
def bloomsLessWrong : ChangeSpec := { name := "bloomsLess", fn := fun _ => fun
  | [d1, d2, d3] => { results := [.lit (.bool false)], args := [d1, d2, d3] }
  | _ => none }
def BloomsLessWrongFalsely : Prop := bloomsLessRow.holds Try.pinned (OpenSpec.ofChange bloomsLessWrong)

/-- 'annalistlaw14.BloomsStep': WHATEVER THE INPUT: true; the input reads as it did. -/
def bloomsStepSpec : ChangeSpec := { name := "bloomsStep", fn := fun _ => fun
  | [d1, d2] => { results := [.lit (.bool true)], args := [d1, d2] }
  | _ => none }
def bloomsStepRow : OpenClaim := { program := "ytdgcagcgboinpaa", sum := "0ee337d5256fab1ab9a3e0df3eba2e1dc3b01d9c013654e70347e470f307317a", func := "annalist/annalistlaw14.BloomsStep", spec := "bloomsStep", unfollowed := true, recurses := true, apart := false }
def BloomsStepSaid : Prop := bloomsStepRow.holds Try.pinned (OpenSpec.ofChange bloomsStepSpec)

/-- ITS FALSE NEIGHBOUR: 'it returns false'. Refute it at one input. -/
def bloomsStepWrong : ChangeSpec := { name := "bloomsStep", fn := fun _ => fun
  | [d1, d2] => { results := [.lit (.bool false)], args := [d1, d2] }
  | _ => none }
def BloomsStepWrongFalsely : Prop := bloomsStepRow.holds Try.pinned (OpenSpec.ofChange bloomsStepWrong)

/- THE SECOND FORM. 'bulk': how many values and letters a reading holds, each counted each time it is reached (what is shared counts as often as it is met; a slice's spare places count too). A statement '..UptoSaid' is the law's where the arguments, and the package variables that the reading takes, are together of bulk at most 1048576: NARROWER than '..Said'. Prove '..Said' where nothing that the law and all that it calls make is longer than what came in: it says more and counts as full. Else prove '..UptoSaid'. A law counts once. -/
mutual
def uptoBulk {H : Type} : DataW H → Nat
  | .lit (.string bytes) => bytes.length + 1
  | .lit _ => 1
  | .nil => 1
  | .ptr d => uptoBulk d + 1
  | .slice elems spare => uptoBulkAll elems + uptoBulkAll spare + 1
  | .agg parts => uptoBulkAll parts + 1
  | .iface _ d => uptoBulk d + 1
  | .map entries => uptoBulkEntries entries + 1
  | .held _ => 1
def uptoBulkAll {H : Type} : List (DataW H) → Nat
  | [] => 0
  | d :: r => uptoBulk d + uptoBulkAll r
def uptoBulkEntries {H : Type} : List (Lit × DataW H) → Nat
  | [] => 0
  | x :: r => uptoBulkEntry x + uptoBulkEntries r
def uptoBulkEntry {H : Type} : Lit × DataW H → Nat
  | (.string bytes, d) => bytes.length + uptoBulk d + 1
  | (_, d) => uptoBulk d + 1
 end
def uptoSmall : (H : Type) → List (DataW H) → Bool := fun _ ds => decide (uptoBulkAll ds ≤ 1048576)
def OpenSpec.upto (s : _root_.Go.ChangeSpec) : _root_.Go.OpenSpec := { _root_.Go.OpenSpec.ofChange s with cond := some uptoSmall }

/-- 'annalistlaw14.BloomsTell', WHERE WHAT IT READS IS OF BULK AT MOST 1048576: true; the input reads as it did. -/
def bloomsTellUptoRow : OpenClaim := { program := "ytdgcagcgboinpaa", sum := "0ee337d5256fab1ab9a3e0df3eba2e1dc3b01d9c013654e70347e470f307317a", func := "annalist/annalistlaw14.BloomsTell", spec := "bloomsTell", unfollowed := true, recurses := true, apart := false, narrowed := true }
def BloomsTellUptoSaid : Prop := bloomsTellUptoRow.holds Try.pinned (OpenSpec.upto bloomsTellSpec)

/-- 'annalistlaw14.BloomsMake', WHERE WHAT IT READS IS OF BULK AT MOST 1048576: true; the input reads as it did. -/
def bloomsMakeUptoRow : OpenClaim := { program := "ytdgcagcgboinpaa", sum := "0ee337d5256fab1ab9a3e0df3eba2e1dc3b01d9c013654e70347e470f307317a", func := "annalist/annalistlaw14.BloomsMake", spec := "bloomsMake", unfollowed := true, recurses := true, apart := false, narrowed := true }
def BloomsMakeUptoSaid : Prop := bloomsMakeUptoRow.holds Try.pinned (OpenSpec.upto bloomsMakeSpec)

/-- 'annalistlaw14.BloomsHas', WHERE WHAT IT READS IS OF BULK AT MOST 1048576: true; the input reads as it did. -/
def bloomsHasUptoRow : OpenClaim := { program := "ytdgcagcgboinpaa", sum := "0ee337d5256fab1ab9a3e0df3eba2e1dc3b01d9c013654e70347e470f307317a", func := "annalist/annalistlaw14.BloomsHas", spec := "bloomsHas", unfollowed := true, recurses := true, apart := false, narrowed := true }
def BloomsHasUptoSaid : Prop := bloomsHasUptoRow.holds Try.pinned (OpenSpec.upto bloomsHasSpec)

/-- 'annalistlaw14.BloomsLess', WHERE WHAT IT READS IS OF BULK AT MOST 1048576: true; the input reads as it did. -/
def bloomsLessUptoRow : OpenClaim := { program := "ytdgcagcgboinpaa", sum := "0ee337d5256fab1ab9a3e0df3eba2e1dc3b01d9c013654e70347e470f307317a", func := "annalist/annalistlaw14.BloomsLess", spec := "bloomsLess", unfollowed := true, recurses := true, apart := false, narrowed := true }
def BloomsLessUptoSaid : Prop := bloomsLessUptoRow.holds Try.pinned (OpenSpec.upto bloomsLessSpec)

/-- 'annalistlaw14.BloomsStep', WHERE WHAT IT READS IS OF BULK AT MOST 1048576: true; the input reads as it did. -/
def bloomsStepUptoRow : OpenClaim := { program := "ytdgcagcgboinpaa", sum := "0ee337d5256fab1ab9a3e0df3eba2e1dc3b01d9c013654e70347e470f307317a", func := "annalist/annalistlaw14.BloomsStep", spec := "bloomsStep", unfollowed := true, recurses := true, apart := false, narrowed := true }
def BloomsStepUptoSaid : Prop := bloomsStepUptoRow.holds Try.pinned (OpenSpec.upto bloomsStepSpec)

end Rows
end Go.Proofs.Ytdgcagcgboinpaa
