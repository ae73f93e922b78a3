/-
  No cell of these rows narrows 'for every input' (looked for: loops, veiled, ifaces, maps, wideKeys, modest, calm, conditions, laid).
  DERIVED. THE GIVEN ROWS OF THIS SEAT. 5 by the template 'for every input the law returns true; each argument reads behind the call as it read before'; 0 by the template 'total and deterministic' (their statements: YtipimfimibnjiaaTotals.lean).
  GIVEN WITH THE SEED: the statements are not yours to turn. If you find one false, say at which input.
  Laid BY PROGRAM, IN A SANDBOX (cutbox-rows.mjs): the forced cells as the released guide's own fill.sh prints them over the translation d5413e6e3e8eba0f… (all of the seat's roots in one cut). By AI agents, Wed Nov 11 2026. No macro, syntax, notation, axiom, sorry.
-/
import Derived.Test.YtipimfimibnjiaaChecked
import GoSem.Claim
import GoSem.ClaimJoined
import GoSem.ClaimMapViews
import Derived.JoinedTies
import Derived.KernelRfl
namespace Go.Proofs.Ytipimfimibnjiaa
/- THE CELL 'sum', in the pinned program and in every row, IS THE sha256 OF THE DUMP (.gsa) THAT YtipimfimibnjiaaProg.lean LOADS. Nothing in Lean hashes anything: it is a label: what it is worth is what the hold of that sum in a sandbox is worth. -/
noncomputable def Try.pinned : Pinned := { name := "ytipimfimibnjiaa", sum := "d5413e6e3e8eba0f1c90daeb203d0cc419b0793d4cab18a54f34bbffd1e35112", checked := Try.checked }
namespace Rows
def none {H : Type} : Left H := { results := [], args := [] }

/-- 'annalistlaw17.MidsMake': WHATEVER THE INPUT: true; the input reads as it did. -/
def midsMakeSpec : ChangeSpec := { name := "midsMake", fn := fun _ => fun
  | [d] => { results := [.lit (.bool true)], args := [d] }
  | _ => none }
def midsMakeRow : OpenClaim := { program := "ytipimfimibnjiaa", sum := "d5413e6e3e8eba0f1c90daeb203d0cc419b0793d4cab18a54f34bbffd1e35112", func := "annalist/annalistlaw17.MidsMake", spec := "midsMake", apart := false }
def MidsMakeSaid : Prop := midsMakeRow.holds Try.pinned (OpenSpec.ofChange midsMakeSpec)

/-- ITS FALSE NEIGHBOUR: 'it returns false'. Refute it at one input. -/
def midsMakeWrong : ChangeSpec := { name := "midsMake", fn := fun _ => fun
  | [d] => { results := [.lit (.bool false)], args := [d] }
  | _ => none }
def MidsMakeWrongFalsely : Prop := midsMakeRow.holds Try.pinned (OpenSpec.ofChange midsMakeWrong)

/-- 'annalistlaw17.MidsNarrow': WHATEVER THE INPUT: true; the input reads as it did. -/
def midsNarrowSpec : ChangeSpec := { name := "midsNarrow", fn := fun _ => fun
  | [d1, d2] => { results := [.lit (.bool true)], args := [d1, d2] }
  | _ => none }
def midsNarrowRow : OpenClaim := { program := "ytipimfimibnjiaa", sum := "d5413e6e3e8eba0f1c90daeb203d0cc419b0793d4cab18a54f34bbffd1e35112", func := "annalist/annalistlaw17.MidsNarrow", spec := "midsNarrow", apart := false }
def MidsNarrowSaid : Prop := midsNarrowRow.holds Try.pinned (OpenSpec.ofChange midsNarrowSpec)

/-- ITS FALSE NEIGHBOUR: 'it returns false'. Refute it at one input. -/
def midsNarrowWrong : ChangeSpec := { name := "midsNarrow", fn := fun _ => fun
  | [d1, d2] => { results := [.lit (.bool false)], args := [d1, d2] }
  | _ => none }
def MidsNarrowWrongFalsely : Prop := midsNarrowRow.holds Try.pinned (OpenSpec.ofChange midsNarrowWrong)

/-- 'annalistlaw17.MidsBetween': WHATEVER THE INPUT: true; the input reads as it did. -/
def midsBetweenSpec : ChangeSpec := { name := "midsBetween", fn := fun _ => fun
  | [d1, d2] => { results := [.lit (.bool true)], args := [d1, d2] }
  | _ => none }
def midsBetweenRow : OpenClaim := { program := "ytipimfimibnjiaa", sum := "d5413e6e3e8eba0f1c90daeb203d0cc419b0793d4cab18a54f34bbffd1e35112", func := "annalist/annalistlaw17.MidsBetween", spec := "midsBetween", apart := false }
def MidsBetweenSaid : Prop := midsBetweenRow.holds Try.pinned (OpenSpec.ofChange midsBetweenSpec)

/-- ITS FALSE NEIGHBOUR: 'it returns false'. Refute it at one input. -/
def midsBetweenWrong : ChangeSpec := { name := "midsBetween", fn := fun _ => fun
  | [d1, d2] => { results := [.lit (.bool false)], args := [d1, d2] }
  | _ => none }
def MidsBetweenWrongFalsely : Prop := midsBetweenRow.holds Try.pinned (OpenSpec.ofChange midsBetweenWrong)

/-- 'annalistlaw17.MidsRaw': WHATEVER THE INPUT: true; the input reads as it did. -/
def midsRawSpec : ChangeSpec := { name := "midsRaw", fn := fun _ => fun
  | [d1, d2, d3] => { results := [.lit (.bool true)], args := [d1, d2, d3] }
  | _ => none }
def midsRawRow : OpenClaim := { program := "ytipimfimibnjiaa", sum := "d5413e6e3e8eba0f1c90daeb203d0cc419b0793d4cab18a54f34bbffd1e35112", func := "annalist/annalistlaw17.MidsRaw", spec := "midsRaw", apart := false }
def MidsRawSaid : Prop := midsRawRow.holds Try.pinned (OpenSpec.ofChange midsRawSpec)

/-- ITS FALSE NEIGHBOUR: 'it returns false'. Refute it at one input. -/
def midsRawWrong : ChangeSpec := { name := "midsRaw", fn := fun _ => fun
  | [d1, d2, d3] => { results := [.lit (.bool false)], args := [d1, d2, d3] }
  | _ => none }
def MidsRawWrongFalsely : Prop := midsRawRow.holds Try.pinned (OpenSpec.ofChange midsRawWrong)

/-- 'annalistlaw17.MidsMany': WHATEVER THE INPUT: true; the input reads as it did. -/
def midsManySpec : ChangeSpec := { name := "midsMany", fn := fun _ => fun
  | [d] => { results := [.lit (.bool true)], args := [d] }
  | _ => none }
def midsManyRow : OpenClaim := { program := "ytipimfimibnjiaa", sum := "d5413e6e3e8eba0f1c90daeb203d0cc419b0793d4cab18a54f34bbffd1e35112", func := "annalist/annalistlaw17.MidsMany", spec := "midsMany", apart := false }
def MidsManySaid : Prop := midsManyRow.holds Try.pinned (OpenSpec.ofChange midsManySpec)

/-- ITS FALSE NEIGHBOUR: 'it returns false'. Refute it at one input. -/
def midsManyWrong : ChangeSpec := { name := "midsMany", fn := fun _ => fun
  | [d] => { results := [.lit (.bool false)], args := [d] }
  | _ => none }
def MidsManyWrongFalsely : Prop := midsManyRow.holds Try.pinned (OpenSpec.ofChange midsManyWrong)

/- THE SECOND FORM. 'bulk': how many values and letters a reading holds, each counted each time it is reached (what is shared counts as often as it is met; a slice's spare places count too). A statement '..UptoSaid' is the law's where the arguments, and the package variables that the reading takes, are together of bulk at most 1048576: NARROWER than '..Said'. Prove '..Said' where nothing that the law and all that it calls make is longer than what came in: it says more and counts as full. Else prove '..UptoSaid'. A law counts once. -/
mutual
def uptoBulk {H : Type} : DataW H → Nat
  | .lit (.string bytes) => bytes.length + 1
  | .lit _ => 1
  | .nil => 1
  | .ptr d => uptoBulk d + 1
  | .slice elems spare => uptoBulkAll elems + uptoBulkAll spare + 1
  | .agg parts => uptoBulkAll parts + 1
  | .iface _ d => uptoBulk d + 1
  | .map entries => uptoBulkEntries entries + 1
  | .held _ => 1
def uptoBulkAll {H : Type} : List (DataW H) → Nat
  | [] => 0
  | d :: r => uptoBulk d + uptoBulkAll r
def uptoBulkEntries {H : Type} : List (Lit × DataW H) → Nat
  | [] => 0
  | x :: r => uptoBulkEntry x + uptoBulkEntries r
def uptoBulkEntry {H : Type} : Lit × DataW H → Nat
  | (.string bytes, d) => bytes.length + uptoBulk d + 1
  | (_, d) => uptoBulk d + 1
 end
def uptoSmall : (H : Type) → List (DataW H) → Bool := fun _ ds => decide (uptoBulkAll ds ≤ 1048576)
def OpenSpec.upto (s : _root_.Go.ChangeSpec) : _root_.Go.OpenSpec := { _root_.Go.OpenSpec.ofChange s with cond := some uptoSmall }

/-- 'annalistlaw17.MidsMake', WHERE WHAT IT READS IS OF BULK AT MOST 1048576: true; the input reads as it did. -/
def midsMakeUptoRow : OpenClaim := { program := "ytipimfimibnjiaa", sum := "d5413e6e3e8eba0f1c90daeb203d0cc419b0793d4cab18a54f34bbffd1e35112", func := "annalist/annalistlaw17.MidsMake", spec := "midsMake", apart := false, narrowed := true }
def MidsMakeUptoSaid : Prop := midsMakeUptoRow.holds Try.pinned (OpenSpec.upto midsMakeSpec)

/-- 'annalistlaw17.MidsNarrow', WHERE WHAT IT READS IS OF BULK AT MOST 1048576: true; the input reads as it did. -/
def midsNarrowUptoRow : OpenClaim := { program := "ytipimfimibnjiaa", sum := "d5413e6e3e8eba0f1c90daeb203d0cc419b0793d4cab18a54f34bbffd1e35112", func := "annalist/annalistlaw17.MidsNarrow", spec := "midsNarrow", apart := false, narrowed := true }
def MidsNarrowUptoSaid : Prop := midsNarrowUptoRow.holds Try.pinned (OpenSpec.upto midsNarrowSpec)

/-- 'annalistlaw17.MidsBetween', WHERE WHAT IT READS IS OF BULK AT MOST 1048576: true; the input reads as it did. -/
def midsBetweenUptoRow : OpenClaim := { program := "ytipimfimibnjiaa", sum := "d5413e6e3e8eba0f1c90daeb203d0cc419b0793d4cab18a54f34bbffd1e35112", func := "annalist/annalistlaw17.MidsBetween", spec := "midsBetween", apart := false, narrowed := true }
def MidsBetweenUptoSaid : Prop := midsBetweenUptoRow.holds Try.pinned (OpenSpec.upto midsBetweenSpec)

/-- 'annalistlaw17.MidsRaw', WHERE WHAT IT READS IS OF BULK AT MOST 1048576: true; the input reads as it did. -/
def midsRawUptoRow : OpenClaim := { program := "ytipimfimibnjiaa", sum := "d5413e6e3e8eba0f1c90daeb203d0cc419b0793d4cab18a54f34bbffd1e35112", func := "annalist/annalistlaw17.MidsRaw", spec := "midsRaw", apart := false, narrowed := true }
def MidsRawUptoSaid : Prop := midsRawUptoRow.holds Try.pinned (OpenSpec.upto midsRawSpec)

/-- 'annalistlaw17.MidsMany', WHERE WHAT IT READS IS OF BULK AT MOST 1048576: true; the input reads as it did. -/
def midsManyUptoRow : OpenClaim := { program := "ytipimfimibnjiaa", sum := "d5413e6e3e8eba0f1c90daeb203d0cc419b0793d4cab18a54f34bbffd1e35112", func := "annalist/annalistlaw17.MidsMany", spec := "midsMany", apart := false, narrowed := true }
def MidsManyUptoSaid : Prop := midsManyUptoRow.holds Try.pinned (OpenSpec.upto midsManySpec)

end Rows
end Go.Proofs.Ytipimfimibnjiaa
