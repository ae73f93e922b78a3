/-
  No cell of these rows narrows 'for every input' (looked for: loops, veiled, ifaces, maps, wideKeys, modest, calm, conditions, laid).
  DERIVED. THE GIVEN ROWS OF THIS SEAT. 3 by the template 'for every input the law returns true; each argument reads behind the call as it read before'; 0 by the template 'total and deterministic' (their statements: YtejdeidbgbacgaaTotals.lean).
  GIVEN WITH THE SEED: the statements are not yours to turn. If you find one false, say at which input.
  Laid BY PROGRAM, IN A SANDBOX (cutbox-rows.mjs): the forced cells as the released guide's own fill.sh prints them over the translation e8bb36c09f7c1e7e… (all of the seat's roots in one cut). By AI agents, Wed Nov 11 2026. No macro, syntax, notation, axiom, sorry.
-/
import Derived.Test.YtejdeidbgbacgaaChecked
import GoSem.Claim
import GoSem.ClaimJoined
import GoSem.ClaimMapViews
import Derived.JoinedTies
import Derived.KernelRfl
namespace Go.Proofs.Ytejdeidbgbacgaa
/- THE CELL 'sum', in the pinned program and in every row, IS THE sha256 OF THE DUMP (.gsa) THAT YtejdeidbgbacgaaProg.lean LOADS. Nothing in Lean hashes anything: it is a label: what it is worth is what the hold of that sum in a sandbox is worth. -/
noncomputable def Try.pinned : Pinned := { name := "ytejdeidbgbacgaa", sum := "e8bb36c09f7c1e7e1c14f1410e47a5fa1a4d1b113b3551d11833cb2d002e4c5c", checked := Try.checked }
namespace Rows
def none {H : Type} : Left H := { results := [], args := [] }

/-- 'annalistlaw21.LevelsTell': WHATEVER THE INPUT: true; the input reads as it did. -/
def levelsTellSpec : ChangeSpec := { name := "levelsTell", fn := fun _ => fun
  | [d1, d2, d3] => { results := [.lit (.bool true)], args := [d1, d2, d3] }
  | _ => none }
def levelsTellRow : OpenClaim := { program := "ytejdeidbgbacgaa", sum := "e8bb36c09f7c1e7e1c14f1410e47a5fa1a4d1b113b3551d11833cb2d002e4c5c", func := "annalist/annalistlaw21.LevelsTell", spec := "levelsTell", recurses := true, apart := false }
def LevelsTellSaid : Prop := levelsTellRow.holds Try.pinned (OpenSpec.ofChange levelsTellSpec)

/-- ITS FALSE NEIGHBOUR: 'it returns false'. Refute it at one input. -/
def levelsTellWrong : ChangeSpec := { name := "levelsTell", fn := fun _ => fun
  | [d1, d2, d3] => { results := [.lit (.bool false)], args := [d1, d2, d3] }
  | _ => none }
def LevelsTellWrongFalsely : Prop := levelsTellRow.holds Try.pinned (OpenSpec.ofChange levelsTellWrong)

/-- 'annalistlaw21.LevelsGrow': WHATEVER THE INPUT: true; the input reads as it did. -/
def levelsGrowSpec : ChangeSpec := { name := "levelsGrow", fn := fun _ => fun
  | [d] => { results := [.lit (.bool true)], args := [d] }
  | _ => none }
def levelsGrowRow : OpenClaim := { program := "ytejdeidbgbacgaa", sum := "e8bb36c09f7c1e7e1c14f1410e47a5fa1a4d1b113b3551d11833cb2d002e4c5c", func := "annalist/annalistlaw21.LevelsGrow", spec := "levelsGrow", recurses := true, apart := false }
def LevelsGrowSaid : Prop := levelsGrowRow.holds Try.pinned (OpenSpec.ofChange levelsGrowSpec)

/-- ITS FALSE NEIGHBOUR: 'it returns false'. Refute it at one input. -/
def levelsGrowWrong : ChangeSpec := { name := "levelsGrow", fn := fun _ => fun
  | [d] => { results := [.lit (.bool false)], args := [d] }
  | _ => none }
def LevelsGrowWrongFalsely : Prop := levelsGrowRow.holds Try.pinned (OpenSpec.ofChange levelsGrowWrong)

/-- 'annalistlaw21.LevelsSink': WHATEVER THE INPUT: true; the input reads as it did. -/
def levelsSinkSpec : ChangeSpec := { name := "levelsSink", fn := fun _ => fun
  | [d] => { results := [.lit (.bool true)], args := [d] }
  | _ => none }
def levelsSinkRow : OpenClaim := { program := "ytejdeidbgbacgaa", sum := "e8bb36c09f7c1e7e1c14f1410e47a5fa1a4d1b113b3551d11833cb2d002e4c5c", func := "annalist/annalistlaw21.LevelsSink", spec := "levelsSink", recurses := true, apart := false }
def LevelsSinkSaid : Prop := levelsSinkRow.holds Try.pinned (OpenSpec.ofChange levelsSinkSpec)

/-- ITS FALSE NEIGHBOUR: 'it returns false'. Refute it at one input. -/
def levelsSinkWrong : ChangeSpec := { name := "levelsSink", fn := fun _ => fun
  | [d] => { results := [.lit (.bool false)], args := [d] }
  | _ => none }
def LevelsSinkWrongFalsely : Prop := levelsSinkRow.holds Try.pinned (OpenSpec.ofChange levelsSinkWrong)

/- THE SECOND FORM. 'bulk': how many values and letters a reading holds, each counted each time it is reached (what is shared counts as often as it is met; a slice's spare places count too). A statement '..UptoSaid' is the law's where the arguments, and the package variables that the reading takes, are together of bulk at most 1048576: NARROWER than '..Said'. Prove '..Said' where nothing that the law and all that it calls make is longer than what came in: it says more and counts as full. Else prove '..UptoSaid'. A law counts once. -/
mutual
def uptoBulk {H : Type} : DataW H → Nat
  | .lit (.string bytes) => bytes.length + 1
  | .lit _ => 1
  | .nil => 1
  | .ptr d => uptoBulk d + 1
  | .slice elems spare => uptoBulkAll elems + uptoBulkAll spare + 1
  | .agg parts => uptoBulkAll parts + 1
  | .iface _ d => uptoBulk d + 1
  | .map entries => uptoBulkEntries entries + 1
  | .held _ => 1
def uptoBulkAll {H : Type} : List (DataW H) → Nat
  | [] => 0
  | d :: r => uptoBulk d + uptoBulkAll r
def uptoBulkEntries {H : Type} : List (Lit × DataW H) → Nat
  | [] => 0
  | x :: r => uptoBulkEntry x + uptoBulkEntries r
def uptoBulkEntry {H : Type} : Lit × DataW H → Nat
  | (.string bytes, d) => bytes.length + uptoBulk d + 1
  | (_, d) => uptoBulk d + 1
 end
def uptoSmall : (H : Type) → List (DataW H) → Bool := fun _ ds => decide (uptoBulkAll ds ≤ 1048576)
def OpenSpec.upto (s : _root_.Go.ChangeSpec) : _root_.Go.OpenSpec := { _root_.Go.OpenSpec.ofChange s with cond := some uptoSmall }

/-- 'annalistlaw21.LevelsTell', WHERE WHAT IT READS IS OF BULK AT MOST 1048576: true; the input reads as it did. -/
def levelsTellUptoRow : OpenClaim := { program := "ytejdeidbgbacgaa", sum := "e8bb36c09f7c1e7e1c14f1410e47a5fa1a4d1b113b3551d11833cb2d002e4c5c", func := "annalist/annalistlaw21.LevelsTell", spec := "levelsTell", recurses := true, apart := false, narrowed := true }
def LevelsTellUptoSaid : Prop := levelsTellUptoRow.holds Try.pinned (OpenSpec.upto levelsTellSpec)

/-- 'annalistlaw21.LevelsGrow', WHERE WHAT IT READS IS OF BULK AT MOST 1048576: true; the input reads as it did. -/
def levelsGrowUptoRow : OpenClaim := { program := "ytejdeidbgbacgaa", sum := "e8bb36c09f7c1e7e1c14f1410e47a5fa1a4d1b113b3551d11833cb2d002e4c5c", func := "annalist/annalistlaw21.LevelsGrow", spec := "levelsGrow", recurses := true, apart := false, narrowed := true }
def LevelsGrowUptoSaid : Prop := levelsGrowUptoRow.holds Try.pinned (OpenSpec.upto levelsGrowSpec)

/-- 'annalistlaw21.LevelsSink', WHERE WHAT IT READS IS OF BULK AT MOST 1048576: true; the input reads as it did. -/
def levelsSinkUptoRow : OpenClaim := { program := "ytejdeidbgbacgaa", sum := "e8bb36c09f7c1e7e1c14f1410e47a5fa1a4d1b113b3551d11833cb2d002e4c5c", func := "annalist/annalistlaw21.LevelsSink", spec := "levelsSink", recurses := true, apart := false, narrowed := true }
def LevelsSinkUptoSaid : Prop := levelsSinkUptoRow.holds Try.pinned (OpenSpec.upto levelsSinkSpec)

end Rows
end Go.Proofs.Ytejdeidbgbacgaa
