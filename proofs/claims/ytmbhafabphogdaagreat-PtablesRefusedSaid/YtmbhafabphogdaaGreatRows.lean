/-
  No cell of these rows narrows 'for every input' (looked for: loops, veiled, ifaces, maps, wideKeys, modest, calm, conditions, laid).
  DERIVED. THE GIVEN ROWS OF THIS SEAT. 4 by the template 'for every input the law returns true; each argument reads behind the call as it read before'; 0 by the template 'total and deterministic' (their statements: YtmbhafabphogdaaGreatTotals.lean).
  GIVEN WITH THE SEED: the statements are not yours to turn. If you find one false, say at which input.
  Laid BY PROGRAM, IN A SANDBOX (cutbox-rows.mjs): the forced cells as the released guide's own fill.sh prints them over the translation d827e9392d0df0e1… (all of the seat's roots in one cut). By AI agents, Wed Nov 11 2026. No macro, syntax, notation, axiom, sorry.
-/
import Derived.Test.YtmbhafabphogdaaGreatChecked
import GoSem.Claim
import GoSem.ClaimJoined
import GoSem.ClaimMapViews
import Derived.JoinedTies
import Derived.KernelRfl
namespace Go.Proofs.YtmbhafabphogdaaGreat
/- THE CELL 'sum', in the pinned program and in every row, IS THE sha256 OF THE DUMP (.gsa) THAT YtmbhafabphogdaaGreatProg.lean LOADS. Nothing in Lean hashes anything: it is a label: what it is worth is what the hold of that sum in a sandbox is worth. -/
noncomputable def Tryz.pinned : Pinned := { name := "ytmbhafabphogdaagreat", sum := "d827e9392d0df0e16400e6bafafe434ff06c878a52f54e8a780874263203a336", checked := Tryz.checked }
namespace Rows
def none {H : Type} : Left H := { results := [], args := [] }

/-- 'annalistlaw19.PtablesAnswer': WHATEVER THE INPUT: true; the input reads as it did. -/
def ptablesAnswerSpec : ChangeSpec := { name := "ptablesAnswer", fn := fun _ => fun
  | [d1, d2, d3] => { results := [.lit (.bool true)], args := [d1, d2, d3] }
  | _ => none }
def ptablesAnswerRow : OpenClaim := { program := "ytmbhafabphogdaagreat", sum := "d827e9392d0df0e16400e6bafafe434ff06c878a52f54e8a780874263203a336", func := "annalist/annalistlaw19.PtablesAnswer", spec := "ptablesAnswer", inPlace := ["internal/abi.NoEscape", "internal/bytealg.MakeNoZero"], unfollowed := true, recurses := true, apart := false }
def PtablesAnswerSaid : Prop := ptablesAnswerRow.holds Tryz.pinned (OpenSpec.ofChange ptablesAnswerSpec)

/-- ITS FALSE NEIGHBOUR: 'it returns false'. Refute it at one input. -/
def ptablesAnswerWrong : ChangeSpec := { name := "ptablesAnswer", fn := fun _ => fun
  | [d1, d2, d3] => { results := [.lit (.bool false)], args := [d1, d2, d3] }
  | _ => none }
def PtablesAnswerWrongFalsely : Prop := ptablesAnswerRow.holds Tryz.pinned (OpenSpec.ofChange ptablesAnswerWrong)

/-- 'annalistlaw19.PtablesFilter': WHATEVER THE INPUT: true; the input reads as it did. -/
def ptablesFilterSpec : ChangeSpec := { name := "ptablesFilter", fn := fun _ => fun
  | [d1, d2, d3] => { results := [.lit (.bool true)], args := [d1, d2, d3] }
  | _ => none }
def ptablesFilterRow : OpenClaim := { program := "ytmbhafabphogdaagreat", sum := "d827e9392d0df0e16400e6bafafe434ff06c878a52f54e8a780874263203a336", func := "annalist/annalistlaw19.PtablesFilter", spec := "ptablesFilter", inPlace := ["internal/abi.NoEscape", "internal/bytealg.MakeNoZero"], unfollowed := true, recurses := true, apart := false }
def PtablesFilterSaid : Prop := ptablesFilterRow.holds Tryz.pinned (OpenSpec.ofChange ptablesFilterSpec)

/-- ITS FALSE NEIGHBOUR: 'it returns false'. Refute it at one input. -/
def ptablesFilterWrong : ChangeSpec := { name := "ptablesFilter", fn := fun _ => fun
  | [d1, d2, d3] => { results := [.lit (.bool false)], args := [d1, d2, d3] }
  | _ => none }
def PtablesFilterWrongFalsely : Prop := ptablesFilterRow.holds Tryz.pinned (OpenSpec.ofChange ptablesFilterWrong)

/-- 'annalistlaw19.PtablesSpoilt': WHATEVER THE INPUT: true; the input reads as it did. -/
def ptablesSpoiltSpec : ChangeSpec := { name := "ptablesSpoilt", fn := fun _ => fun
  | [d1, d2, d3] => { results := [.lit (.bool true)], args := [d1, d2, d3] }
  | _ => none }
def ptablesSpoiltRow : OpenClaim := { program := "ytmbhafabphogdaagreat", sum := "d827e9392d0df0e16400e6bafafe434ff06c878a52f54e8a780874263203a336", func := "annalist/annalistlaw19.PtablesSpoilt", spec := "ptablesSpoilt", inPlace := ["internal/abi.NoEscape", "internal/bytealg.MakeNoZero"], unfollowed := true, recurses := true, apart := false }
def PtablesSpoiltSaid : Prop := ptablesSpoiltRow.holds Tryz.pinned (OpenSpec.ofChange ptablesSpoiltSpec)

/-- ITS FALSE NEIGHBOUR: 'it returns false'. Refute it at one input. -/
def ptablesSpoiltWrong : ChangeSpec := { name := "ptablesSpoilt", fn := fun _ => fun
  | [d1, d2, d3] => { results := [.lit (.bool false)], args := [d1, d2, d3] }
  | _ => none }
def PtablesSpoiltWrongFalsely : Prop := ptablesSpoiltRow.holds Tryz.pinned (OpenSpec.ofChange ptablesSpoiltWrong)

/-- 'annalistlaw19.PtablesRefused': WHATEVER THE INPUT: true; the input reads as it did. -/
def ptablesRefusedSpec : ChangeSpec := { name := "ptablesRefused", fn := fun _ => fun
  | [d1, d2, d3] => { results := [.lit (.bool true)], args := [d1, d2, d3] }
  | _ => none }
def ptablesRefusedRow : OpenClaim := { program := "ytmbhafabphogdaagreat", sum := "d827e9392d0df0e16400e6bafafe434ff06c878a52f54e8a780874263203a336", func := "annalist/annalistlaw19.PtablesRefused", spec := "ptablesRefused", inPlace := ["internal/abi.NoEscape", "internal/bytealg.MakeNoZero"], unfollowed := true, recurses := true, apart := false }
def PtablesRefusedSaid : Prop := ptablesRefusedRow.holds Tryz.pinned (OpenSpec.ofChange ptablesRefusedSpec)

/-- ITS FALSE NEIGHBOUR: 'it returns false'. Refute it at one input. -/
def ptablesRefusedWrong : ChangeSpec := { name := "ptablesRefused", fn := fun _ => fun
  | [d1, d2, d3] => { results := [.lit (.bool false)], args := [d1, d2, d3] }
  | _ => none }
def PtablesRefusedWrongFalsely : Prop := ptablesRefusedRow.holds Tryz.pinned (OpenSpec.ofChange ptablesRefusedWrong)

/- THE SECOND FORM. 'bulk': how many values and letters a reading holds, each counted each time it is reached (what is shared counts as often as it is met; a slice's spare places count too). A statement '..UptoSaid' is the law's where the arguments, and the package variables that the reading takes, are together of bulk at most 1048576: NARROWER than '..Said'. Prove '..Said' where nothing that the law and all that it calls make is longer than what came in: it says more and counts as full. Else prove '..UptoSaid'. A law counts once. -/
mutual
def uptoBulk {H : Type} : DataW H → Nat
  | .lit (.string bytes) => bytes.length + 1
  | .lit _ => 1
  | .nil => 1
  | .ptr d => uptoBulk d + 1
  | .slice elems spare => uptoBulkAll elems + uptoBulkAll spare + 1
  | .agg parts => uptoBulkAll parts + 1
  | .iface _ d => uptoBulk d + 1
  | .map entries => uptoBulkEntries entries + 1
  | .held _ => 1
def uptoBulkAll {H : Type} : List (DataW H) → Nat
  | [] => 0
  | d :: r => uptoBulk d + uptoBulkAll r
def uptoBulkEntries {H : Type} : List (Lit × DataW H) → Nat
  | [] => 0
  | x :: r => uptoBulkEntry x + uptoBulkEntries r
def uptoBulkEntry {H : Type} : Lit × DataW H → Nat
  | (.string bytes, d) => bytes.length + uptoBulk d + 1
  | (_, d) => uptoBulk d + 1
 end
def uptoSmall : (H : Type) → List (DataW H) → Bool := fun _ ds => decide (uptoBulkAll ds ≤ 1048576)
def OpenSpec.upto (s : _root_.Go.ChangeSpec) : _root_.Go.OpenSpec := { _root_.Go.OpenSpec.ofChange s with cond := some uptoSmall }

/-- 'annalistlaw19.PtablesAnswer', WHERE WHAT IT READS IS OF BULK AT MOST 1048576: true; the input reads as it did. -/
def ptablesAnswerUptoRow : OpenClaim := { program := "ytmbhafabphogdaagreat", sum := "d827e9392d0df0e16400e6bafafe434ff06c878a52f54e8a780874263203a336", func := "annalist/annalistlaw19.PtablesAnswer", spec := "ptablesAnswer", inPlace := ["internal/abi.NoEscape", "internal/bytealg.MakeNoZero"], unfollowed := true, recurses := true, apart := false, narrowed := true }
def PtablesAnswerUptoSaid : Prop := ptablesAnswerUptoRow.holds Tryz.pinned (OpenSpec.upto ptablesAnswerSpec)

/-- 'annalistlaw19.PtablesFilter', WHERE WHAT IT READS IS OF BULK AT MOST 1048576: true; the input reads as it did. -/
def ptablesFilterUptoRow : OpenClaim := { program := "ytmbhafabphogdaagreat", sum := "d827e9392d0df0e16400e6bafafe434ff06c878a52f54e8a780874263203a336", func := "annalist/annalistlaw19.PtablesFilter", spec := "ptablesFilter", inPlace := ["internal/abi.NoEscape", "internal/bytealg.MakeNoZero"], unfollowed := true, recurses := true, apart := false, narrowed := true }
def PtablesFilterUptoSaid : Prop := ptablesFilterUptoRow.holds Tryz.pinned (OpenSpec.upto ptablesFilterSpec)

/-- 'annalistlaw19.PtablesSpoilt', WHERE WHAT IT READS IS OF BULK AT MOST 1048576: true; the input reads as it did. -/
def ptablesSpoiltUptoRow : OpenClaim := { program := "ytmbhafabphogdaagreat", sum := "d827e9392d0df0e16400e6bafafe434ff06c878a52f54e8a780874263203a336", func := "annalist/annalistlaw19.PtablesSpoilt", spec := "ptablesSpoilt", inPlace := ["internal/abi.NoEscape", "internal/bytealg.MakeNoZero"], unfollowed := true, recurses := true, apart := false, narrowed := true }
def PtablesSpoiltUptoSaid : Prop := ptablesSpoiltUptoRow.holds Tryz.pinned (OpenSpec.upto ptablesSpoiltSpec)

/-- 'annalistlaw19.PtablesRefused', WHERE WHAT IT READS IS OF BULK AT MOST 1048576: true; the input reads as it did. -/
def ptablesRefusedUptoRow : OpenClaim := { program := "ytmbhafabphogdaagreat", sum := "d827e9392d0df0e16400e6bafafe434ff06c878a52f54e8a780874263203a336", func := "annalist/annalistlaw19.PtablesRefused", spec := "ptablesRefused", inPlace := ["internal/abi.NoEscape", "internal/bytealg.MakeNoZero"], unfollowed := true, recurses := true, apart := false, narrowed := true }
def PtablesRefusedUptoSaid : Prop := ptablesRefusedUptoRow.holds Tryz.pinned (OpenSpec.upto ptablesRefusedSpec)

end Rows
end Go.Proofs.YtmbhafabphogdaaGreat
