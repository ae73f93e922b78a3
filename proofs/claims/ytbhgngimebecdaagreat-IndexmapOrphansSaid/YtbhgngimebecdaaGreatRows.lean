/-
  No cell of these rows narrows 'for every input' (looked for: loops, veiled, ifaces, maps, wideKeys, modest, calm, conditions, laid).
  DERIVED. THE GIVEN ROWS OF THIS SEAT. 4 by the template 'for every input the law returns true; each argument reads behind the call as it read before'; 0 by the template 'total and deterministic' (their statements: YtbhgngimebecdaaGreatTotals.lean).
  GIVEN WITH THE SEED: the statements are not yours to turn. If you find one false, say at which input.
  Laid BY PROGRAM, IN A SANDBOX (cutbox-rows.mjs): the forced cells as the released guide's own fill.sh prints them over the translation 7911f4530984d3ee… (all of the seat's roots in one cut). By AI agents, Wed Nov 11 2026. No macro, syntax, notation, axiom, sorry.
-/
import Derived.Test.YtbhgngimebecdaaGreatChecked
import GoSem.Claim
import GoSem.ClaimJoined
import GoSem.ClaimMapViews
import Derived.JoinedTies
import Derived.KernelRfl
namespace Go.Proofs.YtbhgngimebecdaaGreat
/- THE CELL 'sum', in the pinned program and in every row, IS THE sha256 OF THE DUMP (.gsa) THAT YtbhgngimebecdaaGreatProg.lean LOADS. Nothing in Lean hashes anything: it is a label: what it is worth is what the hold of that sum in a sandbox is worth. -/
noncomputable def Tryz.pinned : Pinned := { name := "ytbhgngimebecdaagreat", sum := "7911f4530984d3ee7ef81b2de772d5c995c8f946f93fd80a65ae89c24c614d34", checked := Tryz.checked }
namespace Rows
def none {H : Type} : Left H := { results := [], args := [] }

/-- 'annalistlaw23.IndexmapOrphans': WHATEVER THE INPUT: true; the input reads as it did. -/
def indexmapOrphansSpec : ChangeSpec := { name := "indexmapOrphans", fn := fun _ => fun
  | [d1, d2] => { results := [.lit (.bool true)], args := [d1, d2] }
  | _ => none }
def indexmapOrphansRow : OpenClaim := { program := "ytbhgngimebecdaagreat", sum := "7911f4530984d3ee7ef81b2de772d5c995c8f946f93fd80a65ae89c24c614d34", func := "annalist/annalistlaw23.IndexmapOrphans", spec := "indexmapOrphans", inPlace := ["internal/abi.NoEscape"], unfollowed := true, recurses := true, apart := false }
def IndexmapOrphansSaid : Prop := indexmapOrphansRow.holds Tryz.pinned (OpenSpec.ofChange indexmapOrphansSpec)

/-- ITS FALSE NEIGHBOUR: 'it returns false'. Refute it at one input. -/
def indexmapOrphansWrong : ChangeSpec := { name := "indexmapOrphans", fn := fun _ => fun
  | [d1, d2] => { results := [.lit (.bool false)], args := [d1, d2] }
  | _ => none }
def IndexmapOrphansWrongFalsely : Prop := indexmapOrphansRow.holds Tryz.pinned (OpenSpec.ofChange indexmapOrphansWrong)

/-- 'annalistlaw23.IndexmapLoad': WHATEVER THE INPUT: true; the input reads as it did. -/
def indexmapLoadSpec : ChangeSpec := { name := "indexmapLoad", fn := fun _ => fun
  | [d] => { results := [.lit (.bool true)], args := [d] }
  | _ => none }
def indexmapLoadRow : OpenClaim := { program := "ytbhgngimebecdaagreat", sum := "7911f4530984d3ee7ef81b2de772d5c995c8f946f93fd80a65ae89c24c614d34", func := "annalist/annalistlaw23.IndexmapLoad", spec := "indexmapLoad", inPlace := ["internal/abi.NoEscape"], unfollowed := true, recurses := true, apart := false }
def IndexmapLoadSaid : Prop := indexmapLoadRow.holds Tryz.pinned (OpenSpec.ofChange indexmapLoadSpec)

/-- ITS FALSE NEIGHBOUR: 'it returns false'. Refute it at one input. -/
def indexmapLoadWrong : ChangeSpec := { name := "indexmapLoad", fn := fun _ => fun
  | [d] => { results := [.lit (.bool false)], args := [d] }
  | _ => none }
def IndexmapLoadWrongFalsely : Prop := indexmapLoadRow.holds Tryz.pinned (OpenSpec.ofChange indexmapLoadWrong)

/-- 'annalistlaw23.IndexmapCrash': WHATEVER THE INPUT: true; the input reads as it did. -/
def indexmapCrashSpec : ChangeSpec := { name := "indexmapCrash", fn := fun _ => fun
  | [d1, d2, d3] => { results := [.lit (.bool true)], args := [d1, d2, d3] }
  | _ => none }
def indexmapCrashRow : OpenClaim := { program := "ytbhgngimebecdaagreat", sum := "7911f4530984d3ee7ef81b2de772d5c995c8f946f93fd80a65ae89c24c614d34", func := "annalist/annalistlaw23.IndexmapCrash", spec := "indexmapCrash", inPlace := ["internal/abi.NoEscape"], unfollowed := true, recurses := true, apart := false }
def IndexmapCrashSaid : Prop := indexmapCrashRow.holds Tryz.pinned (OpenSpec.ofChange indexmapCrashSpec)

/-- ITS FALSE NEIGHBOUR: 'it returns false'. Refute it at one input. -/
def indexmapCrashWrong : ChangeSpec := { name := "indexmapCrash", fn := fun _ => fun
  | [d1, d2, d3] => { results := [.lit (.bool false)], args := [d1, d2, d3] }
  | _ => none }
def IndexmapCrashWrongFalsely : Prop := indexmapCrashRow.holds Tryz.pinned (OpenSpec.ofChange indexmapCrashWrong)

/-- 'annalistlaw23.IndexmapRefused': WHATEVER THE INPUT: true; the input reads as it did. -/
def indexmapRefusedSpec : ChangeSpec := { name := "indexmapRefused", fn := fun _ => fun
  | [d1, d2] => { results := [.lit (.bool true)], args := [d1, d2] }
  | _ => none }
def indexmapRefusedRow : OpenClaim := { program := "ytbhgngimebecdaagreat", sum := "7911f4530984d3ee7ef81b2de772d5c995c8f946f93fd80a65ae89c24c614d34", func := "annalist/annalistlaw23.IndexmapRefused", spec := "indexmapRefused", inPlace := ["internal/abi.NoEscape"], unfollowed := true, recurses := true, apart := false }
def IndexmapRefusedSaid : Prop := indexmapRefusedRow.holds Tryz.pinned (OpenSpec.ofChange indexmapRefusedSpec)

/-- ITS FALSE NEIGHBOUR: 'it returns false'. Refute it at one input. -/
def indexmapRefusedWrong : ChangeSpec := { name := "indexmapRefused", fn := fun _ => fun
  | [d1, d2] => { results := [.lit (.bool false)], args := [d1, d2] }
  | _ => none }
def IndexmapRefusedWrongFalsely : Prop := indexmapRefusedRow.holds Tryz.pinned (OpenSpec.ofChange indexmapRefusedWrong)

/- THE SECOND FORM. 'bulk': how many values and letters a reading holds, each counted each time it is reached (what is shared counts as often as it is met; a slice's spare places count too). A statement '..UptoSaid' is the law's where the arguments, and the package variables that the reading takes, are together of bulk at most 1048576: NARROWER than '..Said'. Prove '..Said' where nothing that the law and all that it calls make is longer than what came in: it says more and counts as full. Else prove '..UptoSaid'. A law counts once. -/
mutual
def uptoBulk {H : Type} : DataW H → Nat
  | .lit (.string bytes) => bytes.length + 1
  | .lit _ => 1
  | .nil => 1
  | .ptr d => uptoBulk d + 1
  | .slice elems spare => uptoBulkAll elems + uptoBulkAll spare + 1
  | .agg parts => uptoBulkAll parts + 1
  | .iface _ d => uptoBulk d + 1
  | .map entries => uptoBulkEntries entries + 1
  | .held _ => 1
def uptoBulkAll {H : Type} : List (DataW H) → Nat
  | [] => 0
  | d :: r => uptoBulk d + uptoBulkAll r
def uptoBulkEntries {H : Type} : List (Lit × DataW H) → Nat
  | [] => 0
  | x :: r => uptoBulkEntry x + uptoBulkEntries r
def uptoBulkEntry {H : Type} : Lit × DataW H → Nat
  | (.string bytes, d) => bytes.length + uptoBulk d + 1
  | (_, d) => uptoBulk d + 1
 end
def uptoSmall : (H : Type) → List (DataW H) → Bool := fun _ ds => decide (uptoBulkAll ds ≤ 1048576)
def OpenSpec.upto (s : _root_.Go.ChangeSpec) : _root_.Go.OpenSpec := { _root_.Go.OpenSpec.ofChange s with cond := some uptoSmall }

/-- 'annalistlaw23.IndexmapOrphans', WHERE WHAT IT READS IS OF BULK AT MOST 1048576: true; the input reads as it did. -/
def indexmapOrphansUptoRow : OpenClaim := { program := "ytbhgngimebecdaagreat", sum := "7911f4530984d3ee7ef81b2de772d5c995c8f946f93fd80a65ae89c24c614d34", func := "annalist/annalistlaw23.IndexmapOrphans", spec := "indexmapOrphans", inPlace := ["internal/abi.NoEscape"], unfollowed := true, recurses := true, apart := false, narrowed := true }
def IndexmapOrphansUptoSaid : Prop := indexmapOrphansUptoRow.holds Tryz.pinned (OpenSpec.upto indexmapOrphansSpec)

/-- 'annalistlaw23.IndexmapLoad', WHERE WHAT IT READS IS OF BULK AT MOST 1048576: true; the input reads as it did. -/
def indexmapLoadUptoRow : OpenClaim := { program := "ytbhgngimebecdaagreat", sum := "7911f4530984d3ee7ef81b2de772d5c995c8f946f93fd80a65ae89c24c614d34", func := "annalist/annalistlaw23.IndexmapLoad", spec := "indexmapLoad", inPlace := ["internal/abi.NoEscape"], unfollowed := true, recurses := true, apart := false, narrowed := true }
def IndexmapLoadUptoSaid : Prop := indexmapLoadUptoRow.holds Tryz.pinned (OpenSpec.upto indexmapLoadSpec)

/-- 'annalistlaw23.IndexmapCrash', WHERE WHAT IT READS IS OF BULK AT MOST 1048576: true; the input reads as it did. -/
def indexmapCrashUptoRow : OpenClaim := { program := "ytbhgngimebecdaagreat", sum := "7911f4530984d3ee7ef81b2de772d5c995c8f946f93fd80a65ae89c24c614d34", func := "annalist/annalistlaw23.IndexmapCrash", spec := "indexmapCrash", inPlace := ["internal/abi.NoEscape"], unfollowed := true, recurses := true, apart := false, narrowed := true }
def IndexmapCrashUptoSaid : Prop := indexmapCrashUptoRow.holds Tryz.pinned (OpenSpec.upto indexmapCrashSpec)

/-- 'annalistlaw23.IndexmapRefused', WHERE WHAT IT READS IS OF BULK AT MOST 1048576: true; the input reads as it did. -/
def indexmapRefusedUptoRow : OpenClaim := { program := "ytbhgngimebecdaagreat", sum := "7911f4530984d3ee7ef81b2de772d5c995c8f946f93fd80a65ae89c24c614d34", func := "annalist/annalistlaw23.IndexmapRefused", spec := "indexmapRefused", inPlace := ["internal/abi.NoEscape"], unfollowed := true, recurses := true, apart := false, narrowed := true }
def IndexmapRefusedUptoSaid : Prop := indexmapRefusedUptoRow.holds Tryz.pinned (OpenSpec.upto indexmapRefusedSpec)

end Rows
end Go.Proofs.YtbhgngimebecdaaGreat
