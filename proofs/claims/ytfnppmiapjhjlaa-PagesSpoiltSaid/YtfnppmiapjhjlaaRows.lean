/-
  No cell of these rows narrows 'for every input' (looked for: loops, veiled, ifaces, maps, wideKeys, modest, calm, conditions, laid).
  DERIVED. THE GIVEN ROWS OF THIS SEAT. 6 by the template 'for every input the law returns true; each argument reads behind the call as it read before'; 0 by the template 'total and deterministic' (their statements: YtfnppmiapjhjlaaTotals.lean).
  GIVEN WITH THE SEED: the statements are not yours to turn. If you find one false, say at which input.
  Laid BY PROGRAM, IN A SANDBOX (cutbox-rows.mjs): the forced cells as the released guide's own fill.sh prints them over the translation befce92064bbbff4… (all of the seat's roots in one cut). By AI agents, Wed Nov 11 2026. No macro, syntax, notation, axiom, sorry.
-/
import Derived.Test.YtfnppmiapjhjlaaChecked
import GoSem.Claim
import GoSem.ClaimJoined
import GoSem.ClaimMapViews
import Derived.JoinedTies
import Derived.KernelRfl
namespace Go.Proofs.Ytfnppmiapjhjlaa
/- THE CELL 'sum', in the pinned program and in every row, IS THE sha256 OF THE DUMP (.gsa) THAT YtfnppmiapjhjlaaProg.lean LOADS. Nothing in Lean hashes anything: it is a label: what it is worth is what the hold of that sum in a sandbox is worth. -/
noncomputable def Try.pinned : Pinned := { name := "ytfnppmiapjhjlaa", sum := "befce92064bbbff452d4405bd4a2b03344c2cee1158ad01c59a383af009377e2", checked := Try.checked }
namespace Rows
def none {H : Type} : Left H := { results := [], args := [] }

/-- 'annalistlaw15.PagesPut': WHATEVER THE INPUT: true; the input reads as it did. -/
def pagesPutSpec : ChangeSpec := { name := "pagesPut", fn := fun _ => fun
  | [d1, d2] => { results := [.lit (.bool true)], args := [d1, d2] }
  | _ => none }
def pagesPutRow : OpenClaim := { program := "ytfnppmiapjhjlaa", sum := "befce92064bbbff452d4405bd4a2b03344c2cee1158ad01c59a383af009377e2", func := "annalist/annalistlaw15.PagesPut", spec := "pagesPut", inPlace := ["internal/abi.NoEscape", "internal/bytealg.MakeNoZero"], apart := false }
def PagesPutSaid : Prop := pagesPutRow.holds Try.pinned (OpenSpec.ofChange pagesPutSpec)

/-- ITS FALSE NEIGHBOUR: 'it returns false'. Refute it at one input. -/
def pagesPutWrong : ChangeSpec := { name := "pagesPut", fn := fun _ => fun
  | [d1, d2] => { results := [.lit (.bool false)], args := [d1, d2] }
  | _ => none }
def PagesPutWrongFalsely : Prop := pagesPutRow.holds Try.pinned (OpenSpec.ofChange pagesPutWrong)

/-- 'annalistlaw15.PagesMay': WHATEVER THE INPUT: true; the input reads as it did. -/
def pagesMaySpec : ChangeSpec := { name := "pagesMay", fn := fun _ => fun
  | [d1, d2] => { results := [.lit (.bool true)], args := [d1, d2] }
  | _ => none }
def pagesMayRow : OpenClaim := { program := "ytfnppmiapjhjlaa", sum := "befce92064bbbff452d4405bd4a2b03344c2cee1158ad01c59a383af009377e2", func := "annalist/annalistlaw15.PagesMay", spec := "pagesMay", inPlace := ["internal/abi.NoEscape", "internal/bytealg.MakeNoZero"], apart := false }
def PagesMaySaid : Prop := pagesMayRow.holds Try.pinned (OpenSpec.ofChange pagesMaySpec)

/-- ITS FALSE NEIGHBOUR: 'it returns false'. Refute it at one input. -/
def pagesMayWrong : ChangeSpec := { name := "pagesMay", fn := fun _ => fun
  | [d1, d2] => { results := [.lit (.bool false)], args := [d1, d2] }
  | _ => none }
def PagesMayWrongFalsely : Prop := pagesMayRow.holds Try.pinned (OpenSpec.ofChange pagesMayWrong)

/-- 'annalistlaw15.PagesSpoilt': WHATEVER THE INPUT: true; the input reads as it did. -/
def pagesSpoiltSpec : ChangeSpec := { name := "pagesSpoilt", fn := fun _ => fun
  | [d1, d2, d3] => { results := [.lit (.bool true)], args := [d1, d2, d3] }
  | _ => none }
def pagesSpoiltRow : OpenClaim := { program := "ytfnppmiapjhjlaa", sum := "befce92064bbbff452d4405bd4a2b03344c2cee1158ad01c59a383af009377e2", func := "annalist/annalistlaw15.PagesSpoilt", spec := "pagesSpoilt", inPlace := ["internal/abi.NoEscape", "internal/bytealg.MakeNoZero"], apart := false }
def PagesSpoiltSaid : Prop := pagesSpoiltRow.holds Try.pinned (OpenSpec.ofChange pagesSpoiltSpec)

/-- ITS FALSE NEIGHBOUR: 'it returns false'. Refute it at one input. -/
def pagesSpoiltWrong : ChangeSpec := { name := "pagesSpoilt", fn := fun _ => fun
  | [d1, d2, d3] => { results := [.lit (.bool false)], args := [d1, d2, d3] }
  | _ => none }
def PagesSpoiltWrongFalsely : Prop := pagesSpoiltRow.holds Try.pinned (OpenSpec.ofChange pagesSpoiltWrong)

/-- 'annalistlaw15.PagesHas': WHATEVER THE INPUT: true; the input reads as it did. -/
def pagesHasSpec : ChangeSpec := { name := "pagesHas", fn := fun _ => fun
  | [d1, d2, d3] => { results := [.lit (.bool true)], args := [d1, d2, d3] }
  | _ => none }
def pagesHasRow : OpenClaim := { program := "ytfnppmiapjhjlaa", sum := "befce92064bbbff452d4405bd4a2b03344c2cee1158ad01c59a383af009377e2", func := "annalist/annalistlaw15.PagesHas", spec := "pagesHas", inPlace := ["internal/abi.NoEscape", "internal/bytealg.MakeNoZero"], unfollowed := true, recurses := true, apart := false }
def PagesHasSaid : Prop := pagesHasRow.holds Try.pinned (OpenSpec.ofChange pagesHasSpec)

/-- ITS FALSE NEIGHBOUR: 'it returns false'. Refute it at one input. -/
def pagesHasWrong : ChangeSpec := { name := "pagesHas", fn := fun _ => fun
  | [d1, d2, d3] => { results := [.lit (.bool false)], args := [d1, d2, d3] }
  | _ => none }
def PagesHasWrongFalsely : Prop := pagesHasRow.holds Try.pinned (OpenSpec.ofChange pagesHasWrong)

/-- 'annalistlaw15.PagesKeep': WHATEVER THE INPUT: true; the input reads as it did. -/
def pagesKeepSpec : ChangeSpec := { name := "pagesKeep", fn := fun _ => fun
  | [d1, d2, d3] => { results := [.lit (.bool true)], args := [d1, d2, d3] }
  | _ => none }
def pagesKeepRow : OpenClaim := { program := "ytfnppmiapjhjlaa", sum := "befce92064bbbff452d4405bd4a2b03344c2cee1158ad01c59a383af009377e2", func := "annalist/annalistlaw15.PagesKeep", spec := "pagesKeep", inPlace := ["internal/abi.NoEscape", "internal/bytealg.MakeNoZero"], unfollowed := true, recurses := true, apart := false }
def PagesKeepSaid : Prop := pagesKeepRow.holds Try.pinned (OpenSpec.ofChange pagesKeepSpec)

/-- ITS FALSE NEIGHBOUR: 'it returns false'. Refute it at one input. -/
def pagesKeepWrong : ChangeSpec := { name := "pagesKeep", fn := fun _ => fun
  | [d1, d2, d3] => { results := [.lit (.bool false)], args := [d1, d2, d3] }
  | _ => none }
def PagesKeepWrongFalsely : Prop := pagesKeepRow.holds Try.pinned (OpenSpec.ofChange pagesKeepWrong)

/-- 'annalistlaw15.PagesNear': WHATEVER THE INPUT: true; the input reads as it did. -/
def pagesNearSpec : ChangeSpec := { name := "pagesNear", fn := fun _ => fun
  | [d1, d2, d3] => { results := [.lit (.bool true)], args := [d1, d2, d3] }
  | _ => none }
def pagesNearRow : OpenClaim := { program := "ytfnppmiapjhjlaa", sum := "befce92064bbbff452d4405bd4a2b03344c2cee1158ad01c59a383af009377e2", func := "annalist/annalistlaw15.PagesNear", spec := "pagesNear", inPlace := ["internal/abi.NoEscape", "internal/bytealg.MakeNoZero"], unfollowed := true, recurses := true, apart := false }
def PagesNearSaid : Prop := pagesNearRow.holds Try.pinned (OpenSpec.ofChange pagesNearSpec)

/-- ITS FALSE NEIGHBOUR: 'it returns false'. Refute it at one input. -/
def pagesNearWrong : ChangeSpec := { name := "pagesNear", fn := fun _ => fun
  | [d1, d2, d3] => { results := [.lit (.bool false)], args := [d1, d2, d3] }
  | _ => none }
def PagesNearWrongFalsely : Prop := pagesNearRow.holds Try.pinned (OpenSpec.ofChange pagesNearWrong)

/- THE SECOND FORM. 'bulk': how many values and letters a reading holds, each counted each time it is reached (what is shared counts as often as it is met; a slice's spare places count too). A statement '..UptoSaid' is the law's where the arguments, and the package variables that the reading takes, are together of bulk at most 1048576: NARROWER than '..Said'. Prove '..Said' where nothing that the law and all that it calls make is longer than what came in: it says more and counts as full. Else prove '..UptoSaid'. A law counts once. -/
mutual
def uptoBulk {H : Type} : DataW H → Nat
  | .lit (.string bytes) => bytes.length + 1
  | .lit _ => 1
  | .nil => 1
  | .ptr d => uptoBulk d + 1
  | .slice elems spare => uptoBulkAll elems + uptoBulkAll spare + 1
  | .agg parts => uptoBulkAll parts + 1
  | .iface _ d => uptoBulk d + 1
  | .map entries => uptoBulkEntries entries + 1
  | .held _ => 1
def uptoBulkAll {H : Type} : List (DataW H) → Nat
  | [] => 0
  | d :: r => uptoBulk d + uptoBulkAll r
def uptoBulkEntries {H : Type} : List (Lit × DataW H) → Nat
  | [] => 0
  | x :: r => uptoBulkEntry x + uptoBulkEntries r
def uptoBulkEntry {H : Type} : Lit × DataW H → Nat
  | (.string bytes, d) => bytes.length + uptoBulk d + 1
  | (_, d) => uptoBulk d + 1
 end
def uptoSmall : (H : Type) → List (DataW H) → Bool := fun _ ds => decide (uptoBulkAll ds ≤ 1048576)
def OpenSpec.upto (s : _root_.Go.ChangeSpec) : _root_.Go.OpenSpec := { _root_.Go.OpenSpec.ofChange s with cond := some uptoSmall }

/-- 'annalistlaw15.PagesPut', WHERE WHAT IT READS IS OF BULK AT MOST 1048576: true; the input reads as it did. -/
def pagesPutUptoRow : OpenClaim := { program := "ytfnppmiapjhjlaa", sum := "befce92064bbbff452d4405bd4a2b03344c2cee1158ad01c59a383af009377e2", func := "annalist/annalistlaw15.PagesPut", spec := "pagesPut", inPlace := ["internal/abi.NoEscape", "internal/bytealg.MakeNoZero"], apart := false, narrowed := true }
def PagesPutUptoSaid : Prop := pagesPutUptoRow.holds Try.pinned (OpenSpec.upto pagesPutSpec)

/-- 'annalistlaw15.PagesMay', WHERE WHAT IT READS IS OF BULK AT MOST 1048576: true; the input reads as it did. -/
def pagesMayUptoRow : OpenClaim := { program := "ytfnppmiapjhjlaa", sum := "befce92064bbbff452d4405bd4a2b03344c2cee1158ad01c59a383af009377e2", func := "annalist/annalistlaw15.PagesMay", spec := "pagesMay", inPlace := ["internal/abi.NoEscape", "internal/bytealg.MakeNoZero"], apart := false, narrowed := true }
def PagesMayUptoSaid : Prop := pagesMayUptoRow.holds Try.pinned (OpenSpec.upto pagesMaySpec)

/-- 'annalistlaw15.PagesSpoilt', WHERE WHAT IT READS IS OF BULK AT MOST 1048576: true; the input reads as it did. -/
def pagesSpoiltUptoRow : OpenClaim := { program := "ytfnppmiapjhjlaa", sum := "befce92064bbbff452d4405bd4a2b03344c2cee1158ad01c59a383af009377e2", func := "annalist/annalistlaw15.PagesSpoilt", spec := "pagesSpoilt", inPlace := ["internal/abi.NoEscape", "internal/bytealg.MakeNoZero"], apart := false, narrowed := true }
def PagesSpoiltUptoSaid : Prop := pagesSpoiltUptoRow.holds Try.pinned (OpenSpec.upto pagesSpoiltSpec)

/-- 'annalistlaw15.PagesHas', WHERE WHAT IT READS IS OF BULK AT MOST 1048576: true; the input reads as it did. -/
def pagesHasUptoRow : OpenClaim := { program := "ytfnppmiapjhjlaa", sum := "befce92064bbbff452d4405bd4a2b03344c2cee1158ad01c59a383af009377e2", func := "annalist/annalistlaw15.PagesHas", spec := "pagesHas", inPlace := ["internal/abi.NoEscape", "internal/bytealg.MakeNoZero"], unfollowed := true, recurses := true, apart := false, narrowed := true }
def PagesHasUptoSaid : Prop := pagesHasUptoRow.holds Try.pinned (OpenSpec.upto pagesHasSpec)

/-- 'annalistlaw15.PagesKeep', WHERE WHAT IT READS IS OF BULK AT MOST 1048576: true; the input reads as it did. -/
def pagesKeepUptoRow : OpenClaim := { program := "ytfnppmiapjhjlaa", sum := "befce92064bbbff452d4405bd4a2b03344c2cee1158ad01c59a383af009377e2", func := "annalist/annalistlaw15.PagesKeep", spec := "pagesKeep", inPlace := ["internal/abi.NoEscape", "internal/bytealg.MakeNoZero"], unfollowed := true, recurses := true, apart := false, narrowed := true }
def PagesKeepUptoSaid : Prop := pagesKeepUptoRow.holds Try.pinned (OpenSpec.upto pagesKeepSpec)

/-- 'annalistlaw15.PagesNear', WHERE WHAT IT READS IS OF BULK AT MOST 1048576: true; the input reads as it did. -/
def pagesNearUptoRow : OpenClaim := { program := "ytfnppmiapjhjlaa", sum := "befce92064bbbff452d4405bd4a2b03344c2cee1158ad01c59a383af009377e2", func := "annalist/annalistlaw15.PagesNear", spec := "pagesNear", inPlace := ["internal/abi.NoEscape", "internal/bytealg.MakeNoZero"], unfollowed := true, recurses := true, apart := false, narrowed := true }
def PagesNearUptoSaid : Prop := pagesNearUptoRow.holds Try.pinned (OpenSpec.upto pagesNearSpec)

end Rows
end Go.Proofs.Ytfnppmiapjhjlaa
