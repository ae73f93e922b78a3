/-
  No cell of these rows narrows 'for every input' (looked for: loops, veiled, ifaces, maps, wideKeys, modest, calm, conditions, laid).
  DERIVED. THE GIVEN ROWS OF THIS SEAT. 4 by the template 'for every input the law returns true; each argument reads behind the call as it read before'; 0 by the template 'total and deterministic' (their statements: YtiaobmgafhcfnaaTotals.lean).
  GIVEN WITH THE SEED: the statements are not yours to turn. If you find one false, say at which input.
  Laid BY PROGRAM, IN A SANDBOX (cutbox-rows.mjs): the forced cells as the released guide's own fill.sh prints them over the translation 75c3d47865035d16… (all of the seat's roots in one cut). By AI agents, Wed Nov 11 2026. No macro, syntax, notation, axiom, sorry.
-/
import Derived.Test.YtiaobmgafhcfnaaChecked
import GoSem.Claim
import GoSem.ClaimJoined
import GoSem.ClaimMapViews
import Derived.JoinedTies
import Derived.KernelRfl
namespace Go.Proofs.Ytiaobmgafhcfnaa
/- THE CELL 'sum', in the pinned program and in every row, IS THE sha256 OF THE DUMP (.gsa) THAT YtiaobmgafhcfnaaProg.lean LOADS. Nothing in Lean hashes anything: it is a label: what it is worth is what the hold of that sum in a sandbox is worth. -/
noncomputable def Try.pinned : Pinned := { name := "ytiaobmgafhcfnaa", sum := "75c3d47865035d169754fc72f0c6bcc447bdbc0e048fc2d0b0d65449d3861ae6", checked := Try.checked }
namespace Rows
def none {H : Type} : Left H := { results := [], args := [] }

/-- 'annalistlaw16.MemtablePlays': WHATEVER THE INPUT: true; the input reads as it did. -/
def memtablePlaysSpec : ChangeSpec := { name := "memtablePlays", fn := fun _ => fun
  | [d] => { results := [.lit (.bool true)], args := [d] }
  | _ => none }
def memtablePlaysRow : OpenClaim := { program := "ytiaobmgafhcfnaa", sum := "75c3d47865035d169754fc72f0c6bcc447bdbc0e048fc2d0b0d65449d3861ae6", func := "annalist/annalistlaw16.MemtablePlays", spec := "memtablePlays", unfollowed := true, recurses := true, apart := false }
def MemtablePlaysSaid : Prop := memtablePlaysRow.holds Try.pinned (OpenSpec.ofChange memtablePlaysSpec)

/-- ITS FALSE NEIGHBOUR: 'it returns false'. Refute it at one input. -/
def memtablePlaysWrong : ChangeSpec := { name := "memtablePlays", fn := fun _ => fun
  | [d] => { results := [.lit (.bool false)], args := [d] }
  | _ => none }
def MemtablePlaysWrongFalsely : Prop := memtablePlaysRow.holds Try.pinned (OpenSpec.ofChange memtablePlaysWrong)

/-- 'annalistlaw16.MemtableNone': WHATEVER THE INPUT: true; the input reads as it did. -/
def memtableNoneSpec : ChangeSpec := { name := "memtableNone", fn := fun _ => fun
  | [d] => { results := [.lit (.bool true)], args := [d] }
  | _ => none }
def memtableNoneRow : OpenClaim := { program := "ytiaobmgafhcfnaa", sum := "75c3d47865035d169754fc72f0c6bcc447bdbc0e048fc2d0b0d65449d3861ae6", func := "annalist/annalistlaw16.MemtableNone", spec := "memtableNone", unfollowed := true, recurses := true, apart := false }
def MemtableNoneSaid : Prop := memtableNoneRow.holds Try.pinned (OpenSpec.ofChange memtableNoneSpec)

/-- ITS FALSE NEIGHBOUR: 'it returns false'. Refute it at one input. -/
def memtableNoneWrong : ChangeSpec := { name := "memtableNone", fn := fun _ => fun
  | [d] => { results := [.lit (.bool false)], args := [d] }
  | _ => none }
def MemtableNoneWrongFalsely : Prop := memtableNoneRow.holds Try.pinned (OpenSpec.ofChange memtableNoneWrong)

/-- 'annalistlaw16.MemtableOrder': WHATEVER THE INPUT: true; the input reads as it did. -/
def memtableOrderSpec : ChangeSpec := { name := "memtableOrder", fn := fun _ => fun
  | [d1, d2] => { results := [.lit (.bool true)], args := [d1, d2] }
  | _ => none }
def memtableOrderRow : OpenClaim := { program := "ytiaobmgafhcfnaa", sum := "75c3d47865035d169754fc72f0c6bcc447bdbc0e048fc2d0b0d65449d3861ae6", func := "annalist/annalistlaw16.MemtableOrder", spec := "memtableOrder", unfollowed := true, recurses := true, apart := false }
def MemtableOrderSaid : Prop := memtableOrderRow.holds Try.pinned (OpenSpec.ofChange memtableOrderSpec)

/-- ITS FALSE NEIGHBOUR: 'it returns false'. Refute it at one input. -/
def memtableOrderWrong : ChangeSpec := { name := "memtableOrder", fn := fun _ => fun
  | [d1, d2] => { results := [.lit (.bool false)], args := [d1, d2] }
  | _ => none }
def MemtableOrderWrongFalsely : Prop := memtableOrderRow.holds Try.pinned (OpenSpec.ofChange memtableOrderWrong)

/-- 'annalistlaw16.MemtableParts': WHATEVER THE INPUT: true; the input reads as it did. -/
def memtablePartsSpec : ChangeSpec := { name := "memtableParts", fn := fun _ => fun
  | [d1, d2, d3] => { results := [.lit (.bool true)], args := [d1, d2, d3] }
  | _ => none }
def memtablePartsRow : OpenClaim := { program := "ytiaobmgafhcfnaa", sum := "75c3d47865035d169754fc72f0c6bcc447bdbc0e048fc2d0b0d65449d3861ae6", func := "annalist/annalistlaw16.MemtableParts", spec := "memtableParts", unfollowed := true, recurses := true, apart := false }
def MemtablePartsSaid : Prop := memtablePartsRow.holds Try.pinned (OpenSpec.ofChange memtablePartsSpec)

/-- ITS FALSE NEIGHBOUR: 'it returns false'. Refute it at one input. -/
def memtablePartsWrong : ChangeSpec := { name := "memtableParts", fn := fun _ => fun
  | [d1, d2, d3] => { results := [.lit (.bool false)], args := [d1, d2, d3] }
  | _ => none }
def MemtablePartsWrongFalsely : Prop := memtablePartsRow.holds Try.pinned (OpenSpec.ofChange memtablePartsWrong)

/- THE SECOND FORM. 'bulk': how many values and letters a reading holds, each counted each time it is reached (what is shared counts as often as it is met; a slice's spare places count too). A statement '..UptoSaid' is the law's where the arguments, and the package variables that the reading takes, are together of bulk at most 1048576: NARROWER than '..Said'. Prove '..Said' where nothing that the law and all that it calls make is longer than what came in: it says more and counts as full. Else prove '..UptoSaid'. A law counts once. -/
mutual
def uptoBulk {H : Type} : DataW H → Nat
  | .lit (.string bytes) => bytes.length + 1
  | .lit _ => 1
  | .nil => 1
  | .ptr d => uptoBulk d + 1
  | .slice elems spare => uptoBulkAll elems + uptoBulkAll spare + 1
  | .agg parts => uptoBulkAll parts + 1
  | .iface _ d => uptoBulk d + 1
  | .map entries => uptoBulkEntries entries + 1
  | .held _ => 1
def uptoBulkAll {H : Type} : List (DataW H) → Nat
  | [] => 0
  | d :: r => uptoBulk d + uptoBulkAll r
def uptoBulkEntries {H : Type} : List (Lit × DataW H) → Nat
  | [] => 0
  | x :: r => uptoBulkEntry x + uptoBulkEntries r
def uptoBulkEntry {H : Type} : Lit × DataW H → Nat
  | (.string bytes, d) => bytes.length + uptoBulk d + 1
  | (_, d) => uptoBulk d + 1
 end
def uptoSmall : (H : Type) → List (DataW H) → Bool := fun _ ds => decide (uptoBulkAll ds ≤ 1048576)
def OpenSpec.upto (s : _root_.Go.ChangeSpec) : _root_.Go.OpenSpec := { _root_.Go.OpenSpec.ofChange s with cond := some uptoSmall }

/-- 'annalistlaw16.MemtablePlays', WHERE WHAT IT READS IS OF BULK AT MOST 1048576: true; the input reads as it did. -/
def memtablePlaysUptoRow : OpenClaim := { program := "ytiaobmgafhcfnaa", sum := "75c3d47865035d169754fc72f0c6bcc447bdbc0e048fc2d0b0d65449d3861ae6", func := "annalist/annalistlaw16.MemtablePlays", spec := "memtablePlays", unfollowed := true, recurses := true, apart := false, narrowed := true }
def MemtablePlaysUptoSaid : Prop := memtablePlaysUptoRow.holds Try.pinned (OpenSpec.upto memtablePlaysSpec)

/-- 'annalistlaw16.MemtableNone', WHERE WHAT IT READS IS OF BULK AT MOST 1048576: true; the input reads as it did. -/
def memtableNoneUptoRow : OpenClaim := { program := "ytiaobmgafhcfnaa", sum := "75c3d47865035d169754fc72f0c6bcc447bdbc0e048fc2d0b0d65449d3861ae6", func := "annalist/annalistlaw16.MemtableNone", spec := "memtableNone", unfollowed := true, recurses := true, apart := false, narrowed := true }
def MemtableNoneUptoSaid : Prop := memtableNoneUptoRow.holds Try.pinned (OpenSpec.upto memtableNoneSpec)

/-- 'annalistlaw16.MemtableOrder', WHERE WHAT IT READS IS OF BULK AT MOST 1048576: true; the input reads as it did. -/
def memtableOrderUptoRow : OpenClaim := { program := "ytiaobmgafhcfnaa", sum := "75c3d47865035d169754fc72f0c6bcc447bdbc0e048fc2d0b0d65449d3861ae6", func := "annalist/annalistlaw16.MemtableOrder", spec := "memtableOrder", unfollowed := true, recurses := true, apart := false, narrowed := true }
def MemtableOrderUptoSaid : Prop := memtableOrderUptoRow.holds Try.pinned (OpenSpec.upto memtableOrderSpec)

/-- 'annalistlaw16.MemtableParts', WHERE WHAT IT READS IS OF BULK AT MOST 1048576: true; the input reads as it did. -/
def memtablePartsUptoRow : OpenClaim := { program := "ytiaobmgafhcfnaa", sum := "75c3d47865035d169754fc72f0c6bcc447bdbc0e048fc2d0b0d65449d3861ae6", func := "annalist/annalistlaw16.MemtableParts", spec := "memtableParts", unfollowed := true, recurses := true, apart := false, narrowed := true }
def MemtablePartsUptoSaid : Prop := memtablePartsUptoRow.holds Try.pinned (OpenSpec.upto memtablePartsSpec)

end Rows
end Go.Proofs.Ytiaobmgafhcfnaa
