/-
  No cell of these rows narrows 'for every input' (looked for: loops, veiled, ifaces, maps, wideKeys, modest, calm, conditions, laid).
  DERIVED. THE GIVEN ROWS OF THIS SEAT. 7 by the template 'for every input the law returns true; each argument reads behind the call as it read before'; 0 by the template 'total and deterministic' (their statements: YtabalpcgnkjelaaTotals.lean).
  GIVEN WITH THE SEED: the statements are not yours to turn. If you find one false, say at which input.
  Laid BY PROGRAM, IN A SANDBOX (cutbox-rows.mjs): the forced cells as the released guide's own fill.sh prints them over the translation f314c595623cd0f3… (all of the seat's roots in one cut). By AI agents, Wed Nov 11 2026. No macro, syntax, notation, axiom, sorry.
-/
import Derived.Test.YtabalpcgnkjelaaChecked
import GoSem.Claim
import GoSem.ClaimJoined
import GoSem.ClaimMapViews
import Derived.JoinedTies
import Derived.KernelRfl
namespace Go.Proofs.Ytabalpcgnkjelaa
/- THE CELL 'sum', in the pinned program and in every row, IS THE sha256 OF THE DUMP (.gsa) THAT YtabalpcgnkjelaaProg.lean LOADS. Nothing in Lean hashes anything: it is a label: what it is worth is what the hold of that sum in a sandbox is worth. -/
noncomputable def Try.pinned : Pinned := { name := "ytabalpcgnkjelaa", sum := "f314c595623cd0f372902c3569f9cbb79b1df5ab681b6122b1f8c74393349aa2", checked := Try.checked }
namespace Rows
def none {H : Type} : Left H := { results := [], args := [] }

/-- 'annalistlaw08.RecordsPut': WHATEVER THE INPUT: true; the input reads as it did. -/
def recordsPutSpec : ChangeSpec := { name := "recordsPut", fn := fun _ => fun
  | [d] => { results := [.lit (.bool true)], args := [d] }
  | _ => none }
def recordsPutRow : OpenClaim := { program := "ytabalpcgnkjelaa", sum := "f314c595623cd0f372902c3569f9cbb79b1df5ab681b6122b1f8c74393349aa2", func := "annalist/annalistlaw08.RecordsPut", spec := "recordsPut", unfollowed := true, recurses := true, apart := false }
def RecordsPutSaid : Prop := recordsPutRow.holds Try.pinned (OpenSpec.ofChange recordsPutSpec)

/-- ITS FALSE NEIGHBOUR: 'it returns false'. Refute it at one input. -/
def recordsPutWrong : ChangeSpec := { name := "recordsPut", fn := fun _ => fun
  | [d] => { results := [.lit (.bool false)], args := [d] }
  | _ => none }
def RecordsPutWrongFalsely : Prop := recordsPutRow.holds Try.pinned (OpenSpec.ofChange recordsPutWrong)

/-- 'annalistlaw08.RecordsGet': WHATEVER THE INPUT: true; the input reads as it did. -/
def recordsGetSpec : ChangeSpec := { name := "recordsGet", fn := fun _ => fun
  | [d1, d2] => { results := [.lit (.bool true)], args := [d1, d2] }
  | _ => none }
def recordsGetRow : OpenClaim := { program := "ytabalpcgnkjelaa", sum := "f314c595623cd0f372902c3569f9cbb79b1df5ab681b6122b1f8c74393349aa2", func := "annalist/annalistlaw08.RecordsGet", spec := "recordsGet", unfollowed := true, recurses := true, apart := false }
def RecordsGetSaid : Prop := recordsGetRow.holds Try.pinned (OpenSpec.ofChange recordsGetSpec)

/-- ITS FALSE NEIGHBOUR: 'it returns false'. Refute it at one input. -/
def recordsGetWrong : ChangeSpec := { name := "recordsGet", fn := fun _ => fun
  | [d1, d2] => { results := [.lit (.bool false)], args := [d1, d2] }
  | _ => none }
def RecordsGetWrongFalsely : Prop := recordsGetRow.holds Try.pinned (OpenSpec.ofChange recordsGetWrong)

/-- 'annalistlaw08.RecordsRow': WHATEVER THE INPUT: true; the input reads as it did. -/
def recordsRowSpec : ChangeSpec := { name := "recordsRow", fn := fun _ => fun
  | [d1, d2, d3] => { results := [.lit (.bool true)], args := [d1, d2, d3] }
  | _ => none }
def recordsRowRow : OpenClaim := { program := "ytabalpcgnkjelaa", sum := "f314c595623cd0f372902c3569f9cbb79b1df5ab681b6122b1f8c74393349aa2", func := "annalist/annalistlaw08.RecordsRow", spec := "recordsRow", unfollowed := true, recurses := true, apart := false }
def RecordsRowSaid : Prop := recordsRowRow.holds Try.pinned (OpenSpec.ofChange recordsRowSpec)

/-- ITS FALSE NEIGHBOUR: 'it returns false'. Refute it at one input. -/
def recordsRowWrong : ChangeSpec := { name := "recordsRow", fn := fun _ => fun
  | [d1, d2, d3] => { results := [.lit (.bool false)], args := [d1, d2, d3] }
  | _ => none }
def RecordsRowWrongFalsely : Prop := recordsRowRow.holds Try.pinned (OpenSpec.ofChange recordsRowWrong)

/-- 'annalistlaw08.RecordsBack': WHATEVER THE INPUT: true; the input reads as it did. -/
def recordsBackSpec : ChangeSpec := { name := "recordsBack", fn := fun _ => fun
  | [d1, d2, d3] => { results := [.lit (.bool true)], args := [d1, d2, d3] }
  | _ => none }
def recordsBackRow : OpenClaim := { program := "ytabalpcgnkjelaa", sum := "f314c595623cd0f372902c3569f9cbb79b1df5ab681b6122b1f8c74393349aa2", func := "annalist/annalistlaw08.RecordsBack", spec := "recordsBack", unfollowed := true, recurses := true, apart := false }
def RecordsBackSaid : Prop := recordsBackRow.holds Try.pinned (OpenSpec.ofChange recordsBackSpec)

/-- ITS FALSE NEIGHBOUR: 'it returns false'. Refute it at one input. -/
def recordsBackWrong : ChangeSpec := { name := "recordsBack", fn := fun _ => fun
  | [d1, d2, d3] => { results := [.lit (.bool false)], args := [d1, d2, d3] }
  | _ => none }
def RecordsBackWrongFalsely : Prop := recordsBackRow.holds Try.pinned (OpenSpec.ofChange recordsBackWrong)

/-- 'annalistlaw08.RecordsTorn': WHATEVER THE INPUT: true; the input reads as it did. -/
def recordsTornSpec : ChangeSpec := { name := "recordsTorn", fn := fun _ => fun
  | [d1, d2, d3] => { results := [.lit (.bool true)], args := [d1, d2, d3] }
  | _ => none }
def recordsTornRow : OpenClaim := { program := "ytabalpcgnkjelaa", sum := "f314c595623cd0f372902c3569f9cbb79b1df5ab681b6122b1f8c74393349aa2", func := "annalist/annalistlaw08.RecordsTorn", spec := "recordsTorn", unfollowed := true, recurses := true, apart := false }
def RecordsTornSaid : Prop := recordsTornRow.holds Try.pinned (OpenSpec.ofChange recordsTornSpec)

/-- ITS FALSE NEIGHBOUR: 'it returns false'. Refute it at one input. -/
def recordsTornWrong : ChangeSpec := { name := "recordsTorn", fn := fun _ => fun
  | [d1, d2, d3] => { results := [.lit (.bool false)], args := [d1, d2, d3] }
  | _ => none }
def RecordsTornWrongFalsely : Prop := recordsTornRow.holds Try.pinned (OpenSpec.ofChange recordsTornWrong)

/-- 'annalistlaw08.RecordsTurned': WHATEVER THE INPUT: true; the input reads as it did. -/
def recordsTurnedSpec : ChangeSpec := { name := "recordsTurned", fn := fun _ => fun
  | [d1, d2, d3] => { results := [.lit (.bool true)], args := [d1, d2, d3] }
  | _ => none }
def recordsTurnedRow : OpenClaim := { program := "ytabalpcgnkjelaa", sum := "f314c595623cd0f372902c3569f9cbb79b1df5ab681b6122b1f8c74393349aa2", func := "annalist/annalistlaw08.RecordsTurned", spec := "recordsTurned", unfollowed := true, recurses := true, apart := false }
def RecordsTurnedSaid : Prop := recordsTurnedRow.holds Try.pinned (OpenSpec.ofChange recordsTurnedSpec)

/-- ITS FALSE NEIGHBOUR: 'it returns false'. Refute it at one input. -/
def recordsTurnedWrong : ChangeSpec := { name := "recordsTurned", fn := fun _ => fun
  | [d1, d2, d3] => { results := [.lit (.bool false)], args := [d1, d2, d3] }
  | _ => none }
def RecordsTurnedWrongFalsely : Prop := recordsTurnedRow.holds Try.pinned (OpenSpec.ofChange recordsTurnedWrong)

/-- 'annalistlaw08.RecordsEnds': WHATEVER THE INPUT: true; the input reads as it did. -/
def recordsEndsSpec : ChangeSpec := { name := "recordsEnds", fn := fun _ => fun
  | [d1, d2] => { results := [.lit (.bool true)], args := [d1, d2] }
  | _ => none }
def recordsEndsRow : OpenClaim := { program := "ytabalpcgnkjelaa", sum := "f314c595623cd0f372902c3569f9cbb79b1df5ab681b6122b1f8c74393349aa2", func := "annalist/annalistlaw08.RecordsEnds", spec := "recordsEnds", unfollowed := true, recurses := true, apart := false }
def RecordsEndsSaid : Prop := recordsEndsRow.holds Try.pinned (OpenSpec.ofChange recordsEndsSpec)

/-- ITS FALSE NEIGHBOUR: 'it returns false'. Refute it at one input. -/
def recordsEndsWrong : ChangeSpec := { name := "recordsEnds", fn := fun _ => fun
  | [d1, d2] => { results := [.lit (.bool false)], args := [d1, d2] }
  | _ => none }
def RecordsEndsWrongFalsely : Prop := recordsEndsRow.holds Try.pinned (OpenSpec.ofChange recordsEndsWrong)

/- THE SECOND FORM. 'bulk': how many values and letters a reading holds, each counted each time it is reached (what is shared counts as often as it is met; a slice's spare places count too). A statement '..UptoSaid' is the law's where the arguments, and the package variables that the reading takes, are together of bulk at most 1048576: NARROWER than '..Said'. Prove '..Said' where nothing that the law and all that it calls make is longer than what came in: it says more and counts as full. Else prove '..UptoSaid'. A law counts once. -/
mutual
def uptoBulk {H : Type} : DataW H → Nat
  | .lit (.string bytes) => bytes.length + 1
  | .lit _ => 1
  | .nil => 1
  | .ptr d => uptoBulk d + 1
  | .slice elems spare => uptoBulkAll elems + uptoBulkAll spare + 1
  | .agg parts => uptoBulkAll parts + 1
  | .iface _ d => uptoBulk d + 1
  | .map entries => uptoBulkEntries entries + 1
  | .held _ => 1
def uptoBulkAll {H : Type} : List (DataW H) → Nat
  | [] => 0
  | d :: r => uptoBulk d + uptoBulkAll r
def uptoBulkEntries {H : Type} : List (Lit × DataW H) → Nat
  | [] => 0
  | x :: r => uptoBulkEntry x + uptoBulkEntries r
def uptoBulkEntry {H : Type} : Lit × DataW H → Nat
  | (.string bytes, d) => bytes.length + uptoBulk d + 1
  | (_, d) => uptoBulk d + 1
 end
def uptoSmall : (H : Type) → List (DataW H) → Bool := fun _ ds => decide (uptoBulkAll ds ≤ 1048576)
def OpenSpec.upto (s : _root_.Go.ChangeSpec) : _root_.Go.OpenSpec := { _root_.Go.OpenSpec.ofChange s with cond := some uptoSmall }

/-- 'annalistlaw08.RecordsPut', WHERE WHAT IT READS IS OF BULK AT MOST 1048576: true; the input reads as it did. -/
def recordsPutUptoRow : OpenClaim := { program := "ytabalpcgnkjelaa", sum := "f314c595623cd0f372902c3569f9cbb79b1df5ab681b6122b1f8c74393349aa2", func := "annalist/annalistlaw08.RecordsPut", spec := "recordsPut", unfollowed := true, recurses := true, apart := false, narrowed := true }
def RecordsPutUptoSaid : Prop := recordsPutUptoRow.holds Try.pinned (OpenSpec.upto recordsPutSpec)

/-- 'annalistlaw08.RecordsGet', WHERE WHAT IT READS IS OF BULK AT MOST 1048576: true; the input reads as it did. -/
def recordsGetUptoRow : OpenClaim := { program := "ytabalpcgnkjelaa", sum := "f314c595623cd0f372902c3569f9cbb79b1df5ab681b6122b1f8c74393349aa2", func := "annalist/annalistlaw08.RecordsGet", spec := "recordsGet", unfollowed := true, recurses := true, apart := false, narrowed := true }
def RecordsGetUptoSaid : Prop := recordsGetUptoRow.holds Try.pinned (OpenSpec.upto recordsGetSpec)

/-- 'annalistlaw08.RecordsRow', WHERE WHAT IT READS IS OF BULK AT MOST 1048576: true; the input reads as it did. -/
def recordsRowUptoRow : OpenClaim := { program := "ytabalpcgnkjelaa", sum := "f314c595623cd0f372902c3569f9cbb79b1df5ab681b6122b1f8c74393349aa2", func := "annalist/annalistlaw08.RecordsRow", spec := "recordsRow", unfollowed := true, recurses := true, apart := false, narrowed := true }
def RecordsRowUptoSaid : Prop := recordsRowUptoRow.holds Try.pinned (OpenSpec.upto recordsRowSpec)

/-- 'annalistlaw08.RecordsBack', WHERE WHAT IT READS IS OF BULK AT MOST 1048576: true; the input reads as it did. -/
def recordsBackUptoRow : OpenClaim := { program := "ytabalpcgnkjelaa", sum := "f314c595623cd0f372902c3569f9cbb79b1df5ab681b6122b1f8c74393349aa2", func := "annalist/annalistlaw08.RecordsBack", spec := "recordsBack", unfollowed := true, recurses := true, apart := false, narrowed := true }
def RecordsBackUptoSaid : Prop := recordsBackUptoRow.holds Try.pinned (OpenSpec.upto recordsBackSpec)

/-- 'annalistlaw08.RecordsTorn', WHERE WHAT IT READS IS OF BULK AT MOST 1048576: true; the input reads as it did. -/
def recordsTornUptoRow : OpenClaim := { program := "ytabalpcgnkjelaa", sum := "f314c595623cd0f372902c3569f9cbb79b1df5ab681b6122b1f8c74393349aa2", func := "annalist/annalistlaw08.RecordsTorn", spec := "recordsTorn", unfollowed := true, recurses := true, apart := false, narrowed := true }
def RecordsTornUptoSaid : Prop := recordsTornUptoRow.holds Try.pinned (OpenSpec.upto recordsTornSpec)

/-- 'annalistlaw08.RecordsTurned', WHERE WHAT IT READS IS OF BULK AT MOST 1048576: true; the input reads as it did. -/
def recordsTurnedUptoRow : OpenClaim := { program := "ytabalpcgnkjelaa", sum := "f314c595623cd0f372902c3569f9cbb79b1df5ab681b6122b1f8c74393349aa2", func := "annalist/annalistlaw08.RecordsTurned", spec := "recordsTurned", unfollowed := true, recurses := true, apart := false, narrowed := true }
def RecordsTurnedUptoSaid : Prop := recordsTurnedUptoRow.holds Try.pinned (OpenSpec.upto recordsTurnedSpec)

/-- 'annalistlaw08.RecordsEnds', WHERE WHAT IT READS IS OF BULK AT MOST 1048576: true; the input reads as it did. -/
def recordsEndsUptoRow : OpenClaim := { program := "ytabalpcgnkjelaa", sum := "f314c595623cd0f372902c3569f9cbb79b1df5ab681b6122b1f8c74393349aa2", func := "annalist/annalistlaw08.RecordsEnds", spec := "recordsEnds", unfollowed := true, recurses := true, apart := false, narrowed := true }
def RecordsEndsUptoSaid : Prop := recordsEndsUptoRow.holds Try.pinned (OpenSpec.upto recordsEndsSpec)

end Rows
end Go.Proofs.Ytabalpcgnkjelaa
