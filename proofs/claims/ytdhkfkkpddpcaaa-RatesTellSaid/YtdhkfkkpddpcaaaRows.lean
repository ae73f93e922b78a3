/-
  No cell of these rows narrows 'for every input' (looked for: loops, veiled, ifaces, maps, wideKeys, modest, calm, conditions, laid).
  DERIVED. THE GIVEN ROWS OF THIS SEAT. 3 by the template 'for every input the law returns true; each argument reads behind the call as it read before'; 0 by the template 'total and deterministic' (their statements: YtdhkfkkpddpcaaaTotals.lean).
  GIVEN WITH THE SEED: the statements are not yours to turn. If you find one false, say at which input.
  Laid BY PROGRAM, IN A SANDBOX (cutbox-rows.mjs): the forced cells as the released guide's own fill.sh prints them over the translation 261daa49f29335c3… (all of the seat's roots in one cut). By AI agents, Wed Nov 11 2026. No macro, syntax, notation, axiom, sorry.
-/
import Derived.Test.YtdhkfkkpddpcaaaChecked
import GoSem.Claim
import GoSem.ClaimJoined
import GoSem.ClaimMapViews
import Derived.JoinedTies
import Derived.KernelRfl
namespace Go.Proofs.Ytdhkfkkpddpcaaa
/- THE CELL 'sum', in the pinned program and in every row, IS THE sha256 OF THE DUMP (.gsa) THAT YtdhkfkkpddpcaaaProg.lean LOADS. Nothing in Lean hashes anything: it is a label: what it is worth is what the hold of that sum in a sandbox is worth. -/
noncomputable def Try.pinned : Pinned := { name := "ytdhkfkkpddpcaaa", sum := "261daa49f29335c38e3ba152fc282605a4a7d45e9c8dced90b6d7ff80f171cf0", checked := Try.checked }
namespace Rows
def none {H : Type} : Left H := { results := [], args := [] }

/-- 'annalistlaw05.RatesTell': WHATEVER THE INPUT: true; the input reads as it did. -/
def ratesTellSpec : ChangeSpec := { name := "ratesTell", fn := fun _ => fun
  | [d1, d2, d3] => { results := [.lit (.bool true)], args := [d1, d2, d3] }
  | _ => none }
def ratesTellRow : OpenClaim := { program := "ytdhkfkkpddpcaaa", sum := "261daa49f29335c38e3ba152fc282605a4a7d45e9c8dced90b6d7ff80f171cf0", func := "annalist/annalistlaw05.RatesTell", spec := "ratesTell", inPlace := ["math.Float64frombits"], apart := false }
def RatesTellSaid : Prop := ratesTellRow.holds Try.pinned (OpenSpec.ofChange ratesTellSpec)

/-- ITS FALSE NEIGHBOUR: 'it returns false'. Refute it at one input. -/
def ratesTellWrong : ChangeSpec := { name := "ratesTell", fn := fun _ => fun
  | [d1, d2, d3] => { results := [.lit (.bool false)], args := [d1, d2, d3] }
  | _ => none }
def RatesTellWrongFalsely : Prop := ratesTellRow.holds Try.pinned (OpenSpec.ofChange ratesTellWrong)

/-- 'annalistlaw05.RatesFall': WHATEVER THE INPUT: true; the input reads as it did. -/
def ratesFallSpec : ChangeSpec := { name := "ratesFall", fn := fun _ => fun
  | [d1, d2] => { results := [.lit (.bool true)], args := [d1, d2] }
  | _ => none }
def ratesFallRow : OpenClaim := { program := "ytdhkfkkpddpcaaa", sum := "261daa49f29335c38e3ba152fc282605a4a7d45e9c8dced90b6d7ff80f171cf0", func := "annalist/annalistlaw05.RatesFall", spec := "ratesFall", inPlace := ["math.Float64frombits"], apart := false }
def RatesFallSaid : Prop := ratesFallRow.holds Try.pinned (OpenSpec.ofChange ratesFallSpec)

/-- ITS FALSE NEIGHBOUR: 'it returns false'. Refute it at one input. -/
def ratesFallWrong : ChangeSpec := { name := "ratesFall", fn := fun _ => fun
  | [d1, d2] => { results := [.lit (.bool false)], args := [d1, d2] }
  | _ => none }
def RatesFallWrongFalsely : Prop := ratesFallRow.holds Try.pinned (OpenSpec.ofChange ratesFallWrong)

/-- 'annalistlaw05.RatesPages': WHATEVER THE INPUT: true; the input reads as it did. -/
def ratesPagesSpec : ChangeSpec := { name := "ratesPages", fn := fun _ => fun
  | [d1, d2] => { results := [.lit (.bool true)], args := [d1, d2] }
  | _ => none }
def ratesPagesRow : OpenClaim := { program := "ytdhkfkkpddpcaaa", sum := "261daa49f29335c38e3ba152fc282605a4a7d45e9c8dced90b6d7ff80f171cf0", func := "annalist/annalistlaw05.RatesPages", spec := "ratesPages", inPlace := ["math.Float64frombits"], apart := false }
def RatesPagesSaid : Prop := ratesPagesRow.holds Try.pinned (OpenSpec.ofChange ratesPagesSpec)

/-- ITS FALSE NEIGHBOUR: 'it returns false'. Refute it at one input. -/
def ratesPagesWrong : ChangeSpec := { name := "ratesPages", fn := fun _ => fun
  | [d1, d2] => { results := [.lit (.bool false)], args := [d1, d2] }
  | _ => none }
def RatesPagesWrongFalsely : Prop := ratesPagesRow.holds Try.pinned (OpenSpec.ofChange ratesPagesWrong)

/- THE SECOND FORM. 'bulk': how many values and letters a reading holds, each counted each time it is reached (what is shared counts as often as it is met; a slice's spare places count too). A statement '..UptoSaid' is the law's where the arguments, and the package variables that the reading takes, are together of bulk at most 1048576: NARROWER than '..Said'. Prove '..Said' where nothing that the law and all that it calls make is longer than what came in: it says more and counts as full. Else prove '..UptoSaid'. A law counts once. -/
mutual
def uptoBulk {H : Type} : DataW H → Nat
  | .lit (.string bytes) => bytes.length + 1
  | .lit _ => 1
  | .nil => 1
  | .ptr d => uptoBulk d + 1
  | .slice elems spare => uptoBulkAll elems + uptoBulkAll spare + 1
  | .agg parts => uptoBulkAll parts + 1
  | .iface _ d => uptoBulk d + 1
  | .map entries => uptoBulkEntries entries + 1
  | .held _ => 1
def uptoBulkAll {H : Type} : List (DataW H) → Nat
  | [] => 0
  | d :: r => uptoBulk d + uptoBulkAll r
def uptoBulkEntries {H : Type} : List (Lit × DataW H) → Nat
  | [] => 0
  | x :: r => uptoBulkEntry x + uptoBulkEntries r
def uptoBulkEntry {H : Type} : Lit × DataW H → Nat
  | (.string bytes, d) => bytes.length + uptoBulk d + 1
  | (_, d) => uptoBulk d + 1
 end
def uptoSmall : (H : Type) → List (DataW H) → Bool := fun _ ds => decide (uptoBulkAll ds ≤ 1048576)
def OpenSpec.upto (s : _root_.Go.ChangeSpec) : _root_.Go.OpenSpec := { _root_.Go.OpenSpec.ofChange s with cond := some uptoSmall }

/-- 'annalistlaw05.RatesTell', WHERE WHAT IT READS IS OF BULK AT MOST 1048576: true; the input reads as it did. -/
def ratesTellUptoRow : OpenClaim := { program := "ytdhkfkkpddpcaaa", sum := "261daa49f29335c38e3ba152fc282605a4a7d45e9c8dced90b6d7ff80f171cf0", func := "annalist/annalistlaw05.RatesTell", spec := "ratesTell", inPlace := ["math.Float64frombits"], apart := false, narrowed := true }
def RatesTellUptoSaid : Prop := ratesTellUptoRow.holds Try.pinned (OpenSpec.upto ratesTellSpec)

/-- 'annalistlaw05.RatesFall', WHERE WHAT IT READS IS OF BULK AT MOST 1048576: true; the input reads as it did. -/
def ratesFallUptoRow : OpenClaim := { program := "ytdhkfkkpddpcaaa", sum := "261daa49f29335c38e3ba152fc282605a4a7d45e9c8dced90b6d7ff80f171cf0", func := "annalist/annalistlaw05.RatesFall", spec := "ratesFall", inPlace := ["math.Float64frombits"], apart := false, narrowed := true }
def RatesFallUptoSaid : Prop := ratesFallUptoRow.holds Try.pinned (OpenSpec.upto ratesFallSpec)

/-- 'annalistlaw05.RatesPages', WHERE WHAT IT READS IS OF BULK AT MOST 1048576: true; the input reads as it did. -/
def ratesPagesUptoRow : OpenClaim := { program := "ytdhkfkkpddpcaaa", sum := "261daa49f29335c38e3ba152fc282605a4a7d45e9c8dced90b6d7ff80f171cf0", func := "annalist/annalistlaw05.RatesPages", spec := "ratesPages", inPlace := ["math.Float64frombits"], apart := false, narrowed := true }
def RatesPagesUptoSaid : Prop := ratesPagesUptoRow.holds Try.pinned (OpenSpec.upto ratesPagesSpec)

end Rows
end Go.Proofs.Ytdhkfkkpddpcaaa
