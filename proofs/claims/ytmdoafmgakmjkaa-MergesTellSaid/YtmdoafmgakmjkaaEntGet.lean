/- The entry of bytes: the program's. -/
import Derived.Test.YtmdoafmgakmjkaaEntOne
namespace Go.Proofs.Ytmdoafmgakmjkaa
open Go.RowKit
set_option linter.unusedVariables false

theorem Blok.below {w w' : World} {g : Nat} {t : TypeId} {cs : Array Value} (h : Blok w g t cs) (hb : Below w.heap.size w w') : Blok w' g t cs := (hb.block g h.lt).trans h
/-- An entry in memory. -/
abbrev EnAt (w : World) (g : Nat) (h : Nat) (v p : Int) : Prop := Blok w g 30 #[.int .u64 (h : Nat), .int .i64 v, .int .i64 p]
theorem EnAt.put0 {w : World} {g h : Nat} {v p : Int} (H : EnAt w g h v p) (h' : Nat) : EnAt (w.setCell ⟨g, 0, none⟩ (.int .u64 (h' : Nat))) g h' v p := Blok.put H 0 _
theorem EnAt.put1 {w : World} {g h : Nat} {v p : Int} (H : EnAt w g h v p) (v' : Int) : EnAt (w.setCell ⟨g, 1, none⟩ (.int .i64 v')) g h v' p := Blok.put H 1 _
theorem EnAt.put2 {w : World} {g h : Nat} {v p : Int} (H : EnAt w g h v p) (p' : Int) : EnAt (w.setCell ⟨g, 2, none⟩ (.int .i64 p')) g h v p' := Blok.put H 2 _
theorem EnAt.facts {w : World} {g h : Nat} {v p : Int} (H : EnAt w g h v p) : w.cell? ⟨g, 0, none⟩ = some (.int .u64 (h : Nat)) ∧ w.cell? ⟨g, 1, none⟩ = some (.int .i64 v) ∧ w.cell? ⟨g, 2, none⟩ = some (.int .i64 p) ∧ w.frozen? ⟨g, 0, none⟩ = false ∧ w.frozen? ⟨g, 1, none⟩ = false ∧ w.frozen? ⟨g, 2, none⟩ = false :=
  ⟨Blok.cell H 0, Blok.cell H 1, Blok.cell H 2, Blok.frozen H 0, Blok.frozen H 1, Blok.frozen H 2⟩
theorem low3 {w w2 : World} {g : Nat} (h : Below w.heap.size w w2) (hg : w.heap.size ≤ g) (a b c : Value) :
    Below w.heap.size w (((w2.setCell ⟨g, 0, none⟩ a).setCell ⟨g, 1, none⟩ b).setCell ⟨g, 2, none⟩ c) := ((h.setCell hg _).setCell hg _).setCell hg _

theorem wrap_pos (n : Nat) (h : n < 18446744073709551616) : (0 ≤ IntKind.i64.wrap (n : Int) ↔ n < 9223372036854775808) ∧ (n < 9223372036854775808 → IntKind.i64.wrap (n : Int) = n) := by
  rw [IntKind.wrap_i64]
  constructor
  · omega
  · intro; omega
theorem may_got {s : ByteArray} (hz : s.size = 24) : mayE ⟨getS (s.extract 0 8), IntKind.i64.wrap (enV s : Nat), IntKind.i64.wrap (enP s : Nat)⟩ = enOk s ∧ (enOk s = true → enG s = ⟨getS (s.extract 0 8), IntKind.i64.wrap (enV s : Nat), IntKind.i64.wrap (enP s : Nat)⟩) := by
  have h1 := wrap_pos (enV s) (getS_lt _)
  have h2 := wrap_pos (enP s) (getS_lt _)
  constructor
  · unfold mayE enOk
    rw [decide_eq_decide]
    simp only
    rw [h1.1, h2.1]
    exact ⟨fun h => ⟨hz, h⟩, fun h => h.2⟩
  · intro h
    have h3 := of_decide_eq_true h
    unfold enG
    rw [if_pos h, h1.2 h3.2.1, h2.2 h3.2.2]

end Go.Proofs.Ytmdoafmgakmjkaa
