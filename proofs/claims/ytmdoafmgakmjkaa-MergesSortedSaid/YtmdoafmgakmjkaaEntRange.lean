/- Range, Last, Sorted of entries: the program's. -/
import Derived.Test.YtmdoafmgakmjkaaEntAsk
namespace Go.Proofs.Ytmdoafmgakmjkaa
open Go.RowKit Go.Shelf
set_option linter.unusedVariables false
set_option maxRecDepth 100000

theorem ents_isnil (A : Option Addr) (n c : Nat) (w : World) : (binOp .eql 25 (.slice A n c) (.slice none 0 0)).run Try.prog w = .ok (.bool A.isNone) w := by
  have he := run_equal_slice_nil (P := Try.prog) w 25 30 A n c Try.underlying25
  simp only [binOp]
  simp [he]
/-- A list of a call's own. -/
def EntsOut (w : World) (l : List EntS) (e : Ending) (w' : World) : Prop := ∃ A c, e = .returned (.slice A l.length c) ∧ EntRow w' w.heap.size (.slice A l.length c) l ∧ Below w.heap.size w w'
theorem ent_cell {w : World} {A : Option Addr} {n c i : Nat} {l : List EntS} {x : EntS} (h : EntsIn w (.slice A n c) l) (hx : l[i]? = some x) : ∃ b off, A = some ⟨b, off, none⟩ ∧ n = l.length ∧ b < w.heap.size ∧ w.cell? ⟨b, off + i * 3, none⟩ = some (.int .u64 (x.h : Nat)) ∧ w.cell? ⟨b, off + i * 3 + 1, none⟩ = some (.int .i64 x.v) ∧ w.cell? ⟨b, off + i * 3 + 2, none⟩ = some (.int .i64 x.p) := by
  obtain ⟨A', off, cap, e, _, hc⟩ := h.form
  obtain ⟨rfl, rfl, rfl⟩ := Value.slice.inj e
  obtain ⟨b, e1, e2⟩ := hc i x hx
  exact ⟨b, off, e1, rfl, e2⟩

end Go.Proofs.Ytmdoafmgakmjkaa
