/- A place, looked for by halves: the program's. -/
import Derived.Test.YtifhiiokgpbhmaaEntOne
import Derived.Test.YtifhiiokgpbhmaaEntSorted
import Derived.Shelf.Abstract
import Derived.WalkMore
namespace Go.Proofs.Ytifhiiokgpbhmaa
open Go.RowKit Go.Shelf
set_option linter.unusedVariables false

/-- A slice value, whichever it has; its elements' cells. -/
theorem EntsIn.form {w : World} {v : Value} {l : List EntS} (h : EntsIn w v l) : ∃ A off cap, v = .slice A l.length cap ∧ l.length ≤ maxLen ∧
    ∀ i x, l[i]? = some x → ∃ b, A = some ⟨b, off, none⟩ ∧ b < w.heap.size ∧ w.cell? ⟨b, off + i * 3, none⟩ = some (.int .u64 (x.h : Nat)) ∧ w.cell? ⟨b, off + i * 3 + 1, none⟩ = some (.int .i64 x.v) ∧ w.cell? ⟨b, off + i * 3 + 2, none⟩ = some (.int .i64 x.p) := by
  rcases h with ⟨rfl, a, c, rfl⟩ | ⟨b, off, cap, rfl, h2, h3, h4, h5⟩
  · exact ⟨a, 0, c, rfl, Nat.zero_le _, fun i x h => by simp at h⟩
  · exact ⟨some ⟨b, off, none⟩, off, cap, rfl, by omega, fun i x hx => ⟨b, rfl, h4, h5 i x hx 0 _ rfl, h5 i x hx 1 _ rfl, h5 i x hx 2 _ rfl⟩⟩
def FrontEnd (q : EntS → Bool) (l : List EntS) (w : World) (e : Ending) (w' : World) : Prop := ∃ k : Nat, k ≤ l.length ∧ e = .returned (.int .i64 (k : Nat)) ∧ (∀ K, K ≤ l.length → IsCut q l K → k = K) ∧ Below w.heap.size w w'
theorem half_at (a b : Nat) (h : a ≤ b) : ((b : Int) - (a : Int)).tdiv 2 = (((b - a) / 2 : Nat) : Int) := by
  have e : (b : Int) - (a : Int) = ((b - a : Nat) : Int) := by omega
  rw [e]
  rfl
theorem half_half (a b : Nat) (h : a ≤ b) : ((b - a : Nat) : Int) / 2 = (((b - a) / 2 : Nat) : Int) := rfl

end Go.Proofs.Ytifhiiokgpbhmaa
