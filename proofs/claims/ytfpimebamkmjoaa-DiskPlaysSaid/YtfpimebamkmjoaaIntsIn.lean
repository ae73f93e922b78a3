/- A slice of numbers, by its cells: also one that came in. -/
import Derived.Test.YtfpimebamkmjoaaDiskRefSet
namespace Go.Proofs.Ytfpimebamkmjoaa
open Go.RowKit
set_option linter.unusedVariables false

def IntsIn (w : World) (v : Value) (l : List Int) : Prop :=
  (l = [] ∧ ∃ a c, v = .slice a 0 c) ∨ ∃ b off cap, v = .slice (some ⟨b, off, none⟩) l.length cap ∧ l.length ≤ cap ∧ cap ≤ maxLen ∧ b < w.heap.size ∧ ∀ i x, l[i]? = some x → w.cell? ⟨b, off + i, none⟩ = some (.int .i64 x)
theorem IntsAt.in_ {w : World} {v : Value} {l : List Int} (h : IntsAt w v l) : IntsIn w v l := by
  rcases h with h | ⟨b, off, cap, cs, fr, h1, h2, h3, h4, h5⟩
  · exact Or.inl h
  · refine Or.inr ⟨b, off, cap, h1, h2, h3, ?_, fun i x hx => ?_⟩
    · rcases Nat.lt_or_ge b w.heap.size with c | c
      · exact c
      · rw [Array.getElem?_eq_none c] at h4; cases h4
    · rw [cell_of_row w b (off + i) cs _ fr h4]
      exact h5 i x hx
theorem IntsIn.touch {F : List Nat} {w w' : World} {v : Value} {l : List Int} (h : IntsIn w v l) (ht : Touch F w w') (hF : ∀ b, v.ownBlock = some b → b ∉ F) : IntsIn w' v l := by
  rcases h with h | ⟨b, off, cap, rfl, h2, h3, h4, h5⟩
  · exact Or.inl h
  · exact Or.inr ⟨b, off, cap, rfl, h2, h3, Nat.lt_of_lt_of_le h4 ht.size, fun i x hx => (ht.cell (p := ⟨b, off + i, none⟩) h4 (hF b rfl)).trans (h5 i x hx)⟩
theorem IntsIn.cell {w : World} {v : Value} {l : List Int} (h : IntsIn w v l) : ∃ A off cap, v = .slice A l.length cap ∧ l.length ≤ maxLen ∧ ∀ i x, l[i]? = some x → ∃ b, A = some ⟨b, off, none⟩ ∧ w.cell? ⟨b, off + i, none⟩ = some (.int .i64 x) := by
  rcases h with ⟨rfl, a, c, rfl⟩ | ⟨b, off, cap, h1, h2, h3, h4, h5⟩
  · exact ⟨a, 0, c, rfl, Nat.zero_le _, fun i x h => by simp at h⟩
  · exact ⟨some ⟨b, off, none⟩, off, cap, h1, by omega, fun i x hx => ⟨b, rfl, h5 i x hx⟩⟩
end Go.Proofs.Ytfpimebamkmjoaa
