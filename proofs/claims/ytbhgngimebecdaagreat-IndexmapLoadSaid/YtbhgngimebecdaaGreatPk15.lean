/- DiskRefRows -/
import Derived.Test.YtbhgngimebecdaaGreatPk04
import Derived.Test.YtbhgngimebecdaaGreatPk01
import Derived.Deep.DeepCutAuto
import Derived.Deep.RegionHeld3
import Derived.Maps.AppendAt
/- DiskRefRows -/
namespace Go.Proofs.YtbhgngimebecdaaGreat
open Go.RowKit
set_option linter.unusedVariables false

theorem fcells_one {l : List FileS} : ∀ u ∈ frow l, u.oneCell' = true := by
  intro u hu
  unfold frow at hu
  obtain ⟨f, _, hf⟩ := List.mem_flatMap.1 hu
  simp only [fcells, List.mem_cons, List.not_mem_nil, or_false] at hf
  rcases hf with rfl | rfl | rfl <;> rfl
end Go.Proofs.YtbhgngimebecdaaGreat
