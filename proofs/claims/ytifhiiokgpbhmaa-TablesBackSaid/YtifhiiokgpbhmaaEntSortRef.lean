/- The document's Sort of entries. -/
import Derived.Test.YtifhiiokgpbhmaaEntSortStep
import Derived.Deep.CutBlock
import Derived.Deep.DeepCutAuto
import Derived.Deep.RegionHeldLaw
import Derived.Deep.DrawnRows
namespace Go.Proofs.Ytifhiiokgpbhmaa
open Go.RowKit Go.Shelf
set_option linter.unusedVariables false
attribute [local go_sem ↓] Go.wp_at_zero Go.wp_at_succ

def SortAt (w wr : World) (L : List EntS) (u : Value) : Prop := ∃ A c, u = .slice A L.length c ∧ EntRow wr w.heap.size (.slice A L.length c) L
theorem layE_new {L : List EntS} {x : EntS} (h : L[posE L x]? ≠ some x) : [] ++ L.take (posE L x) ++ [x] ++ L.drop (posE L x) = layEn L x := by
  unfold layEn
  rw [if_neg h, List.nil_append]
theorem layE_old {L : List EntS} {x : EntS} (h : L[posE L x]? = some x) : layEn L x = L := by
  unfold layEn
  rw [if_pos h]
theorem ebelow0 {w wo wd : World} (h : Below w.heap.size w wo) (k : Below wo.heap.size wo wd) : Below w.heap.size w wd := bj h k
end Go.Proofs.Ytifhiiokgpbhmaa
