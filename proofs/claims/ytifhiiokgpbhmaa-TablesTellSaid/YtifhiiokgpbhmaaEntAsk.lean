/- Search, Range, Last of entries: the program's. -/
import Derived.Test.YtifhiiokgpbhmaaEntList
import Derived.Test.YtifhiiokgpbhmaaEntGet
namespace Go.Proofs.Ytifhiiokgpbhmaa
open Go.RowKit Go.Shelf
set_option linter.unusedVariables false

def thruE (l : List EntS) (h : Nat) (v : Int) : Nat := l.countP (thruQ h v)
theorem search_cut {l : List EntS} (hr : RiseE l) (h : Nat) (v : Int) : IsCut (srchQ h v) l (searchE l h v) := cut_count (srch_down h v) hr
theorem thru_cut {l : List EntS} (hr : RiseE l) (h : Nat) (v : Int) : IsCut (thruQ h v) l (thruE l h v) := cut_count (thru_down h v) hr
theorem countP_le (q : EntS → Bool) (l : List EntS) : l.countP q ≤ l.length := List.countP_le_length
theorem srch_less {x : EntS} {h : Nat} {v : Int} (hx : EntOk x) : lessE x ⟨h, v, -9223372036854775808⟩ = srchQ h v x := by
  unfold lessE srchQ
  rw [decide_eq_decide]
  have := hx.p0
  simp only
  omega
theorem thru_less {x : EntS} {h : Nat} {v : Int} (hx : EntOk x) : (!lessE ⟨h, v, 9223372036854775807⟩ x) = thruQ h v x := by
  unfold lessE thruQ
  rw [← decide_not, decide_eq_decide]
  have := hx.p1
  simp only
  omega

end Go.Proofs.Ytifhiiokgpbhmaa
