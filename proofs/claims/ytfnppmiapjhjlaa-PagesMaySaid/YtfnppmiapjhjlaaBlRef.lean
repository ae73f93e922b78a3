/- The document's Has and Make. -/
import Derived.Test.YtfnppmiapjhjlaaBlProbe
import Derived.Test.YtfnppmiapjhjlaaBlRow
import Derived.Test.YtfnppmiapjhjlaaNumsMath
import Derived.Test.YtfnppmiapjhjlaaU64s
namespace Go.Proofs.Ytfnppmiapjhjlaa
open Go.RowKit
set_option linter.unusedVariables false

/-- What is asked up to a probe. -/
theorem asksTo_mem {g : Nat} {p b : Int} {i : Nat} (hi : i < nps p) : prb g (i : Nat) b ∈ asksL g p b := asksL_mem.2 ⟨i, hi, rfl⟩

theorem bit_low (c k : Nat) : (((c : Int) / 2 ^ k).tmod 2 == 0) = !c.testBit k := by
  have e : (c : Int) / 2 ^ k = ((c / 2 ^ k : Nat) : Int) := by rw [Int.natCast_ediv, Int.natCast_pow]; rfl
  have h := bit_shift (c := c) (k := k)
  rw [e]
  have e2 : ((c / 2 ^ k : Nat) : Int).tmod 2 = ((c / 2 ^ k % 2 : Nat) : Int) := (Int.ofNat_tmod _ 2).symm
  rw [e2]
  have hz2 := Nat.mod_lt (c / 2 ^ k) (by decide : 0 < 2)
  generalize c / 2 ^ k % 2 = z at *
  cases hb : c.testBit k with
  | true =>
    rw [hb] at h
    have := h.2 rfl
    subst this
    rfl
  | false =>
    rw [hb] at h
    exact beq_iff_eq.2 (by
      have hz1 : ¬ z = 1 := fun e => by have := h.1 e; cases this
      have hz : z = 0 := by omega
      rw [hz]; rfl)

end Go.Proofs.Ytfnppmiapjhjlaa
