/- A number at a place: the document's. -/
import Derived.Test.YtcfidpjhemjbjaaMfMath
import Derived.Test.YtcfidpjhemjbjaaNumsGetRef
namespace Go.Proofs.Ytcfidpjhemjbjaa
open Go.RowKit
set_option linter.unusedVariables false
set_option maxRecDepth 100000

/-- The number of so many bytes; 0 behind the end. -/
def numD (s : ByteArray) (p n : Nat) : Nat := if s.size < p + n then 0 else num s p n
theorem numD_yes {s : ByteArray} {p n : Nat} (h : p + n ≤ s.size) : numD s p n = num s p n := by unfold numD; rw [if_neg (by omega)]
theorem numD_no {s : ByteArray} {p n : Nat} (h : s.size < p + n) : numD s p n = 0 := by unfold numD; rw [if_pos h]
def NumEnd (w : World) (x : Nat) (e : Ending) (w' : World) : Prop := e = .returned (.int .u64 (x : Nat)) ∧ w' = w
theorem number_any (s : ByteArray) (p n : Nat) (w : World) (hs : s.size ≤ 100000) (hp1 : 1 ≤ p) (hp : p ≤ 200000) (hn1 : 1 ≤ n) (hn : n ≤ 8) :
    Calls Try.prog 27 #[.string s, .int .i64 (p : Nat), .int .i64 (n : Nat)] w (NumEnd w (numD s p n)) := by
  obtain ⟨z, hz⟩ : ∃ z, z = s.size := ⟨_, rfl⟩
  by_cases h : z < p + n
  · rw [numD_no (by omega)]
    unfold NumEnd
    have q1 : (z : Int) < (p : Int) + (n : Int) := by omega
    subst hz
    go_enter Try.func27, Try.ntmps27
    go_wp2
    go_ret
    exact ⟨rfl, rfl⟩
  · rw [numD_yes (by omega)]
    have HG := Lib.hid (get_ref (s.extract p (p + n)) w (by rw [ByteArray.size_extract]; unfold maxLen; omega))
    unfold NumEnd num
    have q1 : ¬ (z : Int) < (p : Int) + (n : Int) := by omega
    have q2 : p + n ≤ z := by omega
    generalize getS (s.extract p (p + n)) = x at *
    subst hz
    go_enter Try.func27, Try.ntmps27
    go_wp2_with fail
    refine HG.out.mono ?_
    rintro e w' ⟨rfl, rfl⟩
    go_wp2
    go_ret
    exact ⟨rfl, rfl⟩
end Go.Proofs.Ytcfidpjhemjbjaa
