/- nums.Read and the document's own Read: the text that stands ahead, and what is behind it. -/
import Derived.Test.YtnefofcofccmfaaNumsGet
namespace Go.Proofs.Ytnefofcofccmfaa
open Go.RowKit
set_option linter.unusedVariables false

/-- How long the text that stands ahead says it is. -/
def rdLen (s : ByteArray) : Nat := un (s.data.toList.take 2)
def rdOk (s : ByteArray) : Bool := decide (2 ≤ s.size ∧ rdLen s + 2 ≤ s.size)
def rdA (s : ByteArray) : ByteArray := if rdOk s = true then s.extract 2 (2 + rdLen s) else ByteArray.empty
def rdB (s : ByteArray) : ByteArray := if rdOk s = true then s.extract (2 + rdLen s) s.size else ByteArray.empty

theorem rdLen_get (s : ByteArray) : getS (s.extract 0 2) = rdLen s := by
  unfold getS rdLen
  have e : (s.extract 0 2).data.toList = s.data.toList.take 2 := by simp
  rw [e, List.take_of_length_le (by rw [List.length_take]; omega)]
theorem rdLen_lt (s : ByteArray) : rdLen s ≤ 65535 := by
  have h := un_lt (s.data.toList.take 2)
  have h2 : (s.data.toList.take 2).length ≤ 2 := by rw [List.length_take]; omega
  have h3 : 256 ^ (s.data.toList.take 2).length ≤ 256 ^ 2 := Nat.pow_le_pow_right (by decide) h2
  unfold rdLen
  omega
theorem rd_no {s : ByteArray} (h : ¬ (2 ≤ s.size ∧ rdLen s + 2 ≤ s.size)) : rdOk s = false ∧ rdA s = ByteArray.empty ∧ rdB s = ByteArray.empty := by
  have e : rdOk s = false := by simpa [rdOk] using h
  simp [rdA, rdB, e]
theorem rd_yes {s : ByteArray} (h : 2 ≤ s.size ∧ rdLen s + 2 ≤ s.size) : rdOk s = true ∧ rdA s = s.extract 2 (2 + rdLen s) ∧ rdB s = s.extract (2 + rdLen s) s.size := by
  have e : rdOk s = true := by simpa [rdOk] using h
  simp [rdA, rdB, e]

theorem get_head (s : ByteArray) (w : World) : Calls Try.prog 45 #[.string (s.extract 0 2)] w fun e w' => e = .returned (.int .u64 (rdLen s : Nat)) ∧ w = w' := by
  rw [← rdLen_get]
  exact get_any _ w (by unfold maxLen; rw [ByteArray.size_extract]; omega)

set_option maxHeartbeats 400000 in
theorem read_yes (s : ByteArray) (w : World) (hs : s.size ≤ maxLen) (h2 : 2 ≤ s.size) (L : Nat) (hL : L ≤ 65535) (h : L + 2 ≤ s.size)
    (hg : ∀ w : World, Calls Try.prog 45 #[.string (s.extract 0 2)] w fun e w' => e = .returned (.int .u64 (L : Nat)) ∧ w = w') :
    Calls Try.prog 44 #[.string s] w fun e w' => e = .returned (.tuple #[.string (s.extract 2 (2 + L)), .string (s.extract (2 + L) s.size), .bool true]) ∧ Below w.heap.size w w' := by
  unfold maxLen at hs
  have Hg := Lib.hid hg
  clear hg
  go_enter Try.func44, Try.ntmps44
  go_wp2_with (go_at_call 45; refine (Hg.out _).mono ?_; rintro e w' ⟨rfl, rfl⟩)
  go_quiet (fail)
  go_wp2
  go_ret3
  exact ⟨rfl, below_drewN (Below.refl _ _) _⟩

theorem read_no (s : ByteArray) (w : World) (hs : s.size ≤ maxLen) (h2 : 2 ≤ s.size) (L : Nat) (hL : L ≤ 65535) (h : s.size < L + 2)
    (hg : ∀ w : World, Calls Try.prog 45 #[.string (s.extract 0 2)] w fun e w' => e = .returned (.int .u64 (L : Nat)) ∧ w = w') :
    Calls Try.prog 44 #[.string s] w fun e w' => e = .returned (.tuple #[.string ByteArray.empty, .string ByteArray.empty, .bool false]) ∧ Below w.heap.size w w' := by
  unfold maxLen at hs
  have Hg := Lib.hid hg
  clear hg
  go_enter Try.func44, Try.ntmps44
  go_wp2_with (go_at_call 45; refine (Hg.out _).mono ?_; rintro e w' ⟨rfl, rfl⟩)
  go_ret3
  exact ⟨rfl, Below.refl _ _⟩

theorem read_any (s : ByteArray) (w : World) (hs : s.size ≤ maxLen) :
    Calls Try.prog 44 #[.string s] w fun e w' => e = .returned (.tuple #[.string (rdA s), .string (rdB s), .bool (rdOk s)]) ∧ Below w.heap.size w w' := by
  by_cases h2 : 2 ≤ s.size
  · by_cases h : rdLen s + 2 ≤ s.size
    · obtain ⟨e1, e2, e3⟩ := rd_yes ⟨h2, h⟩
      rw [e1, e2, e3]
      exact read_yes s w hs h2 _ (rdLen_lt s) h (get_head s)
    · obtain ⟨e1, e2, e3⟩ := rd_no (s := s) (by omega)
      rw [e1, e2, e3]
      exact read_no s w hs h2 _ (rdLen_lt s) (by omega) (get_head s)
  · obtain ⟨e1, e2, e3⟩ := rd_no (s := s) (by omega)
    rw [e1, e2, e3]
    clear e1 e2 e3
    go_enter Try.func44, Try.ntmps44
    go_wp2
    go_ret3
    exact ⟨rfl, Below.refl _ _⟩
end Go.Proofs.Ytnefofcofccmfaa
