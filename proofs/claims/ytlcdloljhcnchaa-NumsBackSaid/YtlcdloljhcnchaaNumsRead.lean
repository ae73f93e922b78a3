/- nums.Read and the document's own Read: the text that stands ahead, and what is behind it. -/
import Derived.Test.YtlcdloljhcnchaaNumsGet
import Derived.Deep.QuietTactic
import Derived.BigQuiet
import Derived.RegionTactic
import Derived.ChangeAlike
namespace Go.Proofs.Ytlcdloljhcnchaa
open Go.RowKit
set_option linter.unusedVariables false

theorem below_drewN {B : Nat} {a w : World} (h : Below B a w) (n : Nat) : Below B a (w.drewN n) := ⟨h.os, h.tape, h.output, h.size, h.block⟩

/-- How long the text that stands ahead says it is. -/
def rdLen (s : ByteArray) : Nat := un (s.data.toList.take 2)
def rdOk (s : ByteArray) : Bool := decide (2 ≤ s.size ∧ rdLen s + 2 ≤ s.size)
def rdA (s : ByteArray) : ByteArray := if rdOk s = true then s.extract 2 (2 + rdLen s) else ByteArray.empty
def rdB (s : ByteArray) : ByteArray := if rdOk s = true then s.extract (2 + rdLen s) s.size else ByteArray.empty

theorem rdLen_get (s : ByteArray) : getS (s.extract 0 2) = rdLen s := by
  unfold getS rdLen
  have e : (s.extract 0 2).data.toList = s.data.toList.take 2 := by simp
  rw [e, List.take_of_length_le (by rw [List.length_take]; omega)]
theorem rdLen_lt (s : ByteArray) : rdLen s ≤ 65535 := by
  have h := un_lt (s.data.toList.take 2)
  have h2 : (s.data.toList.take 2).length ≤ 2 := by rw [List.length_take]; omega
  have h3 : 256 ^ (s.data.toList.take 2).length ≤ 256 ^ 2 := Nat.pow_le_pow_right (by decide) h2
  unfold rdLen
  omega
theorem rd_no {s : ByteArray} (h : ¬ (2 ≤ s.size ∧ rdLen s + 2 ≤ s.size)) : rdOk s = false ∧ rdA s = ByteArray.empty ∧ rdB s = ByteArray.empty := by
  have e : rdOk s = false := by simpa [rdOk] using h
  simp [rdA, rdB, e]
theorem rd_yes {s : ByteArray} (h : 2 ≤ s.size ∧ rdLen s + 2 ≤ s.size) : rdOk s = true ∧ rdA s = s.extract 2 (2 + rdLen s) ∧ rdB s = s.extract (2 + rdLen s) s.size := by
  have e : rdOk s = true := by simpa [rdOk] using h
  simp [rdA, rdB, e]

theorem get_head (s : ByteArray) (w : World) : Calls Try.prog 10 #[.string (s.extract 0 2)] w fun e w' => e = .returned (.int .u64 (rdLen s : Nat)) ∧ w = w' := by
  rw [← rdLen_get]
  exact get_any _ w (by unfold maxLen; rw [ByteArray.size_extract]; omega)

set_option maxHeartbeats 400000 in
theorem read_yes (s : ByteArray) (w : World) (hs : s.size ≤ maxLen) (h2 : 2 ≤ s.size) (L : Nat) (hL : L ≤ 65535) (h : L + 2 ≤ s.size)
    (hg : ∀ w : World, Calls Try.prog 10 #[.string (s.extract 0 2)] w fun e w' => e = .returned (.int .u64 (L : Nat)) ∧ w = w') :
    Calls Try.prog 12 #[.string s] w fun e w' => e = .returned (.tuple #[.string (s.extract 2 (2 + L)), .string (s.extract (2 + L) s.size), .bool true]) ∧ Below w.heap.size w w' := by
  unfold maxLen at hs
  have Hg := Lib.hid hg
  clear hg
  go_enter Try.func12, Try.ntmps12
  go_wp2_with (go_at_call 10; refine (Hg.out _).mono ?_; rintro e w' ⟨rfl, rfl⟩)
  go_quiet (fail)
  go_wp2
  go_ret3
  exact ⟨rfl, below_drewN (Below.refl _ _) _⟩

theorem read_no (s : ByteArray) (w : World) (hs : s.size ≤ maxLen) (h2 : 2 ≤ s.size) (L : Nat) (hL : L ≤ 65535) (h : s.size < L + 2)
    (hg : ∀ w : World, Calls Try.prog 10 #[.string (s.extract 0 2)] w fun e w' => e = .returned (.int .u64 (L : Nat)) ∧ w = w') :
    Calls Try.prog 12 #[.string s] w fun e w' => e = .returned (.tuple #[.string ByteArray.empty, .string ByteArray.empty, .bool false]) ∧ Below w.heap.size w w' := by
  unfold maxLen at hs
  have Hg := Lib.hid hg
  clear hg
  go_enter Try.func12, Try.ntmps12
  go_wp2_with (go_at_call 10; refine (Hg.out _).mono ?_; rintro e w' ⟨rfl, rfl⟩)
  go_ret3
  exact ⟨rfl, Below.refl _ _⟩

theorem read_any (s : ByteArray) (w : World) (hs : s.size ≤ maxLen) :
    Calls Try.prog 12 #[.string s] w fun e w' => e = .returned (.tuple #[.string (rdA s), .string (rdB s), .bool (rdOk s)]) ∧ Below w.heap.size w w' := by
  by_cases h2 : 2 ≤ s.size
  · by_cases h : rdLen s + 2 ≤ s.size
    · obtain ⟨e1, e2, e3⟩ := rd_yes ⟨h2, h⟩
      rw [e1, e2, e3]
      exact read_yes s w hs h2 _ (rdLen_lt s) h (get_head s)
    · obtain ⟨e1, e2, e3⟩ := rd_no (s := s) (by omega)
      rw [e1, e2, e3]
      exact read_no s w hs h2 _ (rdLen_lt s) (by omega) (get_head s)
  · obtain ⟨e1, e2, e3⟩ := rd_no (s := s) (by omega)
    rw [e1, e2, e3]
    clear e1 e2 e3
    go_enter Try.func12, Try.ntmps12
    go_wp2
    go_ret3
    exact ⟨rfl, Below.refl _ _⟩

theorem rdLen_two (s : ByteArray) (h : 2 ≤ s.size) : rdLen s = (s[0]'(by omega)).toNat * 256 + (s[1]'(by omega)).toNat := by
  unfold rdLen
  rw [take_snoc s 1 (by omega), un_snoc, take_snoc s 0 (by omega), un_snoc]
  simp [un]

set_option maxHeartbeats 400000 in
theorem readr_yes (s : ByteArray) (w : World) (hs : s.size ≤ maxLen) (hn0 : 0 < s.size) (hn1 : 1 < s.size) (h : (s[0]'hn0).toNat * 256 + (s[1]'hn1).toNat + 2 ≤ s.size) :
    Calls Try.prog 13 #[.string s] w fun e w' => e = .returned (.tuple #[.string (s.extract 2 ((s[0]'hn0).toNat * 256 + (s[1]'hn1).toNat + 2)), .string (s.extract ((s[0]'hn0).toNat * 256 + (s[1]'hn1).toNat + 2) s.size), .bool true]) ∧ Below w.heap.size w w' := by
  have hi0 : (0 : Int) < (s.size : Int) := by omega
  have hi1 : (1 : Int) < (s.size : Int) := by omega
  have c0 := (s[0]'hn0).toNat_lt
  have c1 := (s[1]'hn1).toNat_lt
  unfold maxLen at hs
  go_enter Try.func13, Try.ntmps13
  go_wp2
  go_quiet (fail)
  go_wp2
  have x1 : IntKind.i64.wrap (((s[0]'hn0).toNat : Int) * 256 + ((s[1]'hn1).toNat : Int) + 2) = ((s[0]'hn0).toNat : Int) * 256 + ((s[1]'hn1).toNat : Int) + 2 := IntWalk.i64_in _ (by omega)
  have x2 : (((s[0]'hn0).toNat : Int) * 256 + ((s[1]'hn1).toNat : Int) + 2).toNat = (s[0]'hn0).toNat * 256 + (s[1]'hn1).toNat + 2 := by omega
  have x3 : 0 ≤ ((s[0]'hn0).toNat : Int) * 256 + ((s[1]'hn1).toNat : Int) + 2 := by omega
  have x4 : 2 ≤ ((s[0]'hn0).toNat : Int) * 256 + ((s[1]'hn1).toNat : Int) + 2 := by omega
  have x5 : ((s[0]'hn0).toNat : Int) * 256 + ((s[1]'hn1).toNat : Int) + 2 ≤ (s.size : Int) := by omega
  go_quiet (fail)
  clear x1 x2 x3 x4 x5
  go_wp2
  go_ret3
  exact ⟨rfl, below_drewN (below_drewN (Below.refl _ _) _) _⟩

set_option maxHeartbeats 400000 in
theorem readr_no (s : ByteArray) (w : World) (hs : s.size ≤ maxLen) (hn0 : 0 < s.size) (hn1 : 1 < s.size) (h : s.size < (s[0]'hn0).toNat * 256 + (s[1]'hn1).toNat + 2) :
    Calls Try.prog 13 #[.string s] w fun e w' => e = .returned (.tuple #[.string ByteArray.empty, .string ByteArray.empty, .bool false]) ∧ Below w.heap.size w w' := by
  have hi0 : (0 : Int) < (s.size : Int) := by omega
  have hi1 : (1 : Int) < (s.size : Int) := by omega
  have c0 := (s[0]'hn0).toNat_lt
  have c1 := (s[1]'hn1).toNat_lt
  unfold maxLen at hs
  go_enter Try.func13, Try.ntmps13
  go_wp2
  go_quiet (fail)
  go_wp2
  go_ret3
  exact ⟨rfl, below_drewN (Below.refl _ _) _⟩

theorem readr_any (s : ByteArray) (w : World) (hs : s.size ≤ maxLen) :
    Calls Try.prog 13 #[.string s] w fun e w' => e = .returned (.tuple #[.string (rdA s), .string (rdB s), .bool (rdOk s)]) ∧ Below w.heap.size w w' := by
  by_cases h2 : 2 ≤ s.size
  · have hl := rdLen_two s h2
    by_cases h : rdLen s + 2 ≤ s.size
    · obtain ⟨e1, e2, e3⟩ := rd_yes ⟨h2, h⟩
      rw [e1, e2, e3, Nat.add_comm 2, hl]
      exact readr_yes s w hs (by omega) (by omega) (by omega)
    · obtain ⟨e1, e2, e3⟩ := rd_no (s := s) (by omega)
      rw [e1, e2, e3]
      exact readr_no s w hs (by omega) (by omega) (by omega)
  · obtain ⟨e1, e2, e3⟩ := rd_no (s := s) (by omega)
    rw [e1, e2, e3]
    clear e1 e2 e3
    go_enter Try.func13, Try.ntmps13
    go_wp2
    go_ret3
    exact ⟨rfl, Below.refl _ _⟩
end Go.Proofs.Ytlcdloljhcnchaa
