/- The document's own part of NumsRead. -/
import Derived.Test.YtnefofcofccmfaaNumsRead
namespace Go.Proofs.Ytnefofcofccmfaa
open Go.RowKit
set_option linter.unusedVariables false

theorem rdLen_two (s : ByteArray) (h : 2 ≤ s.size) : rdLen s = (s[0]'(by omega)).toNat * 256 + (s[1]'(by omega)).toNat := by
  unfold rdLen
  rw [take_snoc s 1 (by omega), un_snoc, take_snoc s 0 (by omega), un_snoc]
  simp [un]

set_option maxHeartbeats 400000 in
theorem readr_yes (s : ByteArray) (w : World) (hs : s.size ≤ maxLen) (hn0 : 0 < s.size) (hn1 : 1 < s.size) (h : (s[0]'hn0).toNat * 256 + (s[1]'hn1).toNat + 2 ≤ s.size) :
    Calls Try.prog 34 #[.string s] w fun e w' => e = .returned (.tuple #[.string (s.extract 2 ((s[0]'hn0).toNat * 256 + (s[1]'hn1).toNat + 2)), .string (s.extract ((s[0]'hn0).toNat * 256 + (s[1]'hn1).toNat + 2) s.size), .bool true]) ∧ Below w.heap.size w w' := by
  have hi0 : (0 : Int) < (s.size : Int) := by omega
  have hi1 : (1 : Int) < (s.size : Int) := by omega
  have c0 := (s[0]'hn0).toNat_lt
  have c1 := (s[1]'hn1).toNat_lt
  unfold maxLen at hs
  go_enter Try.func34, Try.ntmps34
  go_wp2
  go_quiet (fail)
  go_wp2
  have x1 : IntKind.i64.wrap (((s[0]'hn0).toNat : Int) * 256 + ((s[1]'hn1).toNat : Int) + 2) = ((s[0]'hn0).toNat : Int) * 256 + ((s[1]'hn1).toNat : Int) + 2 := IntWalk.i64_in _ (by omega)
  have x2 : (((s[0]'hn0).toNat : Int) * 256 + ((s[1]'hn1).toNat : Int) + 2).toNat = (s[0]'hn0).toNat * 256 + (s[1]'hn1).toNat + 2 := by omega
  have x3 : 0 ≤ ((s[0]'hn0).toNat : Int) * 256 + ((s[1]'hn1).toNat : Int) + 2 := by omega
  have x4 : 2 ≤ ((s[0]'hn0).toNat : Int) * 256 + ((s[1]'hn1).toNat : Int) + 2 := by omega
  have x5 : ((s[0]'hn0).toNat : Int) * 256 + ((s[1]'hn1).toNat : Int) + 2 ≤ (s.size : Int) := by omega
  go_quiet (fail)
  clear x1 x2 x3 x4 x5
  go_wp2
  go_ret3
  exact ⟨rfl, below_drewN (below_drewN (Below.refl _ _) _) _⟩

set_option maxHeartbeats 400000 in
theorem readr_no (s : ByteArray) (w : World) (hs : s.size ≤ maxLen) (hn0 : 0 < s.size) (hn1 : 1 < s.size) (h : s.size < (s[0]'hn0).toNat * 256 + (s[1]'hn1).toNat + 2) :
    Calls Try.prog 34 #[.string s] w fun e w' => e = .returned (.tuple #[.string ByteArray.empty, .string ByteArray.empty, .bool false]) ∧ Below w.heap.size w w' := by
  have hi0 : (0 : Int) < (s.size : Int) := by omega
  have hi1 : (1 : Int) < (s.size : Int) := by omega
  have c0 := (s[0]'hn0).toNat_lt
  have c1 := (s[1]'hn1).toNat_lt
  unfold maxLen at hs
  go_enter Try.func34, Try.ntmps34
  go_wp2
  go_quiet (fail)
  go_wp2
  go_ret3
  exact ⟨rfl, below_drewN (Below.refl _ _) _⟩

theorem readr_any (s : ByteArray) (w : World) (hs : s.size ≤ maxLen) :
    Calls Try.prog 34 #[.string s] w fun e w' => e = .returned (.tuple #[.string (rdA s), .string (rdB s), .bool (rdOk s)]) ∧ Below w.heap.size w w' := by
  by_cases h2 : 2 ≤ s.size
  · have hl := rdLen_two s h2
    by_cases h : rdLen s + 2 ≤ s.size
    · obtain ⟨e1, e2, e3⟩ := rd_yes ⟨h2, h⟩
      rw [e1, e2, e3, Nat.add_comm 2, hl]
      exact readr_yes s w hs (by omega) (by omega) (by omega)
    · obtain ⟨e1, e2, e3⟩ := rd_no (s := s) (by omega)
      rw [e1, e2, e3]
      exact readr_no s w hs (by omega) (by omega) (by omega)
  · obtain ⟨e1, e2, e3⟩ := rd_no (s := s) (by omega)
    rw [e1, e2, e3]
    clear e1 e2 e3
    go_enter Try.func34, Try.ntmps34
    go_wp2
    go_ret3
    exact ⟨rfl, Below.refl _ _⟩
end Go.Proofs.Ytnefofcofccmfaa
