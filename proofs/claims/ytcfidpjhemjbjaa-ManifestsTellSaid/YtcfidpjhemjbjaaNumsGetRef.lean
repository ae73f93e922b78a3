/- The document's own part of NumsGet. -/
import Derived.Test.YtcfidpjhemjbjaaNumsGet
namespace Go.Proofs.Ytcfidpjhemjbjaa
open Go.RowKit
set_option linter.unusedVariables false

set_option maxHeartbeats 400000 in
theorem get_ref (s : ByteArray) (w : World) (hs : s.size ≤ maxLen) :
    Calls Try.prog 39 #[.string s] w fun e w' => e = .returned (.int .u64 (getS s : Nat)) ∧ w = w' := by
  unfold maxLen at hs
  go_enter Try.func39, Try.ntmps39
  go_wp2
  go_loop [3, 4] (fun n i => ∃ k : Nat, k ≤ s.size ∧ k ≤ 8 ∧ i = .int .i64 k ∧ n = .int .u64 (un (s.data.toList.take k) : Nat)) (fun _ i => 8 - (intOf i).toNat)
  case atStart => exact ⟨0, Nat.zero_le _, by omega, rfl, rfl⟩
  case round =>
    obtain ⟨k, hk, hk8, rfl, rfl⟩ := hrel
    by_cases hlt : k < s.size ∧ k < 8
    · obtain ⟨h1, h2⟩ := hlt
      have hb := un_take_lt s k (by omega)
      have hst := Lib.hid (getS_step s k h1)
      have hc := (s[k]).toNat_lt
      go_wp2
      go_round
      case rel => exact ⟨k + 1, by omega, by omega, by go_num, by rw [hst.out]; go_num⟩
      case measure => simp [intOf]; omega
    · have hend := Lib.hid (getS_end s k (by omega) hk8)
      by_cases h1 : k < s.size
      all_goals
        go_wp2
        go_ret
        exact ⟨ret_int (by rw [hend.out]), rfl⟩
end Go.Proofs.Ytcfidpjhemjbjaa
