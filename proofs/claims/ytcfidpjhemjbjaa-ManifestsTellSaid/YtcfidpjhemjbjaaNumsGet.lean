/- nums.Get and the document's own Get: the number of a text's first eight bytes. -/
import Derived.Test.YtcfidpjhemjbjaaNumsMath
import Derived.Test.YtcfidpjhemjbjaaBase
namespace Go.Proofs.Ytcfidpjhemjbjaa
open Go.RowKit
set_option linter.unusedVariables false

theorem pow8 : (256 : Nat) ^ 8 = 18446744073709551616 := by decide
theorem un_take_lt (s : ByteArray) (k : Nat) (h : k ≤ 7) : un (s.data.toList.take k) ≤ 72057594037927935 := by
  have h1 := un_lt (s.data.toList.take k)
  have h2 : (s.data.toList.take k).length ≤ 7 := by rw [List.length_take]; omega
  have h3 : 256 ^ (s.data.toList.take k).length ≤ 256 ^ 7 := Nat.pow_le_pow_right (by decide) h2
  have : (256 : Nat) ^ 7 = 72057594037927936 := by decide
  omega
theorem getS_step (s : ByteArray) (k : Nat) (h : k < s.size) : un (s.data.toList.take (k + 1)) = un (s.data.toList.take k) * 256 + (s[k]).toNat := by
  rw [take_snoc s k h, un_snoc]
theorem getS_end (s : ByteArray) (k : Nat) (h : k = s.size ∨ k = 8) (hk : k ≤ 8) : un (s.data.toList.take k) = getS s := by
  unfold getS
  rcases h with h | h
  · subst h
    rw [List.take_of_length_le (by simp), List.take_of_length_le (by simp; omega)]
  · rw [h]

theorem or_byte (a c : Nat) (ha : a ≤ 72057594037927935) (hc : c < 2 ^ 8) : bits .or .u64 ((a : Int) * 256) (c : Int) = ((a * 256 + c : Nat) : Int) := by
  have e : (a : Int) * 256 = ((a * 256 : Nat) : Int) := by omega
  have h := Nat.shiftLeft_add_eq_or_of_lt hc a
  rw [Nat.shiftLeft_eq] at h
  have h1 : (BitVec.ofInt 64 ((a * 256 : Nat) : Int)).toNat = a * 256 := by
    rw [BitVec.ofInt_natCast, BitVec.toNat_ofNat]; exact Nat.mod_eq_of_lt (by omega)
  have h2 : (BitVec.ofInt 64 (c : Int)).toNat = c := by
    rw [BitVec.ofInt_natCast, BitVec.toNat_ofNat]; exact Nat.mod_eq_of_lt (by omega)
  rw [e]
  show IntKind.u64.wrap ((BitVec.ofInt 64 ((a * 256 : Nat) : Int) ||| BitVec.ofInt 64 (c : Int)).toNat : Int) = _
  rw [BitVec.toNat_or, h1, h2, ← show a * 256 + c = a * 256 ||| c from h, IntKind.wrap_u64]
  omega

set_option maxHeartbeats 400000 in
theorem get_any (s : ByteArray) (w : World) (hs : s.size ≤ maxLen) :
    Calls Try.prog 48 #[.string s] w fun e w' => e = .returned (.int .u64 (getS s : Nat)) ∧ w = w' := by
  unfold maxLen at hs
  by_cases h8 : s.size ≤ 8
  all_goals
    go_enter Try.func48, Try.ntmps48
    go_wp2
    go_loop [3, 8] (fun n i => ∃ k : Nat, k ≤ s.size ∧ k ≤ 8 ∧ i = .int .i64 k ∧ n = .int .u64 (un (s.data.toList.take k) : Nat)) (fun _ i => 8 - (intOf i).toNat)
    case atStart => exact ⟨0, Nat.zero_le _, by omega, rfl, rfl⟩
    case round =>
      obtain ⟨k, hk, hk8, rfl, rfl⟩ := hrel
      by_cases hlt : k < s.size ∧ k < 8
      · obtain ⟨h1, h2⟩ := hlt
        have hb := un_take_lt s k (by omega)
        have hst := Lib.hid (getS_step s k h1)
        have hc := (s[k]).toNat_lt
        go_wp2
        go_round
        case rel => exact ⟨k + 1, by omega, by omega, by go_num, by rw [hst.out, or_byte _ _ (by omega) hc]⟩
        case measure => simp [intOf]; omega
      · have hend := Lib.hid (getS_end s k (by omega) hk8)
        go_wp2
        go_ret
        exact ⟨ret_int (by rw [hend.out]), rfl⟩
end Go.Proofs.Ytcfidpjhemjbjaa
