/- A byte goes into a state: the program's and the document's; the sums of texts, both. -/
import Derived.Test.YtcfidpjhemjbjaaSumsMath
import Derived.Test.YtcfidpjhemjbjaaBase
namespace Go.Proofs.Ytcfidpjhemjbjaa
open Go.RowKit
set_option linter.unusedVariables false

theorem val_u32 {a b : Int} (h : a = b) : Value.int .u32 a = .int .u32 b := by rw [h]
theorem ret_u32 {a b : Int} (h : a = b) : Ending.returned (.int .u32 a) = .returned (.int .u32 b) := by rw [h]

theorem stp_walk (y : Nat) (hy : y < 4294967296) : bits .xor .u32 ((y : Int) / 2) (bits .and .u32 (y : Int) 1 * 3988292384 % 4294967296) = ((stp y : Nat) : Int) := by
  have h1 : bits .and .u32 (y : Int) 1 = ((y % 2 : Nat) : Int) := by
    have h := u32_and_nat y 1 hy (by decide)
    rw [nat_mask1] at h
    exact h
  have h2 : ((y % 2 : Nat) : Int) * 3988292384 % 4294967296 = ((y % 2 * 3988292384 : Nat) : Int) := by omega
  have h3 : (y : Int) / 2 = ((y / 2 : Nat) : Int) := by omega
  rw [h1, h2, h3]
  exact u32_xor_nat _ _ (by omega) (by omega)

set_option maxHeartbeats 400000 in
theorem into_any (x c : Nat) (w : World) (hx : x < 4294967296) (hc : c < 256) :
    Calls Try.prog 65 #[.int .u32 (x : Nat), .int .u8 (c : Nat)] w fun e w' => e = .returned (.int .u32 (intoS x c : Nat)) ∧ w = w' := by
  go_enter Try.func65, Try.ntmps65
  go_wp2
  go_loop [0, 9] (fun a i => ∃ k : Nat, k ≤ 8 ∧ i = .int .i64 k ∧ a = .int .u32 (stk k (x ^^^ c) : Nat)) (fun _ i => 8 - (intOf i).toNat)
  case atStart => exact ⟨0, by omega, rfl, val_u32 (u32_xor_nat x c hx (by omega))⟩
  case round =>
    obtain ⟨k, hk, rfl, rfl⟩ := hrel
    by_cases hlt : k < 8
    · have hy : stk k (x ^^^ c) < 4294967296 := stk_lt k (xor_lt hx (by omega))
      have hs := Lib.hid (stk_one k (x ^^^ c))
      generalize stk k (x ^^^ c) = y at *
      go_wp2
      go_round
      case rel => exact ⟨k + 1, by omega, by go_num, val_u32 (by rw [hs.out]; exact stp_walk y hy)⟩
      case measure => simp [intOf]; omega
    · obtain rfl : k = 8 := by omega
      go_wp2
      go_ret
      exact ⟨rfl, rfl⟩

theorem compl (x : Nat) (hx : x < 4294967296) : bits .xor .u32 IntKind.u32.max (x : Int) = ((4294967295 - x : Nat) : Int) := by
  have e : IntKind.u32.max = ((4294967295 : Nat) : Int) := by decide
  rw [e, all_xor hx]
  exact u32_xor_nat _ _ (by decide) hx

set_option maxHeartbeats 400000 in
theorem more_any (x : Nat) (s : ByteArray) (w : World) (hx : x < 4294967296) (hs : s.size ≤ maxLen) :
    Calls Try.prog 52 #[.int .u32 (x : Nat), .string s] w fun e w' => e = .returned (.int .u32 (moreS x s.data.toList : Nat)) ∧ w = w' := by
  unfold maxLen at hs
  go_enter Try.func52, Try.ntmps52
  go_wp2
  go_loop [5, 11] (fun a i => ∃ k : Nat, k ≤ s.size ∧ i = .int .i64 k ∧ a = .int .u32 (foldS (4294967295 - x) (s.data.toList.take k) : Nat)) (fun _ i => s.size - (intOf i).toNat)
  case atStart =>
    exact ⟨0, by omega, rfl, val_u32 (by rw [List.take_zero, foldS_nil]; exact compl x hx)⟩
  case round =>
    obtain ⟨k, hk, rfl, rfl⟩ := hrel
    have hy : foldS (4294967295 - x) (s.data.toList.take k) < 4294967296 := foldS_lt _ (by omega)
    by_cases hlt : k < s.size
    · have h1 := Lib.hid (take_snoc s k hlt)
      have h2 := Lib.hid (foldS_snoc (4294967295 - x) (s.data.toList.take k) s[k])
      have hc := (s[k]).toNat_lt
      generalize foldS (4294967295 - x) (s.data.toList.take k) = y at *
      go_wp2_with fail
      refine (into_any y _ _ hy hc).mono ?_
      rintro e w' ⟨rfl, rfl⟩
      go_wp2
      go_round
      case rel => exact ⟨k + 1, by omega, by go_num, val_u32 (by rw [h1.out, h2.out])⟩
      case measure => simp [intOf]; omega
    · obtain rfl : k = s.size := by omega
      have h1 : List.take s.size s.data.toList = s.data.toList := List.take_of_length_le (by simp)
      have hm : moreS x s.data.toList = 4294967295 - foldS (4294967295 - x) s.data.toList := rfl
      rw [h1] at hy ⊢
      clear h1
      generalize foldS (4294967295 - x) s.data.toList = y at *
      have Hm := Lib.hid hm
      clear hm
      go_wp2
      go_ret
      exact ⟨ret_u32 (by rw [Hm.out]; exact compl y hy), rfl⟩

theorem sum_any (s : ByteArray) (w : World) (hs : s.size ≤ maxLen) :
    Calls Try.prog 46 #[.string s] w fun e w' => e = .returned (.int .u32 (sumS s.data.toList : Nat)) ∧ w = w' := by
  have h := Lib.hid (fun w => more_any 0 s w (by decide) hs)
  unfold maxLen at hs
  go_enter Try.func46, Try.ntmps46
  go_wp2_with fail
  refine (h.out _).mono ?_
  rintro e w' ⟨rfl, rfl⟩
  go_wp2
  go_ret
  exact ⟨rfl, rfl⟩
end Go.Proofs.Ytcfidpjhemjbjaa
