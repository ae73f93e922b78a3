/- The document's own part of NumsPut. -/
import Derived.Test.YtcfidpjhemjbjaaNumsPut
namespace Go.Proofs.Ytcfidpjhemjbjaa
open Go.RowKit
set_option linter.unusedVariables false

theorem putr_none (n : Nat) (size : Int) (w : World) (h : size < 1 ∨ 8 < size) :
    Calls Try.prog 24 #[.int .u64 (n : Nat), .int .i64 size] w fun e w' => e = .returned (.string ByteArray.empty) ∧ w = w' := by
  rcases h with h | h
  all_goals
    go_enter Try.func24, Try.ntmps24
    go_wp2
    go_ret
    exact ⟨rfl, rfl⟩

theorem conv_one {m : Nat} : ∀ wx : World, (convert 39 9 (.slice (some ⟨wx.heap.size, 0, none⟩) 1 1)).run Try.prog (wx.alloc (.cells #[.int .u8 ((m : Int) % 256)] 5)) = .ok (.string (bs [UInt8.ofNat m])) (wx.alloc (.cells #[.int .u8 ((m : Int) % 256)] 5)) := fun wx => by
  refine run_convert_bytes_back (P := Try.prog) _ 39 9 5 ⟨wx.heap.size, 0, none⟩ 1 [UInt8.ofNat m] Try.underlying39 Try.underlying5 Try.underlying9 (fun j hj => ?_)
  obtain rfl : j = 0 := by simpa using hj
  have e : (⟨wx.heap.size, 0, none⟩ : Addr).add 0 = ⟨wx.heap.size, 0, none⟩ := by simp [Addr.add]
  rw [e, World.cell?_alloc_at _ _ _ _ rfl]
  simp

set_option maxHeartbeats 400000 in
theorem putr_some (n N : Nat) (w : World) (h1 : 1 ≤ N) (h8 : N ≤ 8) (hn : n < 18446744073709551616) :
    Calls Try.prog 24 #[.int .u64 (n : Nat), .int .i64 (N : Nat)] w fun e w' => e = .returned (.string (bs (be N n))) ∧ Below w.heap.size w w' := by
  go_enter Try.func24, Try.ntmps24
  go_wp2
  go_loopw [0, 5, 6] (fun m s i wr => ∃ k : Nat, k ≤ N ∧ i = .int .i64 k ∧ m = .int .u64 (n / 256 ^ k : Nat) ∧ s = .string (bs (be k n)) ∧ Below w.heap.size w wr) (fun _ _ i _ => N - (intOf i).toNat)
  case atStart => exact ⟨0, Nat.zero_le _, rfl, by simp, rfl, Below.refl _ _⟩
  case round =>
    obtain ⟨k, hk, rfl, rfl, rfl, hbel⟩ := hrel
    by_cases hlt : k < N
    · obtain ⟨m, hm⟩ : ∃ m, n / 256 ^ k = m := ⟨_, rfl⟩
      have hb : UInt8.ofNat m :: be k n = be (k + 1) n := by rw [be, hm]
      have hm2 : n / 256 ^ (k + 1) = m / 256 := by rw [Nat.pow_succ, ← Nat.div_div_eq_div_mul, hm]
      have hcv := conv_one (m := m)
      have hadd : ∀ wx : World, (Op.stringOp .add (bs [UInt8.ofNat m]) (bs (be k n))).run Try.prog wx = .ok (.string (bs (be (k + 1) n))) wx := fun wx => by
        have h := run_string_add_sum (P := Try.prog) (w := wx) (bs [UInt8.ofNat m]) (bs (be k n)) (by rw [bs_size, bs_size, be_length]; simp; omega)
        rw [bs_append, List.singleton_append, hb] at h
        exact h
      have hm64 : m ≤ 18446744073709551615 := by rw [← hm]; exact Nat.le_trans (Nat.div_le_self _ _) (by omega)
      rw [hm]
      have Hm := Lib.hid hm2
      clear hm hm2 hb
      go_wp2
      go_roundw
      case rel => exact ⟨k + 1, by omega, by go_num, by rw [Hm.out]; go_num, rfl, hbel.alloc hbel.size _⟩
      case measure => simp [intOf]; omega
    · obtain rfl : k = N := by omega
      go_wp2
      go_ret
      exact ⟨rfl, hbel⟩

theorem putr_any (n : Nat) (size : Int) (w : World) (hn : n < 18446744073709551616) :
    Calls Try.prog 24 #[.int .u64 (n : Nat), .int .i64 size] w fun e w' => e = .returned (.string (putS n size)) ∧ Below w.heap.size w w' := by
  unfold putS
  by_cases h : 1 ≤ size ∧ size ≤ 8
  · rw [if_pos h]
    obtain ⟨N, rfl⟩ : ∃ N : Nat, size = N := ⟨size.toNat, by omega⟩
    exact putr_some n N w (by omega) (by omega) hn
  · rw [if_neg h]
    exact (putr_none n size w (by omega)).mono fun e w' ⟨he, hw⟩ => ⟨he, hw ▸ Below.refl _ _⟩
end Go.Proofs.Ytcfidpjhemjbjaa
