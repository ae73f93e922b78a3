/- nums.Put and the document's own Put: a number's lowest bytes, the highest first. -/
import Derived.Test.YtcfidpjhemjbjaaNumsMath
import Derived.Test.YtcfidpjhemjbjaaBase
namespace Go.Proofs.Ytcfidpjhemjbjaa
open Go.RowKit
set_option linter.unusedVariables false

theorem be_at : ∀ (k n j : Nat) (h : j < (be k n).length), (be k n)[j] = UInt8.ofNat (n / 256 ^ (k - 1 - j))
  | 0, n, j, h => by simp [be] at h
  | k + 1, n, 0, h => by simp [be]
  | k + 1, n, j + 1, h => by
    have hj : j < (be k n).length := by simpa [be] using h
    have e : k + 1 - 1 - (j + 1) = k - 1 - j := by omega
    simp only [be, List.getElem_cons_succ, be_at k n j hj, e]

/-- What stands at place j of N, when k of n's bytes are laid from the end on. -/
def laidAt (n N k j : Nat) : Value := .int .u8 (if j + k < N then 0 else ((n / 256 ^ (N - 1 - j) % 256 : Nat) : Int))

theorem laid_step (n N k j : Nat) (hk : k < N) : (if j = N - 1 - k then Value.int .u8 ((n / 256 ^ k % 256 : Nat) : Int) else laidAt n N k j) = laidAt n N (k + 1) j := by
  unfold laidAt
  by_cases h : j = N - 1 - k
  · have e : N - 1 - j = k := by omega
    rw [if_pos h, if_neg (by omega), e]
  · rw [if_neg h]
    by_cases h2 : j + k < N
    · rw [if_pos h2, if_pos (by omega)]
    · rw [if_neg h2, if_neg (by omega)]

theorem laid_full (n N j : Nat) (h : j < (be N n).length) : laidAt n N N j = .int .u8 ((be N n)[j].toNat : Int) := by
  unfold laidAt
  rw [if_neg (by omega), be_at, UInt8.toNat_ofNat']

theorem byte_val (n k : Nat) : (n : Int) / 2 ^ (8 * k) % 256 = ((n / 256 ^ k % 256 : Nat) : Int) := by
  have e : (2 : Nat) ^ (8 * k) = 256 ^ k := by rw [Nat.pow_mul]
  rw [← e, Int.natCast_emod, Int.natCast_ediv, Int.natCast_pow]; rfl

theorem put_none (n : Nat) (size : Int) (w : World) (h : size < 1 ∨ 8 < size) :
    Calls Try.prog 18 #[.int .u64 (n : Nat), .int .i64 size] w fun e w' => e = .returned (.string ByteArray.empty) ∧ w = w' := by
  rcases h with h | h
  all_goals
    go_enter Try.func18, Try.ntmps18
    go_wp2
    go_ret
    exact ⟨rfl, rfl⟩

set_option maxHeartbeats 400000 in
theorem put_some (n N : Nat) (w : World) (h1 : 1 ≤ N) (h8 : N ≤ 8) (hn : n < 18446744073709551616) :
    Calls Try.prog 18 #[.int .u64 (n : Nat), .int .i64 (N : Nat)] w fun e w' => e = .returned (.string (bs (be N n))) ∧ Below w.heap.size w w' := by
  have hmk := run_make_row' (P := Try.prog) 39 5 (.int .u8 0) 1 Try.underlying39 (by kernel_rfl) rfl .i64 .i64 N (by omega) (by omega)
  go_enter Try.func18, Try.ntmps18
  go_wp2
  go_loopw [16] (fun i wr => ∃ k : Nat, k ≤ N ∧ i = .int .i64 k ∧ wr.rowIs w.heap.size 5 N (laidAt n N k) ∧ Below w.heap.size w wr) (fun i _ => N - (intOf i).toNat)
  case atStart => exact ⟨0, Nat.zero_le _, rfl, (World.rowIs_made _ _ _ _).congr (fun j hj => by unfold laidAt; rw [if_pos (by omega)]), (Below.refl _ _).alloc (Nat.le_refl _) _⟩
  case round =>
    obtain ⟨k, hk, rfl, hrow, hbel⟩ := hrel
    by_cases hlt : k < N
    · have hcell := hrow.cell (i := N - 1 - k) (by omega)
      have hfz := hrow.frozen (N - 1 - k)
      go_wp2
      go_roundw
      case rel =>
        rw [byte_val n k]
        exact ⟨k + 1, by omega, by go_num, (hrow.set _ _).congr (fun j _ => laid_step n N k j hlt), hbel.setCell (Nat.le_refl _) _⟩
      case measure => simp [intOf]; omega
    · obtain rfl : k = N := by omega
      have hcv : (convert 39 9 (.slice (some ⟨w.heap.size, 0, none⟩) k k)).run Try.prog wr = .ok (.string (bs (be k n))) wr := by
        have h := run_convert_bytes_back (P := Try.prog) wr 39 9 5 ⟨w.heap.size, 0, none⟩ k (be k n) Try.underlying39 Try.underlying5 Try.underlying9
          (fun j hj => by
            have e : (⟨w.heap.size, 0, none⟩ : Addr).add j = ⟨w.heap.size, j, none⟩ := by simp [Addr.add]; omega
            rw [e, hrow.cell (by rw [be_length] at hj; exact hj), laid_full n k j hj])
        rw [be_length] at h
        exact h
      go_wp2
      go_ret
      exact ⟨rfl, hbel⟩

theorem put_any (n : Nat) (size : Int) (w : World) (hn : n < 18446744073709551616) :
    Calls Try.prog 18 #[.int .u64 (n : Nat), .int .i64 size] w fun e w' => e = .returned (.string (putS n size)) ∧ Below w.heap.size w w' := by
  unfold putS
  by_cases h : 1 ≤ size ∧ size ≤ 8
  · rw [if_pos h]
    obtain ⟨N, rfl⟩ : ∃ N : Nat, size = N := ⟨size.toNat, by omega⟩
    exact put_some n N w (by omega) (by omega) hn
  · rw [if_neg h]
    exact (put_none n size w (by omega)).mono fun e w' ⟨he, hw⟩ => ⟨he, hw ▸ Below.refl _ _⟩
end Go.Proofs.Ytcfidpjhemjbjaa
