/- nums.Put and the document's own Put: a number's lowest bytes, the highest first. -/
import Derived.Test.YtmdoafmgakmjkaaNumsMath
import Derived.Test.YtmdoafmgakmjkaaBase
namespace Go.Proofs.Ytmdoafmgakmjkaa
open Go.RowKit
set_option linter.unusedVariables false

theorem be_at : ∀ (k n j : Nat) (h : j < (be k n).length), (be k n)[j] = UInt8.ofNat (n / 256 ^ (k - 1 - j))
  | 0, n, j, h => by simp [be] at h
  | k + 1, n, 0, h => by simp [be]
  | k + 1, n, j + 1, h => by
    have hj : j < (be k n).length := by simpa [be] using h
    have e : k + 1 - 1 - (j + 1) = k - 1 - j := by omega
    simp only [be, List.getElem_cons_succ, be_at k n j hj, e]

/-- What stands at place j of N, when k of n's bytes are laid from the end on. -/
def laidAt (n N k j : Nat) : Value := .int .u8 (if j + k < N then 0 else ((n / 256 ^ (N - 1 - j) % 256 : Nat) : Int))

theorem laid_step (n N k j : Nat) (hk : k < N) : (if j = N - 1 - k then Value.int .u8 ((n / 256 ^ k % 256 : Nat) : Int) else laidAt n N k j) = laidAt n N (k + 1) j := by
  unfold laidAt
  by_cases h : j = N - 1 - k
  · have e : N - 1 - j = k := by omega
    rw [if_pos h, if_neg (by omega), e]
  · rw [if_neg h]
    by_cases h2 : j + k < N
    · rw [if_pos h2, if_pos (by omega)]
    · rw [if_neg h2, if_neg (by omega)]

theorem laid_full (n N j : Nat) (h : j < (be N n).length) : laidAt n N N j = .int .u8 ((be N n)[j].toNat : Int) := by
  unfold laidAt
  rw [if_neg (by omega), be_at, UInt8.toNat_ofNat']

theorem byte_val (n k : Nat) : (n : Int) / 2 ^ (8 * k) % 256 = ((n / 256 ^ k % 256 : Nat) : Int) := by
  have e : (2 : Nat) ^ (8 * k) = 256 ^ k := by rw [Nat.pow_mul]
  rw [← e, Int.natCast_emod, Int.natCast_ediv, Int.natCast_pow]; rfl

end Go.Proofs.Ytmdoafmgakmjkaa
