/- Halves as words, the number of probes of a rung, the pages of a filter: no program. -/
import Derived.Test.YtdhkfkkpddpcaaaFloatMath
namespace Go.Proofs.Ytdhkfkkpddpcaaa

/-- One half, taken k times with itself, and two so often: their words. -/
def hw (k : Nat) : Nat := (1023 - k) * 4503599627370496
def tw (k : Nat) : Nat := (1023 + k) * 4503599627370496
theorem hw_zero : hw 0 = 4607182418800017408 := by decide
theorem hw_one : hw 1 = 4602678819172646912 := by decide
theorem tw_zero : tw 0 = 4607182418800017408 := by decide
theorem tw_one : tw 1 = 4611686018427387904 := by decide
theorem hw_lt (k : Nat) : hw k < 9223372036854775808 := by unfold hw; omega
theorem hw_word (k : Nat) : hw k < 18446744073709551616 := by have := hw_lt k; omega
theorem hw_sr (k : Nat) : sr (hw k) = (hw k : Int) := by unfold sr; rw [if_pos (hw_lt k)]
theorem hw_nan {k : Nat} : nanB (hw k) = false := by
  refine decide_eq_false ?_
  have : hw k < 9218868437227405312 := by unfold hw; omega
  omega
theorem hw_down {j k : Nat} (h : j ≤ k) : hw k ≤ hw j := by unfold hw; exact Nat.mul_le_mul_right _ (by omega)
theorem halved : ∀ k < 17, Ieee.double.div (hw k) 4611686018427387904 = some (hw (k + 1)) := by decide +kernel
theorem doubled : ∀ k < 17, Ieee.double.mul (tw k) 4611686018427387904 = some (tw (k + 1)) := by decide +kernel
theorem turned : ∀ k < 17, Ieee.double.div 4607182418800017408 (tw k) = some (hw k) := by decide +kernel

/-- n is the least of 1 to 16 whose half is not above a rung; 16, if there is none. -/
def LeastHalf (s : Int) (n : Nat) : Prop := 1 ≤ n ∧ n ≤ 16 ∧ (∀ k, 1 ≤ k → k < n → s < hw k) ∧ (n = 16 ∨ (hw n : Int) ≤ s)
theorem LeastHalf.le {s t : Int} {m n : Nat} (hm : LeastHalf s m) (hn : LeastHalf t n) (h : s ≤ t) : n ≤ m := by
  rcases Nat.lt_or_ge m n with c | c
  · exfalso
    have h1 := hn.2.2.1 m hm.1 c
    rcases hm.2.2.2 with e | e
    · have := hn.2.1; omega
    · omega
  · exact c
theorem LeastHalf.same {s : Int} {m n : Nat} (hm : LeastHalf s m) (hn : LeastHalf s n) : m = n :=
  Nat.le_antisymm (hn.le hm (Int.le_refl _)) (hm.le hn (Int.le_refl _))
/-- How many probes a rate of these bits asks for. -/
def ProbesOf (b n : Nat) : Prop := if nanB b then n = 4 else LeastHalf (sr b) n
theorem ProbesOf.same {b m n : Nat} (hm : ProbesOf b m) (hn : ProbesOf b n) : m = n := by
  unfold ProbesOf at hm hn
  split at hm
  · rename_i h; rw [if_pos h] at hn; omega
  · rename_i h; rw [if_neg h] at hn; exact hm.same hn
theorem ProbesOf.bounds {b n : Nat} (h : ProbesOf b n) : 1 ≤ n ∧ n ≤ 16 := by
  unfold ProbesOf at h
  split at h
  · omega
  · exact ⟨h.1, h.2.1⟩

/-- A number within bounds. -/
def inS (n low high : Int) : Int := if (if n < low then low else n) < high then (if n < low then low else n) else high
/-- A filter's pages. -/
def bitsS (n k : Nat) : Nat := n * k * 3 / 2
def pagesN (n k : Nat) : Nat := if 480 < bitsS n k then (bitsS n k + 479) / 480 else 1
def cN (n : Int) : Nat := if n < 0 then 0 else if 10000 < n then 10000 else n.toNat
def cK (k : Int) : Nat := if k < 1 then 1 else if 16 < k then 16 else k.toNat
def pagesS (n k : Int) : Nat := pagesN (cN n) (cK k)
theorem cN_le (n : Int) : cN n ≤ 10000 := by unfold cN; split; omega; split <;> omega
theorem cK_le (k : Int) : cK k ≤ 16 := by unfold cK; split; omega; split <;> omega
theorem cK_pos (k : Int) : 1 ≤ cK k := by unfold cK; split; omega; split <;> omega
theorem cN_mono {a b : Int} (h : a ≤ b) : cN a ≤ cN b := by
  unfold cN
  repeat' split
  all_goals omega
theorem cK_mono {a b : Int} (h : a ≤ b) : cK a ≤ cK b := by
  unfold cK
  repeat' split
  all_goals omega
theorem prod_le {n k m l : Nat} (h : n ≤ m) (h2 : k ≤ l) : n * k ≤ m * l := Nat.mul_le_mul h h2
theorem pagesN_mono {n k m l : Nat} (h : n ≤ m) (h2 : k ≤ l) : pagesN n k ≤ pagesN m l := by
  have := prod_le h h2
  unfold pagesN bitsS
  generalize n * k = x at *
  generalize m * l = y at *
  split <;> split <;> omega
theorem pagesS_mono {a b c d : Int} (h : a ≤ b) (h2 : c ≤ d) : pagesS a c ≤ pagesS b d := pagesN_mono (cN_mono h) (cK_mono h2)
theorem pagesS_bounds (n k : Int) : 1 ≤ pagesS n k ∧ pagesS n k ≤ 500 := by
  have := prod_le (cN_le n) (cK_le k)
  unfold pagesS pagesN bitsS
  generalize cN n * cK k = x at *
  split <;> omega
theorem pagesN_room (n k : Nat) : bitsS n k ≤ pagesN n k * 480 ∧ (pagesN n k = 1 ∨ (pagesN n k - 1) * 480 < bitsS n k) := by
  unfold pagesN
  generalize bitsS n k = x
  split <;> omega
end Go.Proofs.Ytdhkfkkpddpcaaa
