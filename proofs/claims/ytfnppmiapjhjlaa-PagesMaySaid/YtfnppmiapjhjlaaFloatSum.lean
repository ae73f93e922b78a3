/- Sums of numbers of 64 bits with a point: no program. -/
import Derived.Test.YtfnppmiapjhjlaaFloatMath
namespace Go.Proofs.Ytfnppmiapjhjlaa

/-- A word is an infinity. -/
def pInf : Nat := 9218868437227405312
def mInf : Nat := 18442240474082181120

theorem word_mod (neg : Bool) {r : Nat} (h : r < 9223372036854775808) : Ieee.double.word neg r % 9223372036854775808 = r ∧ Ieee.double.word neg r < 18446744073709551616 := by
  unfold Ieee.Format.word
  rw [dbl_sign]
  cases neg
  · simp only [Bool.false_eq_true, if_false]; omega
  · simp only [if_true]; omega
theorem nearest_num (neg : Bool) (m : Nat) (i : Int) : ∃ r, Ieee.double.nearest neg m i = Ieee.double.word neg r ∧ r ≤ 9218868437227405312 := by
  unfold Ieee.Format.nearest
  by_cases h0 : m = 0
  · rw [if_pos h0]; exact ⟨0, rfl, by decide⟩
  · rw [if_neg h0]
    refine ⟨_, rfl, ?_⟩
    rw [dbl_inf]
    exact Nat.min_le_right _ _
theorem nan_no {b : Nat} (h : b % 9223372036854775808 ≤ 9218868437227405312) : nanB b = false := decide_eq_false (by omega)
theorem nan_yes {b : Nat} (h : 9218868437227405312 < b % 9223372036854775808) : nanB b = true := decide_eq_true h

/-- What is no number goes into a sum. -/
theorem add_nan {a b : Nat} (ha : a < 18446744073709551616) (hb : b < 18446744073709551616) (h : nanB a = true ∨ nanB b = true) : Ieee.double.add a b = none := by
  have Ra := reads a ha
  have Rb := reads b hb
  unfold Ieee.Format.add
  have k : ∀ x, nanB x = true → 9218868437227405312 < x % 9223372036854775808 := fun x h => of_decide_eq_true h
  generalize Ieee.double.read a = da at *
  generalize Ieee.double.read b = db at *
  rcases h with h | h
  · have h := k a h
    cases Ra with
    | nan s f h3 => cases db <;> rfl
    | inf s h3 h4 => exfalso; omega
    | num m i s h1 h2 h3 h4 => exfalso; omega
  · have h := k b h
    cases Rb with
    | nan s f h3 => cases da <;> rfl
    | inf s h3 h4 => exfalso; omega
    | num m i s h1 h2 h3 h4 => exfalso; omega

theorem inf_words {b : Nat} (hb : b < 18446744073709551616) {neg : Bool} (h3 : b % 9223372036854775808 = 9218868437227405312) (h4 : neg = decide (9223372036854775808 ≤ b)) : b = if neg then mInf else pInf := by
  subst h4
  unfold mInf pInf
  by_cases h : 9223372036854775808 ≤ b
  · rw [decide_eq_true h, if_pos rfl]; omega
  · rw [decide_eq_false h, if_neg (by decide)]; omega
theorem write_inf (neg : Bool) : Ieee.double.write (.infinity neg) = if neg then mInf else pInf := by cases neg <;> decide

/-- Of two numbers, neither of them an infinity, the sum is one. -/
theorem add_fin {a b : Nat} (ha : a < 18446744073709551616) (hb : b < 18446744073709551616) (fa : a % 9223372036854775808 < 9218868437227405312) (fb : b % 9223372036854775808 < 9218868437227405312) :
    ∃ r, Ieee.double.add a b = some r ∧ r < 18446744073709551616 ∧ nanB r = false := by
  have Ra := reads a ha
  have Rb := reads b hb
  unfold Ieee.Format.add
  generalize Ieee.double.read a = da at *
  generalize Ieee.double.read b = db at *
  cases Ra with
  | nan s f h3 => exfalso; omega
  | inf s h3 h4 => exfalso; omega
  | num m i s h1 h2 h3 h4 =>
    cases Rb with
    | nan t f k3 => exfalso; omega
    | inf t k3 k4 => exfalso; omega
    | num n j t k1 k2 k3 k4 =>
      simp only [Ieee.Datum.sum, Option.map_some]
      refine ⟨_, rfl, ?_⟩
      unfold Ieee.Format.write
      obtain ⟨r, er, hr⟩ := nearest_num (if Ieee.signed s m (i - min i j).toNat + Ieee.signed t n (j - min i j).toNat = 0 then s && t else decide (Ieee.signed s m (i - min i j).toNat + Ieee.signed t n (j - min i j).toNat < 0)) (Ieee.signed s m (i - min i j).toNat + Ieee.signed t n (j - min i j).toNat).natAbs (min i j)
      simp only [er]
      have hw := word_mod (if Ieee.signed s m (i - min i j).toNat + Ieee.signed t n (j - min i j).toNat = 0 then s && t else decide (Ieee.signed s m (i - min i j).toNat + Ieee.signed t n (j - min i j).toNat < 0)) (r := r) (by omega)
      exact ⟨hw.2, nan_no (by rw [hw.1]; exact hr)⟩

theorem signed_abs (s : Bool) (m k : Nat) : (Ieee.signed s m k).natAbs = m * 2 ^ k := by
  unfold Ieee.signed
  rw [Nat.shiftLeft_eq]
  cases s
  · simp only [Bool.false_eq_true, if_false]; omega
  · simp only [if_true]; omega

/-- The sum of two numbers is not beyond their bounds' sum. -/
theorem add_bound {a b : Nat} (ha : a < 18446744073709551616) (hb : b < 18446744073709551616) (fa : a % 9223372036854775808 < 9218868437227405312) (fb : b % 9223372036854775808 < 9218868437227405312)
    (N M K : Nat) (hN : N + M < 4503599627370496) (hK : (N + M) * 2 ^ K < val 9218868437227405312) (va : val (a % 9223372036854775808) ≤ N * 2 ^ K) (vb : val (b % 9223372036854775808) ≤ M * 2 ^ K) :
    ∃ r, Ieee.double.add a b = some r ∧ r < 18446744073709551616 ∧ r % 9223372036854775808 < 9218868437227405312 ∧ val (r % 9223372036854775808) ≤ (N + M) * 2 ^ K := by
  have Ra := reads a ha
  have Rb := reads b hb
  unfold Ieee.Format.add
  generalize Ieee.double.read a = da at *
  generalize Ieee.double.read b = db at *
  cases Ra with
  | nan s f h3 => exfalso; omega
  | inf s h3 h4 => exfalso; omega
  | num m i s h1 h2 h3 h4 =>
    cases Rb with
    | nan t f k3 => exfalso; omega
    | inf t k3 k4 => exfalso; omega
    | num n j t k1 k2 k3 k4 =>
      simp only [Ieee.Datum.sum, Option.map_some]
      refine ⟨_, rfl, ?_⟩
      unfold Ieee.Format.write
      have hA := signed_abs s m (i - min i j).toNat
      have hB := signed_abs t n (j - min i j).toNat
      generalize hX : Ieee.signed s m (i - min i j).toNat = X at *
      generalize hY : Ieee.signed t n (j - min i j).toNat = Y at *
      have hbase : -1074 ≤ min i j := by omega
      have hsum : (X + Y).natAbs * 2 ^ (min i j + 1074).toNat ≤ (N + M) * 2 ^ K := by
        have c1 : X.natAbs * 2 ^ (min i j + 1074).toNat = val (a % 9223372036854775808) := by
          rw [hA, Nat.mul_assoc, ← Nat.pow_add, ← h2]
          congr 2
          omega
        have c2 : Y.natAbs * 2 ^ (min i j + 1074).toNat = val (b % 9223372036854775808) := by
          rw [hB, Nat.mul_assoc, ← Nat.pow_add, ← k2]
          congr 2
          omega
        have c3 : (X + Y).natAbs ≤ X.natAbs + Y.natAbs := Int.natAbs_add_le X Y
        refine Nat.le_trans (Nat.mul_le_mul_right _ c3) ?_
        rw [Nat.add_mul, Nat.add_mul, c1, c2]
        exact Nat.add_le_add va vb
      simp only []
      obtain ⟨r, er, hr, hv⟩ := nearest_bound (if X + Y = 0 then s && t else decide (X + Y < 0)) (X + Y).natAbs (min i j) hbase (N + M) K hN hsum hK
      rw [er]
      have hw := word_mod (if X + Y = 0 then s && t else decide (X + Y < 0)) (r := r) (by omega)
      exact ⟨hw.2, by rw [hw.1]; exact hr, by rw [hw.1]; exact hv⟩

/-- An infinity and what is a number, or the same infinity. -/
theorem add_inf_left (s : Bool) {b : Nat} (hb : b < 18446744073709551616) (nb : nanB b = false) : Ieee.double.add (if s then mInf else pInf) b = if b = (if s then pInf else mInf) then none else some (if s then mInf else pInf) := by
  have ea : Ieee.double.read (if s then mInf else pInf) = .infinity s := by cases s <;> decide
  have Rb := reads b hb
  have nb' : ¬ 9218868437227405312 < b % 9223372036854775808 := of_decide_eq_false nb
  unfold Ieee.Format.add
  rw [ea]
  generalize Ieee.double.read b = db at *
  cases Rb with
  | nan t f k3 => exact absurd k3 nb'
  | inf t k3 k4 =>
    have e := inf_words hb k3 k4
    rw [e]
    cases s <;> cases t <;> decide
  | num n j t k1 k2 k3 k4 =>
    have e : b ≠ (if s then pInf else mInf) := by
      unfold pInf mInf
      cases s
      · simp only [Bool.false_eq_true, if_false]; omega
      · simp only [if_true]; omega
    rw [if_neg e]
    simp only [Ieee.Datum.sum, Option.map_some, write_inf]
theorem add_inf_right (s : Bool) {b : Nat} (hb : b < 18446744073709551616) (fb : b % 9223372036854775808 < 9218868437227405312) : Ieee.double.add b (if s then mInf else pInf) = some (if s then mInf else pInf) := by
  have ea : Ieee.double.read (if s then mInf else pInf) = .infinity s := by cases s <;> decide
  have Rb := reads b hb
  unfold Ieee.Format.add
  rw [ea]
  generalize Ieee.double.read b = db at *
  cases Rb with
  | nan t f k3 => exfalso; omega
  | inf t k3 k4 => exfalso; omega
  | num n j t k1 k2 k3 k4 => simp only [Ieee.Datum.sum, Option.map_some, write_inf]
end Go.Proofs.Ytfnppmiapjhjlaa
