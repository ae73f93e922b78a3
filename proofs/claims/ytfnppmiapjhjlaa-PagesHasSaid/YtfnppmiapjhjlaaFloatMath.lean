/- Numbers of 64 bits with a point as plain numbers: keys, classes, order, sums. No program. -/
import Derived.WalkKit
import Derived.Laws.FloatArith
import Derived.Laws.Cover2
namespace Go.Proofs.Ytfnppmiapjhjlaa

/-- A word's signed rung: how far it is from nought. -/
def sr (b : Nat) : Int := if b < 9223372036854775808 then (b : Int) else 9223372036854775808 - (b : Int)
/-- A word is no number. -/
def nanB (b : Nat) : Bool := decide (9218868437227405312 < b % 9223372036854775808)
/-- The key. -/
def keyS (b : Nat) : Nat := if b < 9223372036854775808 then b + 9223372036854775808 else 18446744073709551615 - b
/-- The number of a key. -/
def backS (k : Nat) : Nat := if k < 9223372036854775808 then 18446744073709551615 - k else k - 9223372036854775808
/-- How great a rung is, in the least number's units. -/
def val (r : Nat) : Nat := if r < 4503599627370496 then r else (4503599627370496 + r % 4503599627370496) * 2 ^ (r / 4503599627370496 - 1)

/-- The class. -/
def classS (b : Nat) : Nat :=
  if 9218868437227405312 < b % 9223372036854775808 then 0 else if b % 9223372036854775808 = 0 then 3
  else if b % 9223372036854775808 = 9218868437227405312 then (if 9223372036854775808 ≤ b then 1 else 5) else if 9223372036854775808 ≤ b then 2 else 4

theorem keyS_lt {b : Nat} (h : b < 18446744073709551616) : keyS b < 18446744073709551616 := by unfold keyS; split <;> omega
theorem backS_lt {b : Nat} (h : b < 18446744073709551616) : backS b < 18446744073709551616 := by unfold backS; split <;> omega
theorem key_back {b : Nat} (h : b < 18446744073709551616) : keyS (backS b) = b := by unfold keyS backS; split <;> split <;> omega
theorem back_key {b : Nat} (h : b < 18446744073709551616) : backS (keyS b) = b := by unfold keyS backS; split <;> split <;> omega
theorem key_inj {a b : Nat} (ha : a < 18446744073709551616) (hb : b < 18446744073709551616) (h : keyS a = keyS b) : a = b := by rw [← back_key ha, h, back_key hb]

theorem val_succ (r : Nat) : val r < val (r + 1) := by
  unfold val
  by_cases h : r + 1 < 4503599627370496
  · rw [if_pos (by omega), if_pos h]; omega
  · rw [if_neg h]
    by_cases h2 : r < 4503599627370496
    · obtain rfl : r = 4503599627370495 := by omega
      decide
    · rw [if_neg h2]
      by_cases h3 : r % 4503599627370496 = 4503599627370495
      · have e1 : (r + 1) / 4503599627370496 - 1 = (r / 4503599627370496 - 1) + 1 := by omega
        have e2 : (r + 1) % 4503599627370496 = 0 := by omega
        rw [e1, e2, h3, Nat.pow_succ]
        have := Nat.two_pow_pos (r / 4503599627370496 - 1)
        generalize 2 ^ (r / 4503599627370496 - 1) = p at *
        omega
      · have e1 : (r + 1) / 4503599627370496 = r / 4503599627370496 := by omega
        have e2 : (r + 1) % 4503599627370496 = r % 4503599627370496 + 1 := by omega
        rw [e1, e2]
        exact Nat.mul_lt_mul_of_pos_right (by omega) (Nat.two_pow_pos _)
theorem val_lt {a b : Nat} (h : a < b) : val a < val b := by
  induction b with
  | zero => omega
  | succ b ih =>
    have := val_succ b
    by_cases e : a = b
    · subst e; exact this
    · exact Nat.lt_trans (ih (by omega)) this
theorem val_le {a b : Nat} (h : a ≤ b) : val a ≤ val b := by
  rcases Nat.lt_or_ge a b with h1 | h1
  · exact Nat.le_of_lt (val_lt h1)
  · obtain rfl : a = b := by omega
    exact Nat.le_refl _
theorem val_lt_iff {a b : Nat} : val a < val b ↔ a < b := by
  refine ⟨fun h => ?_, val_lt⟩
  rcases Nat.lt_or_ge a b with h1 | h1
  · exact h1
  · have := val_le h1; omega
theorem val_zero : val 0 = 0 := rfl
theorem val_pos (r : Nat) : 0 < val r ↔ 0 < r := by
  have h := val_lt_iff (a := 0) (b := r)
  rw [val_zero] at h
  exact h

/-- The format's numbers. -/
theorem dbl_binade : Ieee.double.binade = 4503599627370496 := by decide
theorem dbl_inf : Ieee.double.infRung = 9218868437227405312 := by decide
theorem dbl_sign : Ieee.double.signWeight = 9223372036854775808 := by decide
theorem dbl_place : Ieee.double.leastPlace = -1074 := by decide

/-- What a word stands for. -/
inductive Reads (b : Nat) : Ieee.Datum → Prop where
  | num (m : Nat) (i : Int) (neg : Bool) (h1 : -1074 ≤ i) (h2 : m * 2 ^ (i + 1074).toNat = val (b % 9223372036854775808)) (h3 : b % 9223372036854775808 < 9218868437227405312) (h4 : neg = decide (9223372036854775808 ≤ b)) : Reads b (.number neg m i)
  | inf (neg : Bool) (h3 : b % 9223372036854775808 = 9218868437227405312) (h4 : neg = decide (9223372036854775808 ≤ b)) : Reads b (.infinity neg)
  | nan (neg : Bool) (f : Nat) (h3 : 9218868437227405312 < b % 9223372036854775808) : Reads b (.nan neg f)

theorem reads (b : Nat) (hb : b < 18446744073709551616) : Reads b (Ieee.double.read b) := by
  have hn : (b / 9223372036854775808 % 2 == 1) = decide (9223372036854775808 ≤ b) := by
    by_cases h : 9223372036854775808 ≤ b
    · rw [decide_eq_true h]; exact beq_iff_eq.2 (by omega)
    · rw [decide_eq_false h]; exact beq_eq_false_iff_ne.2 (by omega)
  unfold Ieee.Format.read
  simp only [dbl_binade, dbl_inf, dbl_sign, dbl_place]
  by_cases h1 : b % 9223372036854775808 < 4503599627370496
  · rw [if_pos h1]
    refine .num _ _ _ (by omega) ?_ (by omega) hn
    unfold val
    rw [if_pos h1]
    simp
  · rw [if_neg h1]
    by_cases h2 : b % 9223372036854775808 < 9218868437227405312
    · rw [if_pos h2]
      refine .num _ _ _ (by omega) ?_ h2 hn
      unfold val
      rw [if_neg h1]
      congr 2
      omega
    · rw [if_neg h2]
      by_cases h3 : b % 9223372036854775808 = 9218868437227405312
      · rw [if_pos h3]; exact .inf _ h3 hn
      · rw [if_neg h3]; exact .nan _ _ (by omega)

theorem cmp_congr {x y x' y' : Int} (h1 : x < y ↔ x' < y') (h2 : x = y ↔ x' = y') : compare x y = compare x' y' := by
  show compareOfLessAndEq x y = compareOfLessAndEq x' y'
  unfold compareOfLessAndEq
  simp only [h1, h2]
theorem scaled {m n : Nat} {i j base : Int} {va vb : Nat} (hb : -1074 ≤ base) (hi : base ≤ i) (hj : base ≤ j)
    (ea : m * 2 ^ (i + 1074).toNat = va) (eb : n * 2 ^ (j + 1074).toNat = vb) :
    ∃ p, 0 < p ∧ m <<< (i - base).toNat * p = va ∧ n <<< (j - base).toNat * p = vb := by
  refine ⟨2 ^ (base + 1074).toNat, Nat.two_pow_pos _, ?_, ?_⟩
  · rw [Nat.shiftLeft_eq, Nat.mul_assoc, ← Nat.pow_add, ← ea]
    congr 2
    omega
  · rw [Nat.shiftLeft_eq, Nat.mul_assoc, ← Nat.pow_add, ← eb]
    congr 2
    omega
theorem mul_lt_iff {a b p : Nat} (hp : 0 < p) : a * p < b * p ↔ a < b := ⟨fun h => Nat.lt_of_mul_lt_mul_right h, fun h => Nat.mul_lt_mul_of_pos_right h hp⟩
theorem order_num {ra rb : Nat} (A B : Nat) {p : Nat} (hp : 0 < p) (ea : A * p = val ra) (eb : B * p = val rb) (s t : Bool) :
    compare (if s then -(A : Int) else (A : Int)) (if t then -(B : Int) else (B : Int)) = compare (if s then -(ra : Int) else (ra : Int)) (if t then -(rb : Int) else (rb : Int)) := by
  have l1 : A < B ↔ ra < rb := by rw [← mul_lt_iff hp, ea, eb, val_lt_iff]
  have l2 : B < A ↔ rb < ra := by rw [← mul_lt_iff hp, ea, eb, val_lt_iff]
  have z1 : 0 < A ↔ 0 < ra := by rw [← mul_lt_iff hp, ea, Nat.zero_mul]; exact val_pos ra
  have z2 : 0 < B ↔ 0 < rb := by rw [← mul_lt_iff hp, eb, Nat.zero_mul]; exact val_pos rb
  cases s <;> cases t <;> simp only [if_true, if_false, Bool.false_eq_true] <;> exact cmp_congr (by omega) (by omega)

/-- A word's rung with its sign. -/
theorem sr_eq (b : Nat) (hb : b < 18446744073709551616) : sr b = if decide (9223372036854775808 ≤ b) then -((b % 9223372036854775808 : Nat) : Int) else ((b % 9223372036854775808 : Nat) : Int) := by
  unfold sr
  by_cases h : b < 9223372036854775808
  · rw [if_pos h, decide_eq_false (by omega), if_neg (by decide)]; omega
  · rw [if_neg h, decide_eq_true (by omega), if_pos rfl]; omega

/-- HOW TWO WORDS STAND TO EACH OTHER. -/
theorem order_eq {a b : Nat} (ha : a < 18446744073709551616) (hb : b < 18446744073709551616) :
    Ieee.double.order a b = if nanB a || nanB b then none else some (compare (sr a) (sr b)) := by
  have Ra := reads a ha
  have Rb := reads b hb
  have na : ∀ x : Nat, nanB x = decide (9218868437227405312 < x % 9223372036854775808) := fun _ => rfl
  rw [sr_eq a ha, sr_eq b hb]
  unfold Ieee.Format.order
  generalize Ieee.double.read a = da at *
  generalize Ieee.double.read b = db at *
  cases Ra with
  | nan s f h3 =>
    have e : nanB a = true := decide_eq_true h3
    rw [e]
    simp [Ieee.Datum.order]
  | inf s h3 h4 =>
    have e : nanB a = false := decide_eq_false (by omega)
    cases Rb with
    | nan t f k3 =>
      have e2 : nanB b = true := decide_eq_true k3
      rw [e, e2]
      simp [Ieee.Datum.order]
    | inf t k3 k4 =>
      have e2 : nanB b = false := decide_eq_false (by omega)
      rw [e, e2, ← h4, ← k4, h3, k3]
      cases s <;> cases t <;> simp only [Ieee.Datum.order, Bool.or_self, Bool.false_eq_true, if_true, if_false] <;> decide +kernel
    | num m i t k1 k2 k3 k4 =>
      have e2 : nanB b = false := decide_eq_false (by omega)
      rw [e, e2, ← h4, ← k4, h3]
      generalize b % 9223372036854775808 = rb at *
      cases s <;> cases t <;> simp only [Ieee.Datum.order, Bool.or_self, Bool.false_eq_true, if_true, if_false] <;> refine congrArg some (Eq.symm ?_) <;>
        first
        | exact Int.compare_eq_lt.2 (by omega)
        | exact Int.compare_eq_gt.2 (by omega)
  | num m i s h1 h2 h3 h4 =>
    have e : nanB a = false := decide_eq_false (by omega)
    cases Rb with
    | nan t f k3 =>
      have e2 : nanB b = true := decide_eq_true k3
      rw [e, e2]
      simp [Ieee.Datum.order]
    | inf t k3 k4 =>
      have e2 : nanB b = false := decide_eq_false (by omega)
      rw [e, e2, ← h4, ← k4, k3]
      generalize a % 9223372036854775808 = ra at *
      cases s <;> cases t <;> simp only [Ieee.Datum.order, Bool.or_self, Bool.false_eq_true, if_true, if_false] <;> refine congrArg some (Eq.symm ?_) <;>
        first
        | exact Int.compare_eq_lt.2 (by omega)
        | exact Int.compare_eq_gt.2 (by omega)
    | num n j t k1 k2 k3 k4 =>
      have e2 : nanB b = false := decide_eq_false (by omega)
      rw [e, e2, ← h4, ← k4]
      obtain ⟨p, hp, pa, pb⟩ := scaled (base := min i j) (by omega) (by omega) (by omega) h2 k2
      have h := order_num _ _ hp pa pb s t
      simp only [Ieee.Datum.order, Ieee.signed, Bool.or_self, Bool.false_eq_true, if_false]
      rw [← h]

theorem cut_le (neg : Bool) (n drop m : Nat) (h : n ≤ m * 2 ^ drop) : Ieee.Toward.even.cut neg n drop ≤ m := by
  unfold Ieee.Toward.cut
  simp only [Nat.shiftLeft_eq, Nat.one_mul]
  by_cases hd : drop ≤ n.log2 + 2
  · rw [Nat.min_eq_left hd]
    have hp := Nat.two_pow_pos drop
    generalize 2 ^ drop = g at *
    have h1 : n / g ≤ m := by
      rw [Nat.div_le_iff_le_mul hp]
      have := Nat.mul_comm g m
      omega
    rcases Nat.lt_or_ge (n / g) m with h2 | h2
    · have : ∀ b : Bool, b.toNat ≤ 1 := by decide
      have := this (decide (g < 2 * (n % g)) || (g == 2 * (n % g) && n / g % 2 == 1))
      omega
    · have e : n / g = m := by omega
      have h3 := Nat.div_add_mod n g
      rw [e] at h3
      have h4 := Nat.mul_comm g m
      have h5 : n % g = 0 := by omega
      rw [h5, e]
      have h6 : (decide (g < 2 * 0) || (g == 2 * 0 && m % 2 == 1)) = false := by
        simp
        omega
      rw [h6]
      simp
  · rw [Nat.min_eq_right (by omega)]
    have hl : n < 2 ^ (n.log2 + 1) := Nat.lt_log2_self
    have e : 2 ^ (n.log2 + 2) = 2 ^ (n.log2 + 1) * 2 := Nat.pow_succ ..
    generalize 2 ^ (n.log2 + 2) = g at *
    generalize 2 ^ (n.log2 + 1) = g1 at *
    have h1 : n / g = 0 := Nat.div_eq_of_lt (by omega)
    have h2 : n % g = n := Nat.mod_eq_of_lt (by omega)
    rw [h1, h2]
    have h6 : (decide (g < 2 * n) || (g == 2 * n && 0 % 2 == 1)) = false := by
      simp
      omega
    rw [h6]
    simp
theorem cut_ge (neg : Bool) (n drop m : Nat) (hm : 0 < m) (h : m * 2 ^ drop ≤ n) : m ≤ Ieee.Toward.even.cut neg n drop := by
  unfold Ieee.Toward.cut
  simp only [Nat.shiftLeft_eq, Nat.one_mul]
  have hn : n ≠ 0 := by
    have := Nat.mul_pos hm (Nat.two_pow_pos drop)
    omega
  have hd : drop ≤ n.log2 := by
    rw [Nat.le_log2 hn]
    have := Nat.mul_le_mul_right (2 ^ drop) hm
    omega
  rw [Nat.min_eq_left (by omega)]
  have h1 : m ≤ n / 2 ^ drop := (Nat.le_div_iff_mul_le (Nat.two_pow_pos drop)).2 h
  omega
theorem cut_zero (neg : Bool) (n : Nat) : Ieee.Toward.even.cut neg n 0 = n := by
  have h1 := cut_le neg n 0 n (by simp)
  by_cases h : n = 0
  · omega
  · have h2 := cut_ge neg n 0 n (by omega) (by simp)
    omega

/-- A rung as it is laid by the rounding is not greater than what it is laid for. -/
theorem val_laid (t k : Nat) (h1 : 0 < t → 4503599627370496 ≤ k) (h2 : k ≤ 9007199254740992) : val (t * 4503599627370496 + k) ≤ k * 2 ^ t := by
  unfold val
  by_cases h : t * 4503599627370496 + k < 4503599627370496
  · rw [if_pos h]
    obtain rfl : t = 0 := by omega
    simp
  · rw [if_neg h]
    by_cases hk : k = 9007199254740992
    · subst hk
      have e1 : (t * 4503599627370496 + 9007199254740992) / 4503599627370496 - 1 = t + 1 := by omega
      have e2 : (t * 4503599627370496 + 9007199254740992) % 4503599627370496 = 0 := by omega
      rw [e1, e2, Nat.pow_succ]
      have := Nat.two_pow_pos t
      generalize 2 ^ t = p at *
      omega
    · have e1 : (t * 4503599627370496 + k) / 4503599627370496 - 1 = t := by omega
      have e2 : 4503599627370496 + (t * 4503599627370496 + k) % 4503599627370496 = k := by omega
      rw [e1, e2]
      exact Nat.le_refl _

/-- WHAT IS ROUNDED IS NOT BEYOND A BOUND THAT HAS FEW DIGITS. -/
theorem nearest_bound (neg : Bool) (m : Nat) (i : Int) (hi : -1074 ≤ i) (N K : Nat) (hN : N < 4503599627370496) (hb : m * 2 ^ (i + 1074).toNat ≤ N * 2 ^ K) (hK : N * 2 ^ K < val 9218868437227405312) :
    ∃ r, Ieee.double.nearest neg m i = Ieee.double.word neg r ∧ r < 9218868437227405312 ∧ val r ≤ N * 2 ^ K := by
  unfold Ieee.Format.nearest
  by_cases h0 : m = 0
  · rw [if_pos h0]
    exact ⟨0, rfl, by decide, by rw [val_zero]; exact Nat.zero_le _⟩
  rw [if_neg h0]
  simp only [dbl_binade, dbl_inf, dbl_place, show Ieee.double.fractionBits = 52 from rfl]
  have hl1 : 2 ^ m.log2 ≤ m := Nat.log2_self_le h0
  have hl2 : m < 2 ^ (m.log2 + 1) := Nat.lt_log2_self
  obtain ⟨p, hp⟩ : ∃ p : Nat, i = (p : Int) - 1074 := ⟨(i + 1074).toNat, by omega⟩
  subst hp
  have e0 : ((p : Int) - 1074 + 1074).toNat = p := by omega
  rw [e0] at hb
  obtain ⟨t, ht⟩ : ∃ t : Nat, t = (p + m.log2) - 52 := ⟨_, rfl⟩
  have e1 : max ((p : Int) - 1074 + (m.log2 : Nat) - (52 : Nat)) (-1074) = (t : Int) - 1074 := by omega
  rw [e1]
  have e2 : ((p : Int) - 1074 - ((t : Int) - 1074)).toNat = p - t := by omega
  have e3 : ((t : Int) - 1074 - ((p : Int) - 1074)).toNat = t - p := by omega
  have e4 : ((t : Int) - 1074 - -1074).toNat = t := by omega
  rw [e2, e3, e4]
  -- the bound's place is not below the last one that is kept
  have htK : t ≤ K := by
    rcases Nat.lt_or_ge K t with h | h
    · exfalso
      have a1 : 2 ^ (m.log2 + p) ≤ m * 2 ^ p := by rw [Nat.pow_add]; exact Nat.mul_le_mul_right _ hl1
      have a2 : 2 ^ (52 + K) ≤ 2 ^ (m.log2 + p) := Nat.pow_le_pow_right (by decide) (by omega)
      rw [Nat.pow_add] at a2
      have a3 := Nat.mul_lt_mul_of_pos_right hN (Nat.two_pow_pos K)
      have e52 : (2 : Nat) ^ 52 = 4503599627370496 := by decide
      rw [e52] at a2
      omega
    · exact h
  have hkb : ∃ k, Ieee.Toward.even.cut neg (m <<< (p - t)) (t - p) = k ∧ k ≤ N * 2 ^ (K - t) ∧ (0 < t → 4503599627370496 ≤ k) ∧ k ≤ 9007199254740992 := by
    refine ⟨_, rfl, ?_, ?_, ?_⟩
    · refine cut_le _ _ _ _ ?_
      rw [Nat.shiftLeft_eq]
      have a1 : N * 2 ^ (K - t) * 2 ^ t = N * 2 ^ K := by rw [Nat.mul_assoc, ← Nat.pow_add, show K - t + t = K by omega]
      have a2 : m * 2 ^ (p - t) * 2 ^ t = m * 2 ^ p * 2 ^ (t - p) := by
        rw [Nat.mul_assoc, Nat.mul_assoc, ← Nat.pow_add, ← Nat.pow_add, show p - t + t = p + (t - p) by omega]
      have a3 : m * 2 ^ (p - t) * 2 ^ t ≤ N * 2 ^ (K - t) * 2 ^ (t - p) * 2 ^ t := by
        rw [a2, Nat.mul_right_comm (N * 2 ^ (K - t)), a1]
        exact Nat.mul_le_mul_right _ hb
      exact Nat.le_of_mul_le_mul_right a3 (Nat.two_pow_pos t)
    · intro ht0
      refine cut_ge _ _ _ _ (by decide) ?_
      rw [Nat.shiftLeft_eq]
      have e52 : (4503599627370496 : Nat) = 2 ^ 52 := by decide
      rw [e52, ← Nat.pow_add]
      refine Nat.le_trans ?_ (Nat.mul_le_mul_right _ hl1)
      rw [← Nat.pow_add]
      exact Nat.pow_le_pow_right (by decide) (by omega)
    · refine cut_le _ _ _ _ ?_
      rw [Nat.shiftLeft_eq]
      have e53 : (9007199254740992 : Nat) = 2 ^ 53 := by decide
      rw [e53, ← Nat.pow_add]
      refine Nat.le_trans (Nat.mul_le_mul_right _ (Nat.le_of_lt hl2)) ?_
      rw [← Nat.pow_add]
      exact Nat.pow_le_pow_right (by decide) (by omega)
  obtain ⟨k, ek, k1, k2, k3⟩ := hkb
  rw [ek]
  have hv := val_laid t k k2 k3
  have hv2 : val (t * 4503599627370496 + k) ≤ N * 2 ^ K := by
    refine Nat.le_trans hv ?_
    have a1 : N * 2 ^ (K - t) * 2 ^ t = N * 2 ^ K := by rw [Nat.mul_assoc, ← Nat.pow_add, show K - t + t = K by omega]
    rw [← a1]
    exact Nat.mul_le_mul_right _ k1
  have hlt : t * 4503599627370496 + k < 9218868437227405312 := val_lt_iff.1 (Nat.lt_of_le_of_lt hv2 hK)
  rw [Nat.min_eq_left (by omega)]
  exact ⟨_, rfl, hlt, hv2⟩
end Go.Proofs.Ytfnppmiapjhjlaa
