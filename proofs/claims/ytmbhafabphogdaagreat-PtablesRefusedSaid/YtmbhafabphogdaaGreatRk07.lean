/- FloatMath, RatesMath, FloatSum, FloatFold -/
import Derived.WalkKit
import Derived.Laws.FloatArith
import Derived.Laws.Cover2
/- FloatMath -/
namespace Go.Proofs.YtmbhafabphogdaaGreat

/-- A word's signed rung: how far it is from nought. -/
def sr (b : Nat) : Int := if b < 9223372036854775808 then (b : Int) else 9223372036854775808 - (b : Int)
/-- A word is no number. -/
def nanB (b : Nat) : Bool := decide (9218868437227405312 < b % 9223372036854775808)
/-- The key. -/
def keyS (b : Nat) : Nat := if b < 9223372036854775808 then b + 9223372036854775808 else 18446744073709551615 - b
/-- The number of a key. -/
def backS (k : Nat) : Nat := if k < 9223372036854775808 then 18446744073709551615 - k else k - 9223372036854775808
/-- How great a rung is, in the least number's units. -/
def val (r : Nat) : Nat := if r < 4503599627370496 then r else (4503599627370496 + r % 4503599627370496) * 2 ^ (r / 4503599627370496 - 1)

/-- The class. -/
def classS (b : Nat) : Nat :=
  if 9218868437227405312 < b % 9223372036854775808 then 0 else if b % 9223372036854775808 = 0 then 3
  else if b % 9223372036854775808 = 9218868437227405312 then (if 9223372036854775808 ≤ b then 1 else 5) else if 9223372036854775808 ≤ b then 2 else 4

theorem keyS_lt {b : Nat} (h : b < 18446744073709551616) : keyS b < 18446744073709551616 := by unfold keyS; split <;> omega
theorem backS_lt {b : Nat} (h : b < 18446744073709551616) : backS b < 18446744073709551616 := by unfold backS; split <;> omega
theorem key_back {b : Nat} (h : b < 18446744073709551616) : keyS (backS b) = b := by unfold keyS backS; split <;> split <;> omega
theorem back_key {b : Nat} (h : b < 18446744073709551616) : backS (keyS b) = b := by unfold keyS backS; split <;> split <;> omega
theorem key_inj {a b : Nat} (ha : a < 18446744073709551616) (hb : b < 18446744073709551616) (h : keyS a = keyS b) : a = b := by rw [← back_key ha, h, back_key hb]

theorem val_succ (r : Nat) : val r < val (r + 1) := by
  unfold val
  by_cases h : r + 1 < 4503599627370496
  · rw [if_pos (by omega), if_pos h]; omega
  · rw [if_neg h]
    by_cases h2 : r < 4503599627370496
    · obtain rfl : r = 4503599627370495 := by omega
      decide
    · rw [if_neg h2]
      by_cases h3 : r % 4503599627370496 = 4503599627370495
      · have e1 : (r + 1) / 4503599627370496 - 1 = (r / 4503599627370496 - 1) + 1 := by omega
        have e2 : (r + 1) % 4503599627370496 = 0 := by omega
        rw [e1, e2, h3, Nat.pow_succ]
        have := Nat.two_pow_pos (r / 4503599627370496 - 1)
        generalize 2 ^ (r / 4503599627370496 - 1) = p at *
        omega
      · have e1 : (r + 1) / 4503599627370496 = r / 4503599627370496 := by omega
        have e2 : (r + 1) % 4503599627370496 = r % 4503599627370496 + 1 := by omega
        rw [e1, e2]
        exact Nat.mul_lt_mul_of_pos_right (by omega) (Nat.two_pow_pos _)
theorem val_lt {a b : Nat} (h : a < b) : val a < val b := by
  induction b with
  | zero => omega
  | succ b ih =>
    have := val_succ b
    by_cases e : a = b
    · subst e; exact this
    · exact Nat.lt_trans (ih (by omega)) this
theorem val_le {a b : Nat} (h : a ≤ b) : val a ≤ val b := by
  rcases Nat.lt_or_ge a b with h1 | h1
  · exact Nat.le_of_lt (val_lt h1)
  · obtain rfl : a = b := by omega
    exact Nat.le_refl _
theorem val_lt_iff {a b : Nat} : val a < val b ↔ a < b := by
  refine ⟨fun h => ?_, val_lt⟩
  rcases Nat.lt_or_ge a b with h1 | h1
  · exact h1
  · have := val_le h1; omega
theorem val_zero : val 0 = 0 := rfl
theorem val_pos (r : Nat) : 0 < val r ↔ 0 < r := by
  have h := val_lt_iff (a := 0) (b := r)
  rw [val_zero] at h
  exact h

/-- The format's numbers. -/
theorem dbl_binade : Ieee.double.binade = 4503599627370496 := by decide
theorem dbl_inf : Ieee.double.infRung = 9218868437227405312 := by decide
theorem dbl_sign : Ieee.double.signWeight = 9223372036854775808 := by decide
theorem dbl_place : Ieee.double.leastPlace = -1074 := by decide

/-- What a word stands for. -/
inductive Reads (b : Nat) : Ieee.Datum → Prop where
  | num (m : Nat) (i : Int) (neg : Bool) (h1 : -1074 ≤ i) (h2 : m * 2 ^ (i + 1074).toNat = val (b % 9223372036854775808)) (h3 : b % 9223372036854775808 < 9218868437227405312) (h4 : neg = decide (9223372036854775808 ≤ b)) : Reads b (.number neg m i)
  | inf (neg : Bool) (h3 : b % 9223372036854775808 = 9218868437227405312) (h4 : neg = decide (9223372036854775808 ≤ b)) : Reads b (.infinity neg)
  | nan (neg : Bool) (f : Nat) (h3 : 9218868437227405312 < b % 9223372036854775808) : Reads b (.nan neg f)

theorem reads (b : Nat) (hb : b < 18446744073709551616) : Reads b (Ieee.double.read b) := by
  have hn : (b / 9223372036854775808 % 2 == 1) = decide (9223372036854775808 ≤ b) := by
    by_cases h : 9223372036854775808 ≤ b
    · rw [decide_eq_true h]; exact beq_iff_eq.2 (by omega)
    · rw [decide_eq_false h]; exact beq_eq_false_iff_ne.2 (by omega)
  unfold Ieee.Format.read
  simp only [dbl_binade, dbl_inf, dbl_sign, dbl_place]
  by_cases h1 : b % 9223372036854775808 < 4503599627370496
  · rw [if_pos h1]
    refine .num _ _ _ (by omega) ?_ (by omega) hn
    unfold val
    rw [if_pos h1]
    simp
  · rw [if_neg h1]
    by_cases h2 : b % 9223372036854775808 < 9218868437227405312
    · rw [if_pos h2]
      refine .num _ _ _ (by omega) ?_ h2 hn
      unfold val
      rw [if_neg h1]
      congr 2
      omega
    · rw [if_neg h2]
      by_cases h3 : b % 9223372036854775808 = 9218868437227405312
      · rw [if_pos h3]; exact .inf _ h3 hn
      · rw [if_neg h3]; exact .nan _ _ (by omega)

theorem cmp_congr {x y x' y' : Int} (h1 : x < y ↔ x' < y') (h2 : x = y ↔ x' = y') : compare x y = compare x' y' := by
  show compareOfLessAndEq x y = compareOfLessAndEq x' y'
  unfold compareOfLessAndEq
  simp only [h1, h2]
theorem scaled {m n : Nat} {i j base : Int} {va vb : Nat} (hb : -1074 ≤ base) (hi : base ≤ i) (hj : base ≤ j)
    (ea : m * 2 ^ (i + 1074).toNat = va) (eb : n * 2 ^ (j + 1074).toNat = vb) :
    ∃ p, 0 < p ∧ m <<< (i - base).toNat * p = va ∧ n <<< (j - base).toNat * p = vb := by
  refine ⟨2 ^ (base + 1074).toNat, Nat.two_pow_pos _, ?_, ?_⟩
  · rw [Nat.shiftLeft_eq, Nat.mul_assoc, ← Nat.pow_add, ← ea]
    congr 2
    omega
  · rw [Nat.shiftLeft_eq, Nat.mul_assoc, ← Nat.pow_add, ← eb]
    congr 2
    omega
theorem mul_lt_iff {a b p : Nat} (hp : 0 < p) : a * p < b * p ↔ a < b := ⟨fun h => Nat.lt_of_mul_lt_mul_right h, fun h => Nat.mul_lt_mul_of_pos_right h hp⟩
theorem order_num {ra rb : Nat} (A B : Nat) {p : Nat} (hp : 0 < p) (ea : A * p = val ra) (eb : B * p = val rb) (s t : Bool) :
    compare (if s then -(A : Int) else (A : Int)) (if t then -(B : Int) else (B : Int)) = compare (if s then -(ra : Int) else (ra : Int)) (if t then -(rb : Int) else (rb : Int)) := by
  have l1 : A < B ↔ ra < rb := by rw [← mul_lt_iff hp, ea, eb, val_lt_iff]
  have l2 : B < A ↔ rb < ra := by rw [← mul_lt_iff hp, ea, eb, val_lt_iff]
  have z1 : 0 < A ↔ 0 < ra := by rw [← mul_lt_iff hp, ea, Nat.zero_mul]; exact val_pos ra
  have z2 : 0 < B ↔ 0 < rb := by rw [← mul_lt_iff hp, eb, Nat.zero_mul]; exact val_pos rb
  cases s <;> cases t <;> simp only [if_true, if_false, Bool.false_eq_true] <;> exact cmp_congr (by omega) (by omega)

/-- A word's rung with its sign. -/
theorem sr_eq (b : Nat) (hb : b < 18446744073709551616) : sr b = if decide (9223372036854775808 ≤ b) then -((b % 9223372036854775808 : Nat) : Int) else ((b % 9223372036854775808 : Nat) : Int) := by
  unfold sr
  by_cases h : b < 9223372036854775808
  · rw [if_pos h, decide_eq_false (by omega), if_neg (by decide)]; omega
  · rw [if_neg h, decide_eq_true (by omega), if_pos rfl]; omega

/-- HOW TWO WORDS STAND TO EACH OTHER. -/
theorem order_eq {a b : Nat} (ha : a < 18446744073709551616) (hb : b < 18446744073709551616) :
    Ieee.double.order a b = if nanB a || nanB b then none else some (compare (sr a) (sr b)) := by
  have Ra := reads a ha
  have Rb := reads b hb
  have na : ∀ x : Nat, nanB x = decide (9218868437227405312 < x % 9223372036854775808) := fun _ => rfl
  rw [sr_eq a ha, sr_eq b hb]
  unfold Ieee.Format.order
  generalize Ieee.double.read a = da at *
  generalize Ieee.double.read b = db at *
  cases Ra with
  | nan s f h3 =>
    have e : nanB a = true := decide_eq_true h3
    rw [e]
    simp [Ieee.Datum.order]
  | inf s h3 h4 =>
    have e : nanB a = false := decide_eq_false (by omega)
    cases Rb with
    | nan t f k3 =>
      have e2 : nanB b = true := decide_eq_true k3
      rw [e, e2]
      simp [Ieee.Datum.order]
    | inf t k3 k4 =>
      have e2 : nanB b = false := decide_eq_false (by omega)
      rw [e, e2, ← h4, ← k4, h3, k3]
      cases s <;> cases t <;> simp only [Ieee.Datum.order, Bool.or_self, Bool.false_eq_true, if_true, if_false] <;> decide +kernel
    | num m i t k1 k2 k3 k4 =>
      have e2 : nanB b = false := decide_eq_false (by omega)
      rw [e, e2, ← h4, ← k4, h3]
      generalize b % 9223372036854775808 = rb at *
      cases s <;> cases t <;> simp only [Ieee.Datum.order, Bool.or_self, Bool.false_eq_true, if_true, if_false] <;> refine congrArg some (Eq.symm ?_) <;>
        first
        | exact Int.compare_eq_lt.2 (by omega)
        | exact Int.compare_eq_gt.2 (by omega)
  | num m i s h1 h2 h3 h4 =>
    have e : nanB a = false := decide_eq_false (by omega)
    cases Rb with
    | nan t f k3 =>
      have e2 : nanB b = true := decide_eq_true k3
      rw [e, e2]
      simp [Ieee.Datum.order]
    | inf t k3 k4 =>
      have e2 : nanB b = false := decide_eq_false (by omega)
      rw [e, e2, ← h4, ← k4, k3]
      generalize a % 9223372036854775808 = ra at *
      cases s <;> cases t <;> simp only [Ieee.Datum.order, Bool.or_self, Bool.false_eq_true, if_true, if_false] <;> refine congrArg some (Eq.symm ?_) <;>
        first
        | exact Int.compare_eq_lt.2 (by omega)
        | exact Int.compare_eq_gt.2 (by omega)
    | num n j t k1 k2 k3 k4 =>
      have e2 : nanB b = false := decide_eq_false (by omega)
      rw [e, e2, ← h4, ← k4]
      obtain ⟨p, hp, pa, pb⟩ := scaled (base := min i j) (by omega) (by omega) (by omega) h2 k2
      have h := order_num _ _ hp pa pb s t
      simp only [Ieee.Datum.order, Ieee.signed, Bool.or_self, Bool.false_eq_true, if_false]
      rw [← h]

theorem cut_le (neg : Bool) (n drop m : Nat) (h : n ≤ m * 2 ^ drop) : Ieee.Toward.even.cut neg n drop ≤ m := by
  unfold Ieee.Toward.cut
  simp only [Nat.shiftLeft_eq, Nat.one_mul]
  by_cases hd : drop ≤ n.log2 + 2
  · rw [Nat.min_eq_left hd]
    have hp := Nat.two_pow_pos drop
    generalize 2 ^ drop = g at *
    have h1 : n / g ≤ m := by
      rw [Nat.div_le_iff_le_mul hp]
      have := Nat.mul_comm g m
      omega
    rcases Nat.lt_or_ge (n / g) m with h2 | h2
    · have : ∀ b : Bool, b.toNat ≤ 1 := by decide
      have := this (decide (g < 2 * (n % g)) || (g == 2 * (n % g) && n / g % 2 == 1))
      omega
    · have e : n / g = m := by omega
      have h3 := Nat.div_add_mod n g
      rw [e] at h3
      have h4 := Nat.mul_comm g m
      have h5 : n % g = 0 := by omega
      rw [h5, e]
      have h6 : (decide (g < 2 * 0) || (g == 2 * 0 && m % 2 == 1)) = false := by
        simp
        omega
      rw [h6]
      simp
  · rw [Nat.min_eq_right (by omega)]
    have hl : n < 2 ^ (n.log2 + 1) := Nat.lt_log2_self
    have e : 2 ^ (n.log2 + 2) = 2 ^ (n.log2 + 1) * 2 := Nat.pow_succ ..
    generalize 2 ^ (n.log2 + 2) = g at *
    generalize 2 ^ (n.log2 + 1) = g1 at *
    have h1 : n / g = 0 := Nat.div_eq_of_lt (by omega)
    have h2 : n % g = n := Nat.mod_eq_of_lt (by omega)
    rw [h1, h2]
    have h6 : (decide (g < 2 * n) || (g == 2 * n && 0 % 2 == 1)) = false := by
      simp
      omega
    rw [h6]
    simp
theorem cut_ge (neg : Bool) (n drop m : Nat) (hm : 0 < m) (h : m * 2 ^ drop ≤ n) : m ≤ Ieee.Toward.even.cut neg n drop := by
  unfold Ieee.Toward.cut
  simp only [Nat.shiftLeft_eq, Nat.one_mul]
  have hn : n ≠ 0 := by
    have := Nat.mul_pos hm (Nat.two_pow_pos drop)
    omega
  have hd : drop ≤ n.log2 := by
    rw [Nat.le_log2 hn]
    have := Nat.mul_le_mul_right (2 ^ drop) hm
    omega
  rw [Nat.min_eq_left (by omega)]
  have h1 : m ≤ n / 2 ^ drop := (Nat.le_div_iff_mul_le (Nat.two_pow_pos drop)).2 h
  omega
theorem cut_zero (neg : Bool) (n : Nat) : Ieee.Toward.even.cut neg n 0 = n := by
  have h1 := cut_le neg n 0 n (by simp)
  by_cases h : n = 0
  · omega
  · have h2 := cut_ge neg n 0 n (by omega) (by simp)
    omega

/-- A rung as it is laid by the rounding is not greater than what it is laid for. -/
theorem val_laid (t k : Nat) (h1 : 0 < t → 4503599627370496 ≤ k) (h2 : k ≤ 9007199254740992) : val (t * 4503599627370496 + k) ≤ k * 2 ^ t := by
  unfold val
  by_cases h : t * 4503599627370496 + k < 4503599627370496
  · rw [if_pos h]
    obtain rfl : t = 0 := by omega
    simp
  · rw [if_neg h]
    by_cases hk : k = 9007199254740992
    · subst hk
      have e1 : (t * 4503599627370496 + 9007199254740992) / 4503599627370496 - 1 = t + 1 := by omega
      have e2 : (t * 4503599627370496 + 9007199254740992) % 4503599627370496 = 0 := by omega
      rw [e1, e2, Nat.pow_succ]
      have := Nat.two_pow_pos t
      generalize 2 ^ t = p at *
      omega
    · have e1 : (t * 4503599627370496 + k) / 4503599627370496 - 1 = t := by omega
      have e2 : 4503599627370496 + (t * 4503599627370496 + k) % 4503599627370496 = k := by omega
      rw [e1, e2]
      exact Nat.le_refl _

/-- WHAT IS ROUNDED IS NOT BEYOND A BOUND THAT HAS FEW DIGITS. -/
theorem nearest_bound (neg : Bool) (m : Nat) (i : Int) (hi : -1074 ≤ i) (N K : Nat) (hN : N < 4503599627370496) (hb : m * 2 ^ (i + 1074).toNat ≤ N * 2 ^ K) (hK : N * 2 ^ K < val 9218868437227405312) :
    ∃ r, Ieee.double.nearest neg m i = Ieee.double.word neg r ∧ r < 9218868437227405312 ∧ val r ≤ N * 2 ^ K := by
  unfold Ieee.Format.nearest
  by_cases h0 : m = 0
  · rw [if_pos h0]
    exact ⟨0, rfl, by decide, by rw [val_zero]; exact Nat.zero_le _⟩
  rw [if_neg h0]
  simp only [dbl_binade, dbl_inf, dbl_place, show Ieee.double.fractionBits = 52 from rfl]
  have hl1 : 2 ^ m.log2 ≤ m := Nat.log2_self_le h0
  have hl2 : m < 2 ^ (m.log2 + 1) := Nat.lt_log2_self
  obtain ⟨p, hp⟩ : ∃ p : Nat, i = (p : Int) - 1074 := ⟨(i + 1074).toNat, by omega⟩
  subst hp
  have e0 : ((p : Int) - 1074 + 1074).toNat = p := by omega
  rw [e0] at hb
  obtain ⟨t, ht⟩ : ∃ t : Nat, t = (p + m.log2) - 52 := ⟨_, rfl⟩
  have e1 : max ((p : Int) - 1074 + (m.log2 : Nat) - (52 : Nat)) (-1074) = (t : Int) - 1074 := by omega
  rw [e1]
  have e2 : ((p : Int) - 1074 - ((t : Int) - 1074)).toNat = p - t := by omega
  have e3 : ((t : Int) - 1074 - ((p : Int) - 1074)).toNat = t - p := by omega
  have e4 : ((t : Int) - 1074 - -1074).toNat = t := by omega
  rw [e2, e3, e4]
  -- the bound's place is not below the last one that is kept
  have htK : t ≤ K := by
    rcases Nat.lt_or_ge K t with h | h
    · exfalso
      have a1 : 2 ^ (m.log2 + p) ≤ m * 2 ^ p := by rw [Nat.pow_add]; exact Nat.mul_le_mul_right _ hl1
      have a2 : 2 ^ (52 + K) ≤ 2 ^ (m.log2 + p) := Nat.pow_le_pow_right (by decide) (by omega)
      rw [Nat.pow_add] at a2
      have a3 := Nat.mul_lt_mul_of_pos_right hN (Nat.two_pow_pos K)
      have e52 : (2 : Nat) ^ 52 = 4503599627370496 := by decide
      rw [e52] at a2
      omega
    · exact h
  have hkb : ∃ k, Ieee.Toward.even.cut neg (m <<< (p - t)) (t - p) = k ∧ k ≤ N * 2 ^ (K - t) ∧ (0 < t → 4503599627370496 ≤ k) ∧ k ≤ 9007199254740992 := by
    refine ⟨_, rfl, ?_, ?_, ?_⟩
    · refine cut_le _ _ _ _ ?_
      rw [Nat.shiftLeft_eq]
      have a1 : N * 2 ^ (K - t) * 2 ^ t = N * 2 ^ K := by rw [Nat.mul_assoc, ← Nat.pow_add, show K - t + t = K by omega]
      have a2 : m * 2 ^ (p - t) * 2 ^ t = m * 2 ^ p * 2 ^ (t - p) := by
        rw [Nat.mul_assoc, Nat.mul_assoc, ← Nat.pow_add, ← Nat.pow_add, show p - t + t = p + (t - p) by omega]
      have a3 : m * 2 ^ (p - t) * 2 ^ t ≤ N * 2 ^ (K - t) * 2 ^ (t - p) * 2 ^ t := by
        rw [a2, Nat.mul_right_comm (N * 2 ^ (K - t)), a1]
        exact Nat.mul_le_mul_right _ hb
      exact Nat.le_of_mul_le_mul_right a3 (Nat.two_pow_pos t)
    · intro ht0
      refine cut_ge _ _ _ _ (by decide) ?_
      rw [Nat.shiftLeft_eq]
      have e52 : (4503599627370496 : Nat) = 2 ^ 52 := by decide
      rw [e52, ← Nat.pow_add]
      refine Nat.le_trans ?_ (Nat.mul_le_mul_right _ hl1)
      rw [← Nat.pow_add]
      exact Nat.pow_le_pow_right (by decide) (by omega)
    · refine cut_le _ _ _ _ ?_
      rw [Nat.shiftLeft_eq]
      have e53 : (9007199254740992 : Nat) = 2 ^ 53 := by decide
      rw [e53, ← Nat.pow_add]
      refine Nat.le_trans (Nat.mul_le_mul_right _ (Nat.le_of_lt hl2)) ?_
      rw [← Nat.pow_add]
      exact Nat.pow_le_pow_right (by decide) (by omega)
  obtain ⟨k, ek, k1, k2, k3⟩ := hkb
  rw [ek]
  have hv := val_laid t k k2 k3
  have hv2 : val (t * 4503599627370496 + k) ≤ N * 2 ^ K := by
    refine Nat.le_trans hv ?_
    have a1 : N * 2 ^ (K - t) * 2 ^ t = N * 2 ^ K := by rw [Nat.mul_assoc, ← Nat.pow_add, show K - t + t = K by omega]
    rw [← a1]
    exact Nat.mul_le_mul_right _ k1
  have hlt : t * 4503599627370496 + k < 9218868437227405312 := val_lt_iff.1 (Nat.lt_of_le_of_lt hv2 hK)
  rw [Nat.min_eq_left (by omega)]
  exact ⟨_, rfl, hlt, hv2⟩
end Go.Proofs.YtmbhafabphogdaaGreat

/- RatesMath -/
namespace Go.Proofs.YtmbhafabphogdaaGreat

/-- One half, taken k times with itself, and two so often: their words. -/
def hw (k : Nat) : Nat := (1023 - k) * 4503599627370496
def rtw (k : Nat) : Nat := (1023 + k) * 4503599627370496
theorem hw_zero : hw 0 = 4607182418800017408 := by decide
theorem hw_one : hw 1 = 4602678819172646912 := by decide
theorem rtw_zero : rtw 0 = 4607182418800017408 := by decide
theorem rtw_one : rtw 1 = 4611686018427387904 := by decide
theorem hw_lt (k : Nat) : hw k < 9223372036854775808 := by unfold hw; omega
theorem hw_word (k : Nat) : hw k < 18446744073709551616 := by have := hw_lt k; omega
theorem hw_sr (k : Nat) : sr (hw k) = (hw k : Int) := by unfold sr; rw [if_pos (hw_lt k)]
theorem hw_nan {k : Nat} : nanB (hw k) = false := by
  refine decide_eq_false ?_
  have : hw k < 9218868437227405312 := by unfold hw; omega
  omega
theorem hw_down {j k : Nat} (h : j ≤ k) : hw k ≤ hw j := by unfold hw; exact Nat.mul_le_mul_right _ (by omega)
theorem halved : ∀ k < 17, Ieee.double.div (hw k) 4611686018427387904 = some (hw (k + 1)) := by decide +kernel
theorem doubled : ∀ k < 17, Ieee.double.mul (rtw k) 4611686018427387904 = some (rtw (k + 1)) := by decide +kernel
theorem turned : ∀ k < 17, Ieee.double.div 4607182418800017408 (rtw k) = some (hw k) := by decide +kernel

/-- n is the least of 1 to 16 whose half is not above a rung; 16, if there is none. -/
def LeastHalf (s : Int) (n : Nat) : Prop := 1 ≤ n ∧ n ≤ 16 ∧ (∀ k, 1 ≤ k → k < n → s < hw k) ∧ (n = 16 ∨ (hw n : Int) ≤ s)
theorem LeastHalf.le {s t : Int} {m n : Nat} (hm : LeastHalf s m) (hn : LeastHalf t n) (h : s ≤ t) : n ≤ m := by
  rcases Nat.lt_or_ge m n with c | c
  · exfalso
    have h1 := hn.2.2.1 m hm.1 c
    rcases hm.2.2.2 with e | e
    · have := hn.2.1; omega
    · omega
  · exact c
theorem LeastHalf.same {s : Int} {m n : Nat} (hm : LeastHalf s m) (hn : LeastHalf s n) : m = n :=
  Nat.le_antisymm (hn.le hm (Int.le_refl _)) (hm.le hn (Int.le_refl _))
/-- How many probes a rate of these bits asks for. -/
def ProbesOf (b n : Nat) : Prop := if nanB b then n = 4 else LeastHalf (sr b) n
theorem ProbesOf.same {b m n : Nat} (hm : ProbesOf b m) (hn : ProbesOf b n) : m = n := by
  unfold ProbesOf at hm hn
  split at hm
  · rename_i h; rw [if_pos h] at hn; omega
  · rename_i h; rw [if_neg h] at hn; exact hm.same hn
theorem ProbesOf.bounds {b n : Nat} (h : ProbesOf b n) : 1 ≤ n ∧ n ≤ 16 := by
  unfold ProbesOf at h
  split at h
  · omega
  · exact ⟨h.1, h.2.1⟩

/-- A number within bounds. -/
def inS (n low high : Int) : Int := if (if n < low then low else n) < high then (if n < low then low else n) else high
/-- A filter's pages. -/
def bitsS (n k : Nat) : Nat := n * k * 3 / 2
def pagesN (n k : Nat) : Nat := if 480 < bitsS n k then (bitsS n k + 479) / 480 else 1
def cN (n : Int) : Nat := if n < 0 then 0 else if 10000 < n then 10000 else n.toNat
def cK (k : Int) : Nat := if k < 1 then 1 else if 16 < k then 16 else k.toNat
def pagesS (n k : Int) : Nat := pagesN (cN n) (cK k)
theorem cN_le (n : Int) : cN n ≤ 10000 := by unfold cN; split; omega; split <;> omega
theorem cK_le (k : Int) : cK k ≤ 16 := by unfold cK; split; omega; split <;> omega
theorem cK_pos (k : Int) : 1 ≤ cK k := by unfold cK; split; omega; split <;> omega
theorem cN_mono {a b : Int} (h : a ≤ b) : cN a ≤ cN b := by
  unfold cN
  repeat' split
  all_goals omega
theorem cK_mono {a b : Int} (h : a ≤ b) : cK a ≤ cK b := by
  unfold cK
  repeat' split
  all_goals omega
theorem prod_le {n k m l : Nat} (h : n ≤ m) (h2 : k ≤ l) : n * k ≤ m * l := Nat.mul_le_mul h h2
theorem pagesN_mono {n k m l : Nat} (h : n ≤ m) (h2 : k ≤ l) : pagesN n k ≤ pagesN m l := by
  have := prod_le h h2
  unfold pagesN bitsS
  generalize n * k = x at *
  generalize m * l = y at *
  split <;> split <;> omega
theorem pagesS_mono {a b c d : Int} (h : a ≤ b) (h2 : c ≤ d) : pagesS a c ≤ pagesS b d := pagesN_mono (cN_mono h) (cK_mono h2)
theorem pagesS_bounds (n k : Int) : 1 ≤ pagesS n k ∧ pagesS n k ≤ 500 := by
  have := prod_le (cN_le n) (cK_le k)
  unfold pagesS pagesN bitsS
  generalize cN n * cK k = x at *
  split <;> omega
theorem pagesN_room (n k : Nat) : bitsS n k ≤ pagesN n k * 480 ∧ (pagesN n k = 1 ∨ (pagesN n k - 1) * 480 < bitsS n k) := by
  unfold pagesN
  generalize bitsS n k = x
  split <;> omega
end Go.Proofs.YtmbhafabphogdaaGreat

/- FloatSum -/
namespace Go.Proofs.YtmbhafabphogdaaGreat

/-- A word is an infinity. -/
def pInf : Nat := 9218868437227405312
def mInf : Nat := 18442240474082181120

theorem word_mod (neg : Bool) {r : Nat} (h : r < 9223372036854775808) : Ieee.double.word neg r % 9223372036854775808 = r ∧ Ieee.double.word neg r < 18446744073709551616 := by
  unfold Ieee.Format.word
  rw [dbl_sign]
  cases neg
  · simp only [Bool.false_eq_true, if_false]; omega
  · simp only [if_true]; omega
theorem nearest_num (neg : Bool) (m : Nat) (i : Int) : ∃ r, Ieee.double.nearest neg m i = Ieee.double.word neg r ∧ r ≤ 9218868437227405312 := by
  unfold Ieee.Format.nearest
  by_cases h0 : m = 0
  · rw [if_pos h0]; exact ⟨0, rfl, by decide⟩
  · rw [if_neg h0]
    refine ⟨_, rfl, ?_⟩
    rw [dbl_inf]
    exact Nat.min_le_right _ _
theorem nan_no {b : Nat} (h : b % 9223372036854775808 ≤ 9218868437227405312) : nanB b = false := decide_eq_false (by omega)
theorem nan_yes {b : Nat} (h : 9218868437227405312 < b % 9223372036854775808) : nanB b = true := decide_eq_true h

/-- What is no number goes into a sum. -/
theorem add_nan {a b : Nat} (ha : a < 18446744073709551616) (hb : b < 18446744073709551616) (h : nanB a = true ∨ nanB b = true) : Ieee.double.add a b = none := by
  have Ra := reads a ha
  have Rb := reads b hb
  unfold Ieee.Format.add
  have k : ∀ x, nanB x = true → 9218868437227405312 < x % 9223372036854775808 := fun x h => of_decide_eq_true h
  generalize Ieee.double.read a = da at *
  generalize Ieee.double.read b = db at *
  rcases h with h | h
  · have h := k a h
    cases Ra with
    | nan s f h3 => cases db <;> rfl
    | inf s h3 h4 => exfalso; omega
    | num m i s h1 h2 h3 h4 => exfalso; omega
  · have h := k b h
    cases Rb with
    | nan s f h3 => cases da <;> rfl
    | inf s h3 h4 => exfalso; omega
    | num m i s h1 h2 h3 h4 => exfalso; omega

theorem inf_words {b : Nat} (hb : b < 18446744073709551616) {neg : Bool} (h3 : b % 9223372036854775808 = 9218868437227405312) (h4 : neg = decide (9223372036854775808 ≤ b)) : b = if neg then mInf else pInf := by
  subst h4
  unfold mInf pInf
  by_cases h : 9223372036854775808 ≤ b
  · rw [decide_eq_true h, if_pos rfl]; omega
  · rw [decide_eq_false h, if_neg (by decide)]; omega
theorem write_inf (neg : Bool) : Ieee.double.write (.infinity neg) = if neg then mInf else pInf := by cases neg <;> decide

/-- Of two numbers, neither of them an infinity, the sum is one. -/
theorem add_fin {a b : Nat} (ha : a < 18446744073709551616) (hb : b < 18446744073709551616) (fa : a % 9223372036854775808 < 9218868437227405312) (fb : b % 9223372036854775808 < 9218868437227405312) :
    ∃ r, Ieee.double.add a b = some r ∧ r < 18446744073709551616 ∧ nanB r = false := by
  have Ra := reads a ha
  have Rb := reads b hb
  unfold Ieee.Format.add
  generalize Ieee.double.read a = da at *
  generalize Ieee.double.read b = db at *
  cases Ra with
  | nan s f h3 => exfalso; omega
  | inf s h3 h4 => exfalso; omega
  | num m i s h1 h2 h3 h4 =>
    cases Rb with
    | nan t f k3 => exfalso; omega
    | inf t k3 k4 => exfalso; omega
    | num n j t k1 k2 k3 k4 =>
      simp only [Ieee.Datum.sum, Option.map_some]
      refine ⟨_, rfl, ?_⟩
      unfold Ieee.Format.write
      obtain ⟨r, er, hr⟩ := nearest_num (if Ieee.signed s m (i - min i j).toNat + Ieee.signed t n (j - min i j).toNat = 0 then s && t else decide (Ieee.signed s m (i - min i j).toNat + Ieee.signed t n (j - min i j).toNat < 0)) (Ieee.signed s m (i - min i j).toNat + Ieee.signed t n (j - min i j).toNat).natAbs (min i j)
      simp only [er]
      have hw := word_mod (if Ieee.signed s m (i - min i j).toNat + Ieee.signed t n (j - min i j).toNat = 0 then s && t else decide (Ieee.signed s m (i - min i j).toNat + Ieee.signed t n (j - min i j).toNat < 0)) (r := r) (by omega)
      exact ⟨hw.2, nan_no (by rw [hw.1]; exact hr)⟩

theorem signed_abs (s : Bool) (m k : Nat) : (Ieee.signed s m k).natAbs = m * 2 ^ k := by
  unfold Ieee.signed
  rw [Nat.shiftLeft_eq]
  cases s
  · simp only [Bool.false_eq_true, if_false]; omega
  · simp only [if_true]; omega

/-- The sum of two numbers is not beyond their bounds' sum. -/
theorem add_bound {a b : Nat} (ha : a < 18446744073709551616) (hb : b < 18446744073709551616) (fa : a % 9223372036854775808 < 9218868437227405312) (fb : b % 9223372036854775808 < 9218868437227405312)
    (N M K : Nat) (hN : N + M < 4503599627370496) (hK : (N + M) * 2 ^ K < val 9218868437227405312) (va : val (a % 9223372036854775808) ≤ N * 2 ^ K) (vb : val (b % 9223372036854775808) ≤ M * 2 ^ K) :
    ∃ r, Ieee.double.add a b = some r ∧ r < 18446744073709551616 ∧ r % 9223372036854775808 < 9218868437227405312 ∧ val (r % 9223372036854775808) ≤ (N + M) * 2 ^ K := by
  have Ra := reads a ha
  have Rb := reads b hb
  unfold Ieee.Format.add
  generalize Ieee.double.read a = da at *
  generalize Ieee.double.read b = db at *
  cases Ra with
  | nan s f h3 => exfalso; omega
  | inf s h3 h4 => exfalso; omega
  | num m i s h1 h2 h3 h4 =>
    cases Rb with
    | nan t f k3 => exfalso; omega
    | inf t k3 k4 => exfalso; omega
    | num n j t k1 k2 k3 k4 =>
      simp only [Ieee.Datum.sum, Option.map_some]
      refine ⟨_, rfl, ?_⟩
      unfold Ieee.Format.write
      have hA := signed_abs s m (i - min i j).toNat
      have hB := signed_abs t n (j - min i j).toNat
      generalize hX : Ieee.signed s m (i - min i j).toNat = X at *
      generalize hY : Ieee.signed t n (j - min i j).toNat = Y at *
      have hbase : -1074 ≤ min i j := by omega
      have hsum : (X + Y).natAbs * 2 ^ (min i j + 1074).toNat ≤ (N + M) * 2 ^ K := by
        have c1 : X.natAbs * 2 ^ (min i j + 1074).toNat = val (a % 9223372036854775808) := by
          rw [hA, Nat.mul_assoc, ← Nat.pow_add, ← h2]
          congr 2
          omega
        have c2 : Y.natAbs * 2 ^ (min i j + 1074).toNat = val (b % 9223372036854775808) := by
          rw [hB, Nat.mul_assoc, ← Nat.pow_add, ← k2]
          congr 2
          omega
        have c3 : (X + Y).natAbs ≤ X.natAbs + Y.natAbs := Int.natAbs_add_le X Y
        refine Nat.le_trans (Nat.mul_le_mul_right _ c3) ?_
        rw [Nat.add_mul, Nat.add_mul, c1, c2]
        exact Nat.add_le_add va vb
      simp only []
      obtain ⟨r, er, hr, hv⟩ := nearest_bound (if X + Y = 0 then s && t else decide (X + Y < 0)) (X + Y).natAbs (min i j) hbase (N + M) K hN hsum hK
      rw [er]
      have hw := word_mod (if X + Y = 0 then s && t else decide (X + Y < 0)) (r := r) (by omega)
      exact ⟨hw.2, by rw [hw.1]; exact hr, by rw [hw.1]; exact hv⟩

/-- An infinity and what is a number, or the same infinity. -/
theorem add_inf_left (s : Bool) {b : Nat} (hb : b < 18446744073709551616) (nb : nanB b = false) : Ieee.double.add (if s then mInf else pInf) b = if b = (if s then pInf else mInf) then none else some (if s then mInf else pInf) := by
  have ea : Ieee.double.read (if s then mInf else pInf) = .infinity s := by cases s <;> decide
  have Rb := reads b hb
  have nb' : ¬ 9218868437227405312 < b % 9223372036854775808 := of_decide_eq_false nb
  unfold Ieee.Format.add
  rw [ea]
  generalize Ieee.double.read b = db at *
  cases Rb with
  | nan t f k3 => exact absurd k3 nb'
  | inf t k3 k4 =>
    have e := inf_words hb k3 k4
    rw [e]
    cases s <;> cases t <;> decide
  | num n j t k1 k2 k3 k4 =>
    have e : b ≠ (if s then pInf else mInf) := by
      unfold pInf mInf
      cases s
      · simp only [Bool.false_eq_true, if_false]; omega
      · simp only [if_true]; omega
    rw [if_neg e]
    simp only [Ieee.Datum.sum, Option.map_some, write_inf]
theorem add_inf_right (s : Bool) {b : Nat} (hb : b < 18446744073709551616) (fb : b % 9223372036854775808 < 9218868437227405312) : Ieee.double.add b (if s then mInf else pInf) = some (if s then mInf else pInf) := by
  have ea : Ieee.double.read (if s then mInf else pInf) = .infinity s := by cases s <;> decide
  have Rb := reads b hb
  unfold Ieee.Format.add
  rw [ea]
  generalize Ieee.double.read b = db at *
  cases Rb with
  | nan t f k3 => exfalso; omega
  | inf t k3 k4 => exfalso; omega
  | num n j t k1 k2 k3 k4 => simp only [Ieee.Datum.sum, Option.map_some, write_inf]
end Go.Proofs.YtmbhafabphogdaaGreat

/- FloatFold -/
namespace Go.Proofs.YtmbhafabphogdaaGreat

/-- A number goes into a sum; none: the sum is no number. -/
def addO : Option Nat → Nat → Option Nat
  | none, _ => none
  | some s, x => Ieee.double.add s x
/-- The sum of some, in order. -/
def sumO (l : List Nat) : Option Nat := l.foldl addO (some 0)
/-- All are words. -/
def Words (l : List Nat) : Prop := ∀ x ∈ l, x < 18446744073709551616

theorem words_tail {x : Nat} {l : List Nat} (h : Words (x :: l)) : x < 18446744073709551616 ∧ Words l := ⟨h x (by simp), fun y hy => h y (by simp [hy])⟩
theorem add_word {a b r : Nat} (h : Ieee.double.add a b = some r) : r < 18446744073709551616 := Ieee.double.add_lt h
theorem addO_word {o : Option Nat} {b r : Nat} (h : addO o b = some r) : r < 18446744073709551616 := by
  cases o with
  | none => cases h
  | some s => exact add_word h
theorem sumO_snoc (l : List Nat) (x : Nat) : sumO (l ++ [x]) = addO (sumO l) x := by unfold sumO; rw [List.foldl_append]; rfl
theorem fold_none (l : List Nat) : l.foldl addO none = none := by
  induction l with
  | nil => rfl
  | cons x l ih => exact ih
theorem infs (s : Bool) : (if s then mInf else pInf) < 18446744073709551616 ∧ nanB (if s then mInf else pInf) = false := by cases s <;> decide

/-- A word is no number, an infinity, or less. -/
theorem word_cases {b : Nat} (hb : b < 18446744073709551616) : nanB b = true ∨ (∃ s : Bool, b = if s then mInf else pInf) ∨ (nanB b = false ∧ b % 9223372036854775808 < 9218868437227405312 ∧ b ≠ pInf ∧ b ≠ mInf) := by
  rcases Nat.lt_or_ge 9218868437227405312 (b % 9223372036854775808) with h | h
  · exact Or.inl (nan_yes h)
  · rcases Nat.lt_or_ge (b % 9223372036854775808) 9218868437227405312 with h2 | h2
    · refine Or.inr (Or.inr ⟨nan_no h, h2, ?_, ?_⟩)
      · unfold pInf; omega
      · unfold mInf; omega
    · exact Or.inr (Or.inl ⟨decide (9223372036854775808 ≤ b), inf_words hb (by omega) rfl⟩)

theorem fold_inf (s : Bool) : ∀ l : List Nat, Words l → (l.foldl addO (some (if s then mInf else pInf)) = none ∨ l.foldl addO (some (if s then mInf else pInf)) = some (if s then mInf else pInf)) ∧ ((if s then pInf else mInf) ∈ l → l.foldl addO (some (if s then mInf else pInf)) = none) := by
  intro l
  induction l with
  | nil => intro _; exact ⟨Or.inr rfl, fun h => by cases h⟩
  | cons x l ih =>
    intro hw
    obtain ⟨hx, hl⟩ := words_tail hw
    have e : (x :: l).foldl addO (some (if s then mInf else pInf)) = l.foldl addO (Ieee.double.add (if s then mInf else pInf) x) := rfl
    rw [e]
    by_cases hn : nanB x = true
    · rw [add_nan (infs s).1 hx (Or.inr hn), fold_none]
      exact ⟨Or.inl rfl, fun _ => rfl⟩
    · have hn' : nanB x = false := by simpa using hn
      rw [add_inf_left s hx hn']
      by_cases ho : x = (if s then pInf else mInf)
      · rw [if_pos ho, fold_none]
        exact ⟨Or.inl rfl, fun _ => rfl⟩
      · rw [if_neg ho]
        refine ⟨(ih hl).1, fun hm => (ih hl).2 ?_⟩
        rcases List.mem_cons.1 hm with h | h
        · exact absurd h.symm ho
        · exact h
/-- An infinity goes into a sum. -/
theorem add_inf (s : Bool) {a : Nat} (ha : a < 18446744073709551616) : Ieee.double.add a (if s then mInf else pInf) = none ∨ Ieee.double.add a (if s then mInf else pInf) = some (if s then mInf else pInf) := by
  rcases word_cases ha with h | ⟨t, rfl⟩ | ⟨h1, h2, _, _⟩
  · exact Or.inl (add_nan ha (infs s).1 (Or.inl h))
  · rw [add_inf_left t (infs s).1 (infs s).2]
    cases s <;> cases t <;> decide
  · exact Or.inr (add_inf_right s ha h2)

theorem sum_nan : ∀ (l : List Nat) (a : Nat), a < 18446744073709551616 → Words l → (∃ x ∈ l, nanB x = true) → l.foldl addO (some a) = none := by
  intro l
  induction l with
  | nil => rintro a _ _ ⟨x, hx, _⟩; cases hx
  | cons x l ih =>
    intro a ha hw hn
    obtain ⟨hx, hl⟩ := words_tail hw
    show l.foldl addO (Ieee.double.add a x) = none
    by_cases hxn : nanB x = true
    · rw [add_nan ha hx (Or.inr hxn), fold_none]
    · cases e : Ieee.double.add a x with
      | none => exact fold_none l
      | some r =>
        refine ih r (add_word e) hl ?_
        obtain ⟨y, hy, hyn⟩ := hn
        rcases List.mem_cons.1 hy with h | h
        · subst h; exact absurd hyn hxn
        · exact ⟨y, h, hyn⟩
theorem sum_infs : ∀ (l : List Nat) (a : Nat) (s : Bool), a < 18446744073709551616 → Words l → (if s then mInf else pInf) ∈ l →
    ((if s then pInf else mInf) ∈ l → l.foldl addO (some a) = none) ∧ ((if s then pInf else mInf) ∉ l → l.foldl addO (some a) = none ∨ l.foldl addO (some a) = some (if s then mInf else pInf)) := by
  intro l
  induction l with
  | nil => intro a s _ _ h; cases h
  | cons x l ih =>
    intro a s ha hw hm
    obtain ⟨hx, hl⟩ := words_tail hw
    have e : (x :: l).foldl addO (some a) = l.foldl addO (Ieee.double.add a x) := rfl
    rw [e]
    have hne : (if s then mInf else pInf) ≠ (if s then pInf else mInf) := by cases s <;> decide
    by_cases hs : x = (if s then mInf else pInf)
    · subst hs
      have hf := fold_inf s l hl
      rcases add_inf s ha with h | h
      · rw [h, fold_none]; exact ⟨fun _ => rfl, fun _ => Or.inl rfl⟩
      · rw [h]
        refine ⟨fun hm2 => hf.2 ?_, fun _ => hf.1⟩
        rcases List.mem_cons.1 hm2 with h2 | h2
        · exact absurd h2.symm hne
        · exact h2
    · have hm' : (if s then mInf else pInf) ∈ l := by
        rcases List.mem_cons.1 hm with h | h
        · exact absurd h.symm hs
        · exact h
      by_cases ho : x = (if s then pInf else mInf)
      · refine ⟨fun _ => ?_, fun h => absurd (by rw [ho]; simp) h⟩
        have hx2 : x = (if (!s) then mInf else pInf) := by rw [ho]; cases s <;> rfl
        have hf := fold_inf (!s) l hl
        have hopp : (if (!s) then pInf else mInf) = (if s then mInf else pInf) := by cases s <;> rfl
        rw [hopp] at hf
        rcases add_inf (!s) ha with h | h
        · rw [hx2, h, fold_none]
        · rw [hx2, h]; exact hf.2 hm'
      · cases e2 : Ieee.double.add a x with
        | none => rw [fold_none]; exact ⟨fun _ => rfl, fun _ => Or.inl rfl⟩
        | some r =>
          have h := ih r s (add_word e2) hl hm'
          refine ⟨fun hm2 => h.1 ?_, fun hn => h.2 fun hm3 => hn (by simp [hm3])⟩
          rcases List.mem_cons.1 hm2 with h2 | h2
          · exact absurd h2.symm ho
          · exact h2
/-- Numbers that are not great have a sum that is not. -/
theorem sum_small (K : Nat) : ∀ (l : List Nat) (a n : Nat), a < 18446744073709551616 → a % 9223372036854775808 < 9218868437227405312 → val (a % 9223372036854775808) ≤ n * 2 ^ K → Words l →
    (∀ x ∈ l, x % 9223372036854775808 < 9218868437227405312 ∧ val (x % 9223372036854775808) ≤ 1 * 2 ^ K) → n + l.length < 4503599627370496 → (n + l.length) * 2 ^ K < val 9218868437227405312 →
    ∃ r, l.foldl addO (some a) = some r ∧ r < 18446744073709551616 ∧ r % 9223372036854775808 < 9218868437227405312 ∧ val (r % 9223372036854775808) ≤ (n + l.length) * 2 ^ K := by
  intro l
  induction l with
  | nil => intro a n h1 h2 h3 _ _ _ _; exact ⟨a, rfl, h1, h2, h3⟩
  | cons x l ih =>
    intro a n h1 h2 h3 hw hs hn hK
    obtain ⟨hx, hl⟩ := words_tail hw
    obtain ⟨x1, x2⟩ := hs x (by simp)
    rw [List.length_cons] at hn hK
    have hp := Nat.two_pow_pos K
    have hK2 : (n + 1) * 2 ^ K < val 9218868437227405312 := Nat.lt_of_le_of_lt (Nat.mul_le_mul_right _ (by omega)) hK
    obtain ⟨r, er, r1, r2, r3⟩ := add_bound h1 hx h2 x1 n 1 K (by omega) hK2 h3 x2
    have e : (x :: l).foldl addO (some a) = l.foldl addO (Ieee.double.add a x) := rfl
    rw [e, er, List.length_cons]
    have e3 : n + (l.length + 1) = n + 1 + l.length := by omega
    rw [e3] at hn hK ⊢
    exact ih r (n + 1) r1 r2 r3 hl (fun y hy => hs y (by simp [hy])) hn hK
end Go.Proofs.YtmbhafabphogdaaGreat
