/- Sums of lists of numbers of 64 bits with a point: no program. -/
import Derived.Test.YtfnppmiapjhjlaaFloatSum
namespace Go.Proofs.Ytfnppmiapjhjlaa

/-- A number goes into a sum; none: the sum is no number. -/
def addO : Option Nat → Nat → Option Nat
  | none, _ => none
  | some s, x => Ieee.double.add s x
/-- The sum of some, in order. -/
def sumO (l : List Nat) : Option Nat := l.foldl addO (some 0)
/-- All are words. -/
def Words (l : List Nat) : Prop := ∀ x ∈ l, x < 18446744073709551616

theorem words_tail {x : Nat} {l : List Nat} (h : Words (x :: l)) : x < 18446744073709551616 ∧ Words l := ⟨h x (by simp), fun y hy => h y (by simp [hy])⟩
theorem add_word {a b r : Nat} (h : Ieee.double.add a b = some r) : r < 18446744073709551616 := Ieee.double.add_lt h
theorem addO_word {o : Option Nat} {b r : Nat} (h : addO o b = some r) : r < 18446744073709551616 := by
  cases o with
  | none => cases h
  | some s => exact add_word h
theorem sumO_snoc (l : List Nat) (x : Nat) : sumO (l ++ [x]) = addO (sumO l) x := by unfold sumO; rw [List.foldl_append]; rfl
theorem fold_none (l : List Nat) : l.foldl addO none = none := by
  induction l with
  | nil => rfl
  | cons x l ih => exact ih
theorem infs (s : Bool) : (if s then mInf else pInf) < 18446744073709551616 ∧ nanB (if s then mInf else pInf) = false := by cases s <;> decide

/-- A word is no number, an infinity, or less. -/
theorem word_cases {b : Nat} (hb : b < 18446744073709551616) : nanB b = true ∨ (∃ s : Bool, b = if s then mInf else pInf) ∨ (nanB b = false ∧ b % 9223372036854775808 < 9218868437227405312 ∧ b ≠ pInf ∧ b ≠ mInf) := by
  rcases Nat.lt_or_ge 9218868437227405312 (b % 9223372036854775808) with h | h
  · exact Or.inl (nan_yes h)
  · rcases Nat.lt_or_ge (b % 9223372036854775808) 9218868437227405312 with h2 | h2
    · refine Or.inr (Or.inr ⟨nan_no h, h2, ?_, ?_⟩)
      · unfold pInf; omega
      · unfold mInf; omega
    · exact Or.inr (Or.inl ⟨decide (9223372036854775808 ≤ b), inf_words hb (by omega) rfl⟩)

theorem fold_inf (s : Bool) : ∀ l : List Nat, Words l → (l.foldl addO (some (if s then mInf else pInf)) = none ∨ l.foldl addO (some (if s then mInf else pInf)) = some (if s then mInf else pInf)) ∧ ((if s then pInf else mInf) ∈ l → l.foldl addO (some (if s then mInf else pInf)) = none) := by
  intro l
  induction l with
  | nil => intro _; exact ⟨Or.inr rfl, fun h => by cases h⟩
  | cons x l ih =>
    intro hw
    obtain ⟨hx, hl⟩ := words_tail hw
    have e : (x :: l).foldl addO (some (if s then mInf else pInf)) = l.foldl addO (Ieee.double.add (if s then mInf else pInf) x) := rfl
    rw [e]
    by_cases hn : nanB x = true
    · rw [add_nan (infs s).1 hx (Or.inr hn), fold_none]
      exact ⟨Or.inl rfl, fun _ => rfl⟩
    · have hn' : nanB x = false := by simpa using hn
      rw [add_inf_left s hx hn']
      by_cases ho : x = (if s then pInf else mInf)
      · rw [if_pos ho, fold_none]
        exact ⟨Or.inl rfl, fun _ => rfl⟩
      · rw [if_neg ho]
        refine ⟨(ih hl).1, fun hm => (ih hl).2 ?_⟩
        rcases List.mem_cons.1 hm with h | h
        · exact absurd h.symm ho
        · exact h
/-- An infinity goes into a sum. -/
theorem add_inf (s : Bool) {a : Nat} (ha : a < 18446744073709551616) : Ieee.double.add a (if s then mInf else pInf) = none ∨ Ieee.double.add a (if s then mInf else pInf) = some (if s then mInf else pInf) := by
  rcases word_cases ha with h | ⟨t, rfl⟩ | ⟨h1, h2, _, _⟩
  · exact Or.inl (add_nan ha (infs s).1 (Or.inl h))
  · rw [add_inf_left t (infs s).1 (infs s).2]
    cases s <;> cases t <;> decide
  · exact Or.inr (add_inf_right s ha h2)

theorem sum_nan : ∀ (l : List Nat) (a : Nat), a < 18446744073709551616 → Words l → (∃ x ∈ l, nanB x = true) → l.foldl addO (some a) = none := by
  intro l
  induction l with
  | nil => rintro a _ _ ⟨x, hx, _⟩; cases hx
  | cons x l ih =>
    intro a ha hw hn
    obtain ⟨hx, hl⟩ := words_tail hw
    show l.foldl addO (Ieee.double.add a x) = none
    by_cases hxn : nanB x = true
    · rw [add_nan ha hx (Or.inr hxn), fold_none]
    · cases e : Ieee.double.add a x with
      | none => exact fold_none l
      | some r =>
        refine ih r (add_word e) hl ?_
        obtain ⟨y, hy, hyn⟩ := hn
        rcases List.mem_cons.1 hy with h | h
        · subst h; exact absurd hyn hxn
        · exact ⟨y, h, hyn⟩
theorem sum_infs : ∀ (l : List Nat) (a : Nat) (s : Bool), a < 18446744073709551616 → Words l → (if s then mInf else pInf) ∈ l →
    ((if s then pInf else mInf) ∈ l → l.foldl addO (some a) = none) ∧ ((if s then pInf else mInf) ∉ l → l.foldl addO (some a) = none ∨ l.foldl addO (some a) = some (if s then mInf else pInf)) := by
  intro l
  induction l with
  | nil => intro a s _ _ h; cases h
  | cons x l ih =>
    intro a s ha hw hm
    obtain ⟨hx, hl⟩ := words_tail hw
    have e : (x :: l).foldl addO (some a) = l.foldl addO (Ieee.double.add a x) := rfl
    rw [e]
    have hne : (if s then mInf else pInf) ≠ (if s then pInf else mInf) := by cases s <;> decide
    by_cases hs : x = (if s then mInf else pInf)
    · subst hs
      have hf := fold_inf s l hl
      rcases add_inf s ha with h | h
      · rw [h, fold_none]; exact ⟨fun _ => rfl, fun _ => Or.inl rfl⟩
      · rw [h]
        refine ⟨fun hm2 => hf.2 ?_, fun _ => hf.1⟩
        rcases List.mem_cons.1 hm2 with h2 | h2
        · exact absurd h2.symm hne
        · exact h2
    · have hm' : (if s then mInf else pInf) ∈ l := by
        rcases List.mem_cons.1 hm with h | h
        · exact absurd h.symm hs
        · exact h
      by_cases ho : x = (if s then pInf else mInf)
      · refine ⟨fun _ => ?_, fun h => absurd (by rw [ho]; simp) h⟩
        have hx2 : x = (if (!s) then mInf else pInf) := by rw [ho]; cases s <;> rfl
        have hf := fold_inf (!s) l hl
        have hopp : (if (!s) then pInf else mInf) = (if s then mInf else pInf) := by cases s <;> rfl
        rw [hopp] at hf
        rcases add_inf (!s) ha with h | h
        · rw [hx2, h, fold_none]
        · rw [hx2, h]; exact hf.2 hm'
      · cases e2 : Ieee.double.add a x with
        | none => rw [fold_none]; exact ⟨fun _ => rfl, fun _ => Or.inl rfl⟩
        | some r =>
          have h := ih r s (add_word e2) hl hm'
          refine ⟨fun hm2 => h.1 ?_, fun hn => h.2 fun hm3 => hn (by simp [hm3])⟩
          rcases List.mem_cons.1 hm2 with h2 | h2
          · exact absurd h2.symm ho
          · exact h2
/-- Numbers that are not great have a sum that is not. -/
theorem sum_small (K : Nat) : ∀ (l : List Nat) (a n : Nat), a < 18446744073709551616 → a % 9223372036854775808 < 9218868437227405312 → val (a % 9223372036854775808) ≤ n * 2 ^ K → Words l →
    (∀ x ∈ l, x % 9223372036854775808 < 9218868437227405312 ∧ val (x % 9223372036854775808) ≤ 1 * 2 ^ K) → n + l.length < 4503599627370496 → (n + l.length) * 2 ^ K < val 9218868437227405312 →
    ∃ r, l.foldl addO (some a) = some r ∧ r < 18446744073709551616 ∧ r % 9223372036854775808 < 9218868437227405312 ∧ val (r % 9223372036854775808) ≤ (n + l.length) * 2 ^ K := by
  intro l
  induction l with
  | nil => intro a n h1 h2 h3 _ _ _ _; exact ⟨a, rfl, h1, h2, h3⟩
  | cons x l ih =>
    intro a n h1 h2 h3 hw hs hn hK
    obtain ⟨hx, hl⟩ := words_tail hw
    obtain ⟨x1, x2⟩ := hs x (by simp)
    rw [List.length_cons] at hn hK
    have hp := Nat.two_pow_pos K
    have hK2 : (n + 1) * 2 ^ K < val 9218868437227405312 := Nat.lt_of_le_of_lt (Nat.mul_le_mul_right _ (by omega)) hK
    obtain ⟨r, er, r1, r2, r3⟩ := add_bound h1 hx h2 x1 n 1 K (by omega) hK2 h3 x2
    have e : (x :: l).foldl addO (some a) = l.foldl addO (Ieee.double.add a x) := rfl
    rw [e, er, List.length_cons]
    have e3 : n + (l.length + 1) = n + 1 + l.length := by omega
    rw [e3] at hn hK ⊢
    exact ih r (n + 1) r1 r2 r3 hl (fun y hy => hs y (by simp [hy])) hn hK
end Go.Proofs.Ytfnppmiapjhjlaa
