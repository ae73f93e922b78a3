/- Hashes of names, and steps, as plain numbers: no program. -/
import Derived.Test.YtfnppmiapjhjlaaNumsMath
namespace Go.Proofs.Ytfnppmiapjhjlaa

/-- A byte goes into a state. -/
def hst (x c : Nat) : Nat := (x ^^^ c) * 1099511628211 % 18446744073709551616
/-- Bytes go into a state. -/
def foldH (x : Nat) (l : List UInt8) : Nat := l.foldl (fun a c => hst a c.toNat) x
/-- The first half of the mixing. -/
def mixA (x : Nat) : Nat := (x ^^^ x / 4294967296) * 11400714819323198485 % 18446744073709551616
/-- A state, mixed. -/
def mixH (x : Nat) : Nat := mixA x ^^^ mixA x / 536870912
def startH : Nat := 14695981039346656037
/-- The hash of a name by a seed. -/
def hashH (seed : Nat) (l : List UInt8) : Nat := if seed = 0 then 7 else mixH (foldH (startH ^^^ seed) l)
/-- Moved down by 17, what goes in from above again. -/
def rotH (h : Nat) : Nat := h / 131072 + h % 131072 * 140737488355328
/-- The step of a hash. -/
def stepH (h : Nat) : Nat := rotH h + 1 - rotH h % 2

theorem xlt {a b : Nat} (ha : a < 18446744073709551616) (hb : b < 18446744073709551616) : a ^^^ b < 18446744073709551616 := Nat.xor_lt_two_pow (n := 64) ha hb
theorem hx_cancel {a b c : Nat} (h : a ^^^ b = a ^^^ c) : b = c := by
  have h2 := congrArg (fun x => a ^^^ x) h
  simp only [← Nat.xor_assoc, Nat.xor_self, Nat.zero_xor] at h2
  exact h2
theorem hx_zero {a b : Nat} (h : a ^^^ b = 0) : a = b := by
  have h2 : a ^^^ b = a ^^^ a := by rw [h, Nat.xor_self]
  exact (hx_cancel h2).symm
theorem hx_cancel' {a b c : Nat} (h : b ^^^ a = c ^^^ a) : b = c := by
  rw [Nat.xor_comm b, Nat.xor_comm c] at h
  exact hx_cancel h

theorem mul_inj {M K J a b : Nat} (hJ : K * J % M = 1) (ha : a < M) (hb : b < M) (h : a * K % M = b * K % M) : a = b := by
  have e : ∀ x, x < M → (x * K % M) * J % M = x := by
    intro x hx
    rw [Nat.mod_mul_mod, Nat.mul_assoc, Nat.mul_mod, hJ, Nat.mul_one, Nat.mod_mod, Nat.mod_eq_of_lt hx]
  rw [← e a ha, h, e b hb]
theorem xs_inj {s a b : Nat} (hs : 1 < 2 ^ s) (h : a ^^^ a / 2 ^ s = b ^^^ b / 2 ^ s) : a = b := by
  have e : (a ^^^ b) / 2 ^ s = a ^^^ b := by
    rw [Nat.xor_div_two_pow]
    have h1 : a ^^^ (a ^^^ a / 2 ^ s) = a ^^^ (b ^^^ b / 2 ^ s) := by rw [h]
    rw [← Nat.xor_assoc, Nat.xor_self, Nat.zero_xor, ← Nat.xor_assoc] at h1
    rw [h1, Nat.xor_assoc, Nat.xor_self, Nat.xor_zero]
  apply hx_zero
  rcases Nat.eq_zero_or_pos (a ^^^ b) with h0 | h0
  · exact h0
  · have := Nat.div_lt_self h0 hs
    omega

theorem hst_lt (x c : Nat) : hst x c < 18446744073709551616 := Nat.mod_lt _ (by decide)
theorem inv_byte : 1099511628211 * 14886173955864302971 % 18446744073709551616 = 1 := by decide
theorem inv_mix : 11400714819323198485 * 17428512612931826493 % 18446744073709551616 = 1 := by decide
theorem byte_inj {a b : Nat} (ha : a < 18446744073709551616) (hb : b < 18446744073709551616) (h : a * 1099511628211 % 18446744073709551616 = b * 1099511628211 % 18446744073709551616) : a = b := mul_inj inv_byte ha hb h
theorem byte_big {c : Nat} (hc : c < 256) : c < 18446744073709551616 := by omega
theorem hst_eq (x c : Nat) : hst x c = (x ^^^ c) * 1099511628211 % 18446744073709551616 := rfl
theorem hst_inj {x y c d : Nat} (hx : x < 18446744073709551616) (hy : y < 18446744073709551616) (hc : c < 256) (hd : d < 256) (h : hst x c = hst y d) : x ^^^ c = y ^^^ d := by
  rw [hst_eq, hst_eq] at h
  exact byte_inj (xlt hx (byte_big hc)) (xlt hy (byte_big hd)) h
theorem foldH_nil (x : Nat) : foldH x [] = x := by unfold foldH; rw [List.foldl_nil]
theorem foldH_cons (x : Nat) (c : UInt8) (l : List UInt8) : foldH x (c :: l) = foldH (hst x c.toNat) l := by unfold foldH; rw [List.foldl_cons]
theorem foldH_append (x : Nat) (l m : List UInt8) : foldH x (l ++ m) = foldH (foldH x l) m := by unfold foldH; rw [List.foldl_append]
theorem foldH_snoc (x : Nat) (l : List UInt8) (c : UInt8) : foldH x (l ++ [c]) = hst (foldH x l) c.toNat := by rw [foldH_append, foldH_cons, foldH_nil]
theorem foldH_lt (l : List UInt8) : ∀ {x : Nat}, x < 18446744073709551616 → foldH x l < 18446744073709551616 := by
  induction l with
  | nil => intro x h; rw [foldH_nil]; exact h
  | cons c l ih => intro x h; rw [foldH_cons]; exact ih (hst_lt x c.toNat)
theorem foldH_inj (l : List UInt8) : ∀ {x y : Nat}, x < 18446744073709551616 → y < 18446744073709551616 → foldH x l = foldH y l → x = y := by
  induction l with
  | nil => intro x y _ _ h; rw [foldH_nil, foldH_nil] at h; exact h
  | cons c l ih =>
    intro x y hx hy h
    rw [foldH_cons, foldH_cons] at h
    exact hx_cancel' (hst_inj hx hy c.toNat_lt c.toNat_lt (ih (hst_lt x c.toNat) (hst_lt y c.toNat) h))
theorem mixA_lt (x : Nat) : mixA x < 18446744073709551616 := Nat.mod_lt _ (by decide)
theorem mixH_lt (x : Nat) : mixH x < 18446744073709551616 := by
  have h := mixA_lt x
  exact xlt h (Nat.lt_of_le_of_lt (Nat.div_le_self _ _) h)
theorem mixA_inj {x y : Nat} (hx : x < 18446744073709551616) (hy : y < 18446744073709551616) (h : mixA x = mixA y) : x = y := by
  unfold mixA at h
  have h1 := mul_inj inv_mix (xlt hx (Nat.lt_of_le_of_lt (Nat.div_le_self _ _) hx)) (xlt hy (Nat.lt_of_le_of_lt (Nat.div_le_self _ _) hy)) h
  exact xs_inj (s := 32) (by decide) h1
theorem mixH_inj {x y : Nat} (hx : x < 18446744073709551616) (hy : y < 18446744073709551616) (h : mixH x = mixH y) : x = y :=
  mixA_inj hx hy (xs_inj (s := 29) (by decide) h)
theorem startH_lt : startH < 18446744073709551616 := by decide
theorem hashH_lt (seed : Nat) (l : List UInt8) : hashH seed l < 18446744073709551616 := by
  unfold hashH
  split
  · decide
  · exact mixH_lt _
theorem hashH_seed {a b : Nat} (ha : a < 18446744073709551616) (hb : b < 18446744073709551616) (a0 : a ≠ 0) (b0 : b ≠ 0) (hne : a ≠ b) (l : List UInt8) : hashH a l ≠ hashH b l := by
  intro h
  unfold hashH at h
  rw [if_neg a0, if_neg b0] at h
  have h1 := foldH_inj l (xlt startH_lt ha) (xlt startH_lt hb) (mixH_inj (foldH_lt l (xlt startH_lt ha)) (foldH_lt l (xlt startH_lt hb)) h)
  exact hne (hx_cancel h1)
theorem hashH_byte {s : Nat} (hs : s < 18446744073709551616) (s0 : s ≠ 0) (p q : List UInt8) (c d : UInt8) (hne : c ≠ d) : hashH s (p ++ c :: q) ≠ hashH s (p ++ d :: q) := by
  intro h
  unfold hashH at h
  rw [if_neg s0, if_neg s0] at h
  have hs' := xlt startH_lt hs
  have h1 := mixH_inj (foldH_lt _ hs') (foldH_lt _ hs') h
  rw [foldH_append, foldH_append, foldH_cons, foldH_cons] at h1
  have hp := foldH_lt p hs'
  generalize foldH (startH ^^^ s) p = x at *
  have h2 := foldH_inj q (hst_lt x c.toNat) (hst_lt x d.toNat) h1
  exact hne (UInt8.toNat_inj.1 (hx_cancel (hst_inj hp hp c.toNat_lt d.toNat_lt h2)))

theorem rotH_lt {h : Nat} (hh : h < 18446744073709551616) : rotH h < 18446744073709551616 := by unfold rotH; omega
theorem stepH_odd (h : Nat) : stepH h % 2 = 1 := by unfold stepH; omega
theorem stepH_lt {h : Nat} (hh : h < 18446744073709551616) : stepH h < 18446744073709551616 := by
  have := rotH_lt hh
  unfold stepH
  omega
theorem stepH_or (h : Nat) : rotH h ||| 1 = stepH h := by
  unfold stepH
  generalize rotH h = r
  have e : r ||| 1 = 2 * (r / 2) + 1 := by
    have h1 : (r ||| 1) / 2 = r / 2 := by
      have : (r ||| 1) / 2 ^ 1 = r / 2 ^ 1 ||| 1 / 2 ^ 1 := Nat.or_div_two_pow
      simpa using this
    have h2 : (r ||| 1) % 2 = 1 := by
      have : (r ||| 1) % 2 ^ 1 = r % 2 ^ 1 ||| 1 % 2 ^ 1 := Nat.or_mod_two_pow
      have h3 : r % 2 = 0 ∨ r % 2 = 1 := by omega
      rcases h3 with h3 | h3 <;> simp [h3]
    omega
  omega
theorem stepH_bit {h b : Nat} (hh : h < 18446744073709551616) (hb : b < 64) : stepH h = stepH (h ^^^ 2 ^ b) ↔ b = 17 := by
  have k1 : ∀ x, stepH x = 2 * (x / 262144 + x % 131072 * 70368744177664) + 1 := by
    intro x
    unfold stepH rotH
    omega
  have k2 : h < 18446744073709551616 → h ^^^ 2 ^ b < 18446744073709551616 := fun hh => xlt hh (Nat.pow_lt_pow_right (by decide) hb (m := b) (n := 64))
  have hh' := k2 hh
  have e1 : (h ^^^ 2 ^ b) / 262144 = h / 262144 ^^^ 2 ^ b / 262144 := Nat.xor_div_two_pow (n := 18)
  have e2 : (h ^^^ 2 ^ b) % 131072 = h % 131072 ^^^ 2 ^ b % 131072 := Nat.xor_mod_two_pow (n := 17)
  have d1 : (h ^^^ 2 ^ b) / 262144 = h / 262144 ↔ 2 ^ b / 262144 = 0 := by
    rw [e1]
    exact ⟨fun e => hx_cancel (a := h / 262144) (by rw [e, Nat.xor_zero]), fun e => by rw [e, Nat.xor_zero]⟩
  have d2 : (h ^^^ 2 ^ b) % 131072 = h % 131072 ↔ 2 ^ b % 131072 = 0 := by
    rw [e2]
    exact ⟨fun e => hx_cancel (a := h % 131072) (by rw [e, Nat.xor_zero]), fun e => by rw [e, Nat.xor_zero]⟩
  have c1 : 2 ^ b / 262144 = 0 ↔ b < 18 := by
    have : ∀ b : Fin 64, 2 ^ b.val / 262144 = 0 ↔ b.val < 18 := by decide
    exact this ⟨b, hb⟩
  have c2 : 2 ^ b % 131072 = 0 ↔ 17 ≤ b := by
    have : ∀ b : Fin 64, 2 ^ b.val % 131072 = 0 ↔ 17 ≤ b.val := by decide
    exact this ⟨b, hb⟩
  rw [k1, k1]
  rw [c1] at d1
  rw [c2] at d2
  generalize h ^^^ 2 ^ b = g at *
  constructor
  · intro e
    have a1 := d1.1 (by omega)
    have a2 := d2.1 (by omega)
    omega
  · intro e
    have a1 := d1.2 (by omega)
    have a2 := d2.2 (by omega)
    omega
end Go.Proofs.Ytfnppmiapjhjlaa
