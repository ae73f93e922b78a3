/- Numbers as bytes, the highest first: plain lists and numbers, no program. -/
import Derived.WalkKit
namespace Go.Proofs.Ytcfidpjhemjbjaa

/-- The k lowest bytes of n, the highest of them first. -/
def be : Nat → Nat → List UInt8
  | 0, _ => []
  | k + 1, n => UInt8.ofNat (n / 256 ^ k) :: be k n

/-- The number of bytes, the highest first. -/
def un (l : List UInt8) : Nat := l.foldl (fun a c => a * 256 + c.toNat) 0

theorem be_length : ∀ k n : Nat, (be k n).length = k
  | 0, _ => rfl
  | k + 1, n => by simp [be, be_length k n]

theorem un_nil : un [] = 0 := rfl
theorem un_snoc (l : List UInt8) (c : UInt8) : un (l ++ [c]) = un l * 256 + c.toNat := by simp [un]
theorem fold_un : ∀ (l : List UInt8) (a : Nat), l.foldl (fun a c => a * 256 + c.toNat) a = a * 256 ^ l.length + un l
  | [], a => by simp [un]
  | c :: l, a => by
    have h1 := fold_un l (a * 256 + c.toNat)
    have h2 := fold_un l (0 * 256 + c.toNat)
    simp only [un, List.foldl_cons, List.length_cons] at *
    rw [h1, h2, Nat.pow_succ]
    simp only [Nat.add_mul, Nat.zero_mul, Nat.zero_add]
    rw [Nat.mul_assoc, Nat.mul_comm 256]
    omega
theorem un_cons (c : UInt8) (l : List UInt8) : un (c :: l) = c.toNat * 256 ^ l.length + un l := by
  have h := fold_un l (0 * 256 + c.toNat)
  simp only [un, List.foldl_cons] at *
  rw [h]; simp
theorem un_lt : ∀ l : List UInt8, un l < 256 ^ l.length
  | [] => by decide
  | c :: l => by
    have h := un_lt l
    have hc := c.toNat_lt
    rw [un_cons, List.length_cons, Nat.pow_succ]
    have : c.toNat * 256 ^ l.length ≤ 255 * 256 ^ l.length := Nat.mul_le_mul_right _ (by omega)
    omega
theorem un_be : ∀ k n : Nat, un (be k n) = n % 256 ^ k
  | 0, n => by rw [be, un_nil, Nat.pow_zero, Nat.mod_one]
  | k + 1, n => by
    have e : (256 : Nat) ^ (k + 1) = 256 ^ k * 256 := Nat.pow_succ ..
    rw [be, un_cons, be_length, un_be k n, UInt8.toNat_ofNat', e, Nat.mod_mul, Nat.mul_comm, Nat.add_comm]
theorem be_un : ∀ l : List UInt8, be l.length (un l) = l := by
  intro l
  suffices h : ∀ (l : List UInt8) (m : Nat), be l.length (m * 256 ^ l.length + un l) = l by
    have := h l 0; simpa using this
  intro l
  induction l with
  | nil => intro m; rfl
  | cons c l ih =>
    intro m
    have hl := un_lt l
    have hp : 0 < 256 ^ l.length := Nat.pow_pos (by decide)
    rw [List.length_cons, be, un_cons]
    have e : m * 256 ^ (l.length + 1) + (c.toNat * 256 ^ l.length + un l) = (m * 256 + c.toNat) * 256 ^ l.length + un l := by
      rw [Nat.pow_succ, Nat.add_mul, Nat.mul_assoc m 256, Nat.mul_comm 256]; omega
    rw [e, ih]
    have e2 : ((m * 256 + c.toNat) * 256 ^ l.length + un l) / 256 ^ l.length = m * 256 + c.toNat := by
      rw [Nat.mul_comm, Nat.mul_add_div hp, Nat.div_eq_of_lt hl, Nat.add_zero]
    rw [e2]
    have hc := c.toNat_lt
    congr 1
    apply UInt8.toNat_inj.1
    rw [UInt8.toNat_ofNat']
    omega

/-- Only the k lowest bytes count. -/
theorem be_mod (k n : Nat) : be k (n % 256 ^ k) = be k n := by
  have h := be_un (be k n)
  rw [be_length, un_be] at h
  exact h

theorem be_snoc (k n : Nat) : be (k + 1) n = be k (n / 256) ++ [UInt8.ofNat n] := by
  have h := be_un (be k (n / 256) ++ [UInt8.ofNat n])
  rw [List.length_append, be_length, un_snoc, un_be, UInt8.toNat_ofNat'] at h
  have e : n / 256 % 256 ^ k * 256 + n % 2 ^ 8 = n % 256 ^ (k + 1) := by
    have e : (256 : Nat) ^ (k + 1) = 256 * 256 ^ k := by rw [Nat.pow_succ, Nat.mul_comm]
    rw [e, Nat.mod_mul, Nat.mul_comm 256]; omega
  rw [e] at h
  rw [← h]
  simp only [List.length_singleton]
  rw [be_mod]

/-- A text as bytes. -/
def bs (l : List UInt8) : ByteArray := ⟨l.toArray⟩
theorem bs_data (s : ByteArray) : bs s.data.toList = s := by cases s; simp [bs]
theorem bs_size (l : List UInt8) : (bs l).size = l.length := by simp [bs, ByteArray.size]
theorem bs_append (a b : List UInt8) : bs a ++ bs b = bs (a ++ b) := by
  apply ByteArray.ext; simp [bs]
theorem bs_inj {a b : List UInt8} (h : bs a = bs b) : a = b := by
  have := congrArg (fun s : ByteArray => s.data.toList) h; simpa [bs] using this

/-- The first eight bytes of a text, as a number (P1.1, Get). -/
def getS (s : ByteArray) : Nat := un (s.data.toList.take 8)
theorem getS_lt (s : ByteArray) : getS s < 18446744073709551616 := by
  have h := un_lt (s.data.toList.take 8)
  have h2 : (s.data.toList.take 8).length ≤ 8 := by rw [List.length_take]; omega
  have h3 : 256 ^ (s.data.toList.take 8).length ≤ 256 ^ 8 := Nat.pow_le_pow_right (by decide) h2
  unfold getS
  have : (256 : Nat) ^ 8 = 18446744073709551616 := by decide
  omega

/-- A number's bytes (P1.1, Put). -/
def putS (n : Nat) (size : Int) : ByteArray := if 1 ≤ size ∧ size ≤ 8 then bs (be size.toNat n) else ByteArray.empty

theorem take_snoc (s : ByteArray) (k : Nat) (h : k < s.size) : s.data.toList.take (k + 1) = s.data.toList.take k ++ [s[k]] := by
  rw [List.take_succ_eq_append_getElem (by simpa using h)]; rfl

end Go.Proofs.Ytcfidpjhemjbjaa
