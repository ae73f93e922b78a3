/- NumsMath, SumsMath, HashMath, BlMath, DiskMath -/
import Derived.WalkKit
/- NumsMath -/
namespace Go.Proofs.YtmbhafabphogdaaGreat

/-- The k lowest bytes of n, the highest of them first. -/
def be : Nat → Nat → List UInt8
  | 0, _ => []
  | k + 1, n => UInt8.ofNat (n / 256 ^ k) :: be k n

/-- The number of bytes, the highest first. -/
def un (l : List UInt8) : Nat := l.foldl (fun a c => a * 256 + c.toNat) 0

theorem be_length : ∀ k n : Nat, (be k n).length = k
  | 0, _ => rfl
  | k + 1, n => by simp [be, be_length k n]

theorem un_nil : un [] = 0 := rfl
theorem un_snoc (l : List UInt8) (c : UInt8) : un (l ++ [c]) = un l * 256 + c.toNat := by simp [un]
theorem fold_un : ∀ (l : List UInt8) (a : Nat), l.foldl (fun a c => a * 256 + c.toNat) a = a * 256 ^ l.length + un l
  | [], a => by simp [un]
  | c :: l, a => by
    have h1 := fold_un l (a * 256 + c.toNat)
    have h2 := fold_un l (0 * 256 + c.toNat)
    simp only [un, List.foldl_cons, List.length_cons] at *
    rw [h1, h2, Nat.pow_succ]
    simp only [Nat.add_mul, Nat.zero_mul, Nat.zero_add]
    rw [Nat.mul_assoc, Nat.mul_comm 256]
    omega
theorem un_cons (c : UInt8) (l : List UInt8) : un (c :: l) = c.toNat * 256 ^ l.length + un l := by
  have h := fold_un l (0 * 256 + c.toNat)
  simp only [un, List.foldl_cons] at *
  rw [h]; simp
theorem un_lt : ∀ l : List UInt8, un l < 256 ^ l.length
  | [] => by decide
  | c :: l => by
    have h := un_lt l
    have hc := c.toNat_lt
    rw [un_cons, List.length_cons, Nat.pow_succ]
    have : c.toNat * 256 ^ l.length ≤ 255 * 256 ^ l.length := Nat.mul_le_mul_right _ (by omega)
    omega
theorem un_be : ∀ k n : Nat, un (be k n) = n % 256 ^ k
  | 0, n => by rw [be, un_nil, Nat.pow_zero, Nat.mod_one]
  | k + 1, n => by
    have e : (256 : Nat) ^ (k + 1) = 256 ^ k * 256 := Nat.pow_succ ..
    rw [be, un_cons, be_length, un_be k n, UInt8.toNat_ofNat', e, Nat.mod_mul, Nat.mul_comm, Nat.add_comm]
theorem be_un : ∀ l : List UInt8, be l.length (un l) = l := by
  intro l
  suffices h : ∀ (l : List UInt8) (m : Nat), be l.length (m * 256 ^ l.length + un l) = l by
    have := h l 0; simpa using this
  intro l
  induction l with
  | nil => intro m; rfl
  | cons c l ih =>
    intro m
    have hl := un_lt l
    have hp : 0 < 256 ^ l.length := Nat.pow_pos (by decide)
    rw [List.length_cons, be, un_cons]
    have e : m * 256 ^ (l.length + 1) + (c.toNat * 256 ^ l.length + un l) = (m * 256 + c.toNat) * 256 ^ l.length + un l := by
      rw [Nat.pow_succ, Nat.add_mul, Nat.mul_assoc m 256, Nat.mul_comm 256]; omega
    rw [e, ih]
    have e2 : ((m * 256 + c.toNat) * 256 ^ l.length + un l) / 256 ^ l.length = m * 256 + c.toNat := by
      rw [Nat.mul_comm, Nat.mul_add_div hp, Nat.div_eq_of_lt hl, Nat.add_zero]
    rw [e2]
    have hc := c.toNat_lt
    congr 1
    apply UInt8.toNat_inj.1
    rw [UInt8.toNat_ofNat']
    omega

/-- Only the k lowest bytes count. -/
theorem be_mod (k n : Nat) : be k (n % 256 ^ k) = be k n := by
  have h := be_un (be k n)
  rw [be_length, un_be] at h
  exact h

theorem be_snoc (k n : Nat) : be (k + 1) n = be k (n / 256) ++ [UInt8.ofNat n] := by
  have h := be_un (be k (n / 256) ++ [UInt8.ofNat n])
  rw [List.length_append, be_length, un_snoc, un_be, UInt8.toNat_ofNat'] at h
  have e : n / 256 % 256 ^ k * 256 + n % 2 ^ 8 = n % 256 ^ (k + 1) := by
    have e : (256 : Nat) ^ (k + 1) = 256 * 256 ^ k := by rw [Nat.pow_succ, Nat.mul_comm]
    rw [e, Nat.mod_mul, Nat.mul_comm 256]; omega
  rw [e] at h
  rw [← h]
  simp only [List.length_singleton]
  rw [be_mod]

/-- A text as bytes. -/
def bs (l : List UInt8) : ByteArray := ⟨l.toArray⟩
theorem bs_data (s : ByteArray) : bs s.data.toList = s := by cases s; simp [bs]
theorem bs_size (l : List UInt8) : (bs l).size = l.length := by simp [bs, ByteArray.size]
theorem bs_append (a b : List UInt8) : bs a ++ bs b = bs (a ++ b) := by
  apply ByteArray.ext; simp [bs]
theorem bs_inj {a b : List UInt8} (h : bs a = bs b) : a = b := by
  have := congrArg (fun s : ByteArray => s.data.toList) h; simpa [bs] using this

/-- The first eight bytes of a text, as a number (P1.1, Get). -/
def getS (s : ByteArray) : Nat := un (s.data.toList.take 8)
theorem getS_lt (s : ByteArray) : getS s < 18446744073709551616 := by
  have h := un_lt (s.data.toList.take 8)
  have h2 : (s.data.toList.take 8).length ≤ 8 := by rw [List.length_take]; omega
  have h3 : 256 ^ (s.data.toList.take 8).length ≤ 256 ^ 8 := Nat.pow_le_pow_right (by decide) h2
  unfold getS
  have : (256 : Nat) ^ 8 = 18446744073709551616 := by decide
  omega

/-- A number's bytes (P1.1, Put). -/
def putS (n : Nat) (size : Int) : ByteArray := if 1 ≤ size ∧ size ≤ 8 then bs (be size.toNat n) else ByteArray.empty

theorem take_snoc (s : ByteArray) (k : Nat) (h : k < s.size) : s.data.toList.take (k + 1) = s.data.toList.take k ++ [s[k]] := by
  rw [List.take_succ_eq_append_getElem (by simpa using h)]; rfl

end Go.Proofs.YtmbhafabphogdaaGreat

/- SumsMath -/
namespace Go.Proofs.YtmbhafabphogdaaGreat

theorem xor_cancel {a b c : Nat} (h : a ^^^ b = a ^^^ c) : b = c := by
  have h2 := congrArg (fun x => a ^^^ x) h
  simp only [← Nat.xor_assoc, Nat.xor_self, Nat.zero_xor] at h2
  exact h2
theorem xor_zero {a b : Nat} (h : a ^^^ b = 0) : a = b := by
  have h2 : a ^^^ b = a ^^^ a := by rw [h, Nat.xor_self]
  exact (xor_cancel h2).symm

theorem xor_lc (a b c : Nat) : a ^^^ (b ^^^ c) = b ^^^ (a ^^^ c) := by rw [← Nat.xor_assoc, ← Nat.xor_assoc, Nat.xor_comm a b]

/-- A state, a bit on. -/
def stp (x : Nat) : Nat := (x / 2) ^^^ (x % 2 * 3988292384)
/-- A state, k bits on. -/
def stk : Nat → Nat → Nat
  | 0, x => x
  | k + 1, x => stk k (stp x)
/-- A byte goes into a state. -/
def intoS (x c : Nat) : Nat := stk 8 (x ^^^ c)
/-- Bytes go into a state. -/
def foldS (x : Nat) (l : List UInt8) : Nat := l.foldl (fun a c => intoS a c.toNat) x

theorem xor_lt {a b : Nat} (ha : a < 4294967296) (hb : b < 4294967296) : a ^^^ b < 4294967296 := Nat.xor_lt_two_pow (n := 32) ha hb
theorem stp_lt {x : Nat} (h : x < 4294967296) : stp x < 4294967296 := by
  unfold stp
  refine xor_lt (by omega) ?_
  have : x % 2 < 2 := Nat.mod_lt _ (by decide)
  rcases Nat.lt_or_ge (x % 2) 1 with h1 | h1
  · have : x % 2 = 0 := by omega
    rw [this]; decide
  · have : x % 2 = 1 := by omega
    rw [this]; decide
theorem mul_xor (a b p : Nat) (ha : a < 2) (hb : b < 2) : (a ^^^ b) * p = a * p ^^^ b * p := by
  match a, b, ha, hb with
  | 0, 0, _, _ => simp
  | 0, 1, _, _ => simp
  | 1, 0, _, _ => simp
  | 1, 1, _, _ => simp
theorem xor_four (p q r s : Nat) : p ^^^ q ^^^ (r ^^^ s) = p ^^^ r ^^^ (q ^^^ s) := by
  rw [Nat.xor_assoc, Nat.xor_assoc, ← Nat.xor_assoc q, ← Nat.xor_assoc r, Nat.xor_comm q r]
theorem stp_xor (a b : Nat) : stp (a ^^^ b) = stp a ^^^ stp b := by
  unfold stp
  have h1 : (a ^^^ b) / 2 = a / 2 ^^^ b / 2 := Nat.xor_div_two
  have h2 : (a ^^^ b) % 2 = a % 2 ^^^ b % 2 := Nat.xor_mod_two_pow (n := 1)
  rw [h1, h2, mul_xor _ _ _ (Nat.mod_lt _ (by decide)) (Nat.mod_lt _ (by decide))]
  exact xor_four _ _ _ _
theorem stp_zero {x : Nat} (h : x < 4294967296) (h0 : stp x = 0) : x = 0 := by
  unfold stp at h0
  have h1 : x / 2 = x % 2 * 3988292384 := xor_zero h0
  clear h0
  have h2 : x % 2 = 0 ∨ x % 2 = 1 := by omega
  rcases h2 with h2 | h2
  · rw [h2, Nat.zero_mul] at h1
    omega
  · rw [h2, Nat.one_mul] at h1
    omega
theorem stk_lt : ∀ (k : Nat) {x : Nat}, x < 4294967296 → stk k x < 4294967296
  | 0, _, h => h
  | k + 1, _, h => stk_lt k (stp_lt h)
theorem stk_xor : ∀ (k a b : Nat), stk k (a ^^^ b) = stk k a ^^^ stk k b
  | 0, _, _ => rfl
  | k + 1, a, b => by rw [stk, stk, stk, stp_xor, stk_xor k]
theorem stk_zero : ∀ (k : Nat) {x : Nat}, x < 4294967296 → stk k x = 0 → x = 0
  | 0, _, _, h0 => h0
  | k + 1, _, h, h0 => stp_zero h (stk_zero k (stp_lt h) h0)
theorem stk_inj {k a b : Nat} (ha : a < 4294967296) (hb : b < 4294967296) (h : stk k a = stk k b) : a = b := by
  refine xor_zero (stk_zero k (xor_lt ha hb) ?_)
  rw [stk_xor, h, Nat.xor_self]
theorem stk_add : ∀ (i j x : Nat), stk (i + j) x = stk j (stk i x)
  | 0, j, x => by rw [Nat.zero_add]; rfl
  | i + 1, j, x => by rw [Nat.succ_add, stk, stk_add i j, stk]
theorem stk_one (k x : Nat) : stk (k + 1) x = stp (stk k x) := stk_add k 1 x
theorem stp_twice (b : Nat) : stp (2 * b) = b := by
  unfold stp
  have h1 : 2 * b / 2 = b := by omega
  have h2 : 2 * b % 2 = 0 := by omega
  rw [h1, h2, Nat.zero_mul, Nat.xor_zero]
theorem stk_shift : ∀ (k b : Nat), stk k (2 ^ k * b) = b
  | 0, b => by simp [stk]
  | k + 1, b => by
    have e : 2 ^ (k + 1) * b = 2 * (2 ^ k * b) := by rw [Nat.pow_succ]; simp [Nat.mul_assoc, Nat.mul_left_comm]
    rw [stk, e, stp_twice, stk_shift k]

/-- Bytes as a number, the lowest one first. -/
def leS : List UInt8 → Nat
  | [] => 0
  | c :: l => c.toNat ^^^ 256 * leS l

theorem byte_mod (c y : Nat) (hc : c < 256) : (c ^^^ 256 * y) % 256 = c ∧ (c ^^^ 256 * y) / 256 = y := by
  have h1 : (c ^^^ 256 * y) % 2 ^ 8 = c % 2 ^ 8 ^^^ (256 * y) % 2 ^ 8 := Nat.xor_mod_two_pow
  have h2 : (c ^^^ 256 * y) / 2 ^ 8 = c / 2 ^ 8 ^^^ (256 * y) / 2 ^ 8 := Nat.xor_div_two_pow
  have e : (2 : Nat) ^ 8 = 256 := by decide
  rw [e] at h1 h2
  have h3 : c % 256 = c := by omega
  have h4 : 256 * y % 256 = 0 := by omega
  have h5 : c / 256 = 0 := by omega
  have h6 : 256 * y / 256 = y := by omega
  rw [h3, h4, Nat.xor_zero] at h1
  rw [h5, h6, Nat.zero_xor] at h2
  exact ⟨h1, h2⟩
theorem leS_cons (c : UInt8) (l : List UInt8) : leS (c :: l) = c.toNat + 256 * leS l := by
  have h := byte_mod c.toNat (leS l) c.toNat_lt
  rw [leS]
  omega
theorem leS_lt : ∀ l : List UInt8, leS l < 256 ^ l.length
  | [] => by decide
  | c :: l => by
    have h := leS_lt l
    have hc := c.toNat_lt
    rw [leS_cons, List.length_cons, Nat.pow_succ]
    omega
theorem leS_inj : ∀ {l m : List UInt8}, l.length = m.length → leS l = leS m → l = m
  | [], [], _, _ => rfl
  | [], _ :: _, h, _ => by simp at h
  | _ :: _, [], h, _ => by simp at h
  | c :: l, d :: m, h, e => by
    rw [leS_cons, leS_cons] at e
    have hc := c.toNat_lt
    have hd := d.toNat_lt
    have e1 : c = d := UInt8.toNat_inj.1 (by omega)
    have e2 : l = m := leS_inj (by simpa using h) (by omega)
    rw [e1, e2]
theorem leS_lt4 {l : List UInt8} (h : l.length ≤ 4) : leS l < 4294967296 := by
  have h1 := leS_lt l
  have h2 : 256 ^ l.length ≤ 256 ^ 4 := Nat.pow_le_pow_right (by decide) h
  have h3 : (256 : Nat) ^ 4 = 4294967296 := by decide
  omega
theorem leS_rev (l : List UInt8) : leS l.reverse = un l := by
  suffices h : ∀ l : List UInt8, leS l = un l.reverse by rw [h, List.reverse_reverse]
  intro l
  induction l with
  | nil => rfl
  | cons c l ih => rw [leS_cons, List.reverse_cons, un_snoc, ih]; omega

theorem foldS_nil (x : Nat) : foldS x [] = x := rfl
theorem foldS_cons (x : Nat) (c : UInt8) (l : List UInt8) : foldS x (c :: l) = foldS (intoS x c.toNat) l := rfl
theorem foldS_append (x : Nat) (l m : List UInt8) : foldS x (l ++ m) = foldS (foldS x l) m := by unfold foldS; rw [List.foldl_append]
theorem foldS_snoc (x : Nat) (l : List UInt8) (c : UInt8) : foldS x (l ++ [c]) = intoS (foldS x l) c.toNat := foldS_append x l [c]
theorem foldS_le : ∀ (l : List UInt8) (x : Nat), foldS x l = stk (8 * l.length) (x ^^^ leS l)
  | [], x => by rw [foldS_nil, leS, Nat.xor_zero]; rfl
  | c :: l, x => by
    have e : 8 * (c :: l).length = 8 + 8 * l.length := by rw [List.length_cons]; omega
    have s : stk 8 (256 * leS l) = leS l := stk_shift 8 (leS l)
    rw [foldS_cons, foldS_le l, e, stk_add, leS, ← Nat.xor_assoc, stk_xor 8, s]
    rfl
theorem intoS_lt {x c : Nat} (hx : x < 4294967296) (hc : c < 256) : intoS x c < 4294967296 := stk_lt 8 (xor_lt hx (by omega))
theorem foldS_lt : ∀ (l : List UInt8) {x : Nat}, x < 4294967296 → foldS x l < 4294967296
  | [], _, h => h
  | c :: l, _, h => by rw [foldS_cons]; exact foldS_lt l (intoS_lt h c.toNat_lt)
theorem foldS_inj : ∀ (l : List UInt8) {x y : Nat}, x < 4294967296 → y < 4294967296 → foldS x l = foldS y l → x = y
  | [], _, _, _, _, h => h
  | c :: l, x, y, hx, hy, h => by
    rw [foldS_cons, foldS_cons] at h
    have hc := c.toNat_lt
    have h1 := foldS_inj l (intoS_lt hx c.toNat_lt) (intoS_lt hy c.toNat_lt) h
    have h2 := stk_inj (xor_lt hx (by omega)) (xor_lt hy (by omega)) h1
    rw [Nat.xor_comm x, Nat.xor_comm y] at h2
    exact xor_cancel h2
theorem foldS_short {x : Nat} (hx : x < 4294967296) {l m : List UInt8} (h : l.length = m.length) (h4 : l.length ≤ 4) (e : foldS x l = foldS x m) : l = m := by
  rw [foldS_le, foldS_le, h] at e
  exact leS_inj h (xor_cancel (stk_inj (xor_lt hx (leS_lt4 h4)) (xor_lt hx (leS_lt4 (by omega))) e))
/-- Of a text of which at most four bytes, side by side, are other ones, the state is another one. -/
theorem foldS_turned {x : Nat} (hx : x < 4294967296) (p q : List UInt8) {l m : List UInt8} (h : l.length = m.length) (h4 : l.length ≤ 4) (e : foldS x (p ++ l ++ q) = foldS x (p ++ m ++ q)) : l = m := by
  simp only [foldS_append] at e
  exact foldS_short (foldS_lt p hx) h h4 (foldS_inj q (foldS_lt _ (foldS_lt _ hx)) (foldS_lt _ (foldS_lt _ hx)) e)

/-- All 32 bits 1. -/
def allS : Nat := 4294967295
theorem all_xor {x : Nat} (h : x < 4294967296) : 4294967295 - x = 4294967295 ^^^ x := by
  have h1 := congrArg BitVec.toNat (BitVec.allOnes_xor (x := BitVec.ofNat 32 x))
  rw [BitVec.toNat_xor, BitVec.toNat_not, BitVec.toNat_allOnes, BitVec.toNat_ofNat] at h1
  have h2 : x % 2 ^ 32 = x := Nat.mod_eq_of_lt h
  rw [h2] at h1
  have h3 : (2 : Nat) ^ 32 - 1 = 4294967295 := by decide
  rw [h3] at h1
  exact h1.symm

/-- The sum of a text that had a sum, with another one behind it (P2.1). -/
def moreS (sum : Nat) (l : List UInt8) : Nat := 4294967295 - foldS (4294967295 - sum) l
/-- A text's sum (P2.1). -/
def sumS (l : List UInt8) : Nat := moreS 0 l
theorem moreS_lt (sum : Nat) (l : List UInt8) : moreS sum l < 4294967296 := by unfold moreS; omega
theorem sumS_lt (l : List UInt8) : sumS l < 4294967296 := moreS_lt 0 l
theorem moreS_more (sum : Nat) (a b : List UInt8) : moreS (moreS sum a) b = moreS sum (a ++ b) := by
  unfold moreS
  have h := foldS_lt a (x := 4294967295 - sum) (by omega)
  rw [foldS_append, show 4294967295 - (4294967295 - foldS (4294967295 - sum) a) = foldS (4294967295 - sum) a by omega]
theorem moreS_sum (a b : List UInt8) : moreS (sumS a) b = sumS (a ++ b) := moreS_more 0 a b
theorem sumS_fold (l : List UInt8) : sumS l = 4294967295 ^^^ foldS 4294967295 l := by
  unfold sumS moreS
  exact all_xor (foldS_lt l (by decide))
theorem sumS_inj {l m : List UInt8} (h : sumS l = sumS m) : foldS 4294967295 l = foldS 4294967295 m := by
  rw [sumS_fold, sumS_fold] at h
  exact xor_cancel h

/-- A text's sum in four bytes, the lowest one first. -/
def tailS (l : List UInt8) : List UInt8 := (be 4 (sumS l)).reverse
theorem tailS_length (l : List UInt8) : (tailS l).length = 4 := by unfold tailS; rw [List.length_reverse, be_length]
theorem leS_tail (l : List UInt8) : leS (tailS l) = sumS l := by
  unfold tailS
  rw [leS_rev, un_be]
  exact Nat.mod_eq_of_lt (sumS_lt l)
/-- What is sealed, by the state behind it. -/
theorem sealed_iff (a t : List UInt8) (ht : t.length = 4) : t = tailS a ↔ foldS 4294967295 (a ++ t) = stk 32 4294967295 := by
  have hf := foldS_lt a (x := 4294967295) (by decide)
  have e : foldS 4294967295 (a ++ t) = stk 32 (foldS 4294967295 a ^^^ leS t) := by rw [foldS_append, foldS_le t, ht]
  have e2 : foldS 4294967295 a ^^^ sumS a = 4294967295 := by
    rw [sumS_fold, Nat.xor_comm, Nat.xor_assoc, Nat.xor_self, Nat.xor_zero]
  rw [e]
  constructor
  · rintro rfl
    rw [leS_tail, e2]
  · intro h
    have h1 := stk_inj (xor_lt hf (leS_lt4 (by omega))) (by decide) h
    have h2 := xor_cancel (h1.trans e2.symm)
    rw [← leS_tail] at h2
    exact leS_inj (by rw [ht, tailS_length]) h2

/-- Three texts of one length, put against each other. -/
def xor3 : List UInt8 → List UInt8 → List UInt8 → List UInt8
  | a :: l, b :: m, c :: n => (a ^^^ b ^^^ c) :: xor3 l m n
  | _, _, _ => []
theorem intoS_xor3 (x y z a b c : Nat) : intoS (x ^^^ y ^^^ z) (a ^^^ b ^^^ c) = intoS x a ^^^ intoS y b ^^^ intoS z c := by
  unfold intoS
  rw [← stk_xor, ← stk_xor]
  congr 1
  simp only [xor_lc, Nat.xor_comm]
theorem foldS_xor3 : ∀ (l m n : List UInt8) (x y z : Nat), l.length = m.length → m.length = n.length →
    foldS (x ^^^ y ^^^ z) (xor3 l m n) = foldS x l ^^^ foldS y m ^^^ foldS z n
  | [], [], [], x, y, z, _, _ => rfl
  | a :: l, b :: m, c :: n, x, y, z, h1, h2 => by
    rw [xor3, foldS_cons, foldS_cons, foldS_cons, foldS_cons, ← foldS_xor3 l m n _ _ _ (by simpa using h1) (by simpa using h2)]
    rw [UInt8.toNat_xor, UInt8.toNat_xor, intoS_xor3]
  | [], _ :: _, _, _, _, _, h, _ => by simp at h
  | _ :: _, [], _, _, _, _, h, _ => by simp at h
  | _, [], _ :: _, _, _, _, _, h => by simp at h
  | _, _ :: _, [], _, _, _, _, h => by simp at h
theorem xor3_self (a : Nat) : a ^^^ a ^^^ a = a := by rw [Nat.xor_self, Nat.zero_xor]
theorem sumS_xor3 (l m n : List UInt8) (h1 : l.length = m.length) (h2 : m.length = n.length) : sumS (xor3 l m n) = sumS l ^^^ sumS m ^^^ sumS n := by
  have h := foldS_xor3 l m n 4294967295 4294967295 4294967295 h1 h2
  rw [xor3_self] at h
  rw [sumS_fold, sumS_fold, sumS_fold, sumS_fold, h]
  generalize foldS 4294967295 l = x
  generalize foldS 4294967295 m = y
  generalize foldS 4294967295 n = z
  generalize 4294967295 = M
  have e : M ^^^ x ^^^ (M ^^^ y) ^^^ (M ^^^ z) = (M ^^^ M ^^^ M) ^^^ (x ^^^ y ^^^ z) := by
    simp only [xor_lc, Nat.xor_comm]
  rw [e, xor3_self]
end Go.Proofs.YtmbhafabphogdaaGreat

/- HashMath -/
namespace Go.Proofs.YtmbhafabphogdaaGreat

/-- A byte goes into a state. -/
def hst (x c : Nat) : Nat := (x ^^^ c) * 1099511628211 % 18446744073709551616
/-- Bytes go into a state. -/
def foldH (x : Nat) (l : List UInt8) : Nat := l.foldl (fun a c => hst a c.toNat) x
/-- The first half of the mixing. -/
def mixA (x : Nat) : Nat := (x ^^^ x / 4294967296) * 11400714819323198485 % 18446744073709551616
/-- A state, mixed. -/
def mixH (x : Nat) : Nat := mixA x ^^^ mixA x / 536870912
def startH : Nat := 14695981039346656037
/-- The hash of a name by a seed. -/
def hashH (seed : Nat) (l : List UInt8) : Nat := if seed = 0 then 7 else mixH (foldH (startH ^^^ seed) l)
/-- Moved down by 17, what goes in from above again. -/
def rotH (h : Nat) : Nat := h / 131072 + h % 131072 * 140737488355328
/-- The step of a hash. -/
def stepH (h : Nat) : Nat := rotH h + 1 - rotH h % 2

theorem xlt {a b : Nat} (ha : a < 18446744073709551616) (hb : b < 18446744073709551616) : a ^^^ b < 18446744073709551616 := Nat.xor_lt_two_pow (n := 64) ha hb
theorem hx_cancel {a b c : Nat} (h : a ^^^ b = a ^^^ c) : b = c := by
  have h2 := congrArg (fun x => a ^^^ x) h
  simp only [← Nat.xor_assoc, Nat.xor_self, Nat.zero_xor] at h2
  exact h2
theorem hx_zero {a b : Nat} (h : a ^^^ b = 0) : a = b := by
  have h2 : a ^^^ b = a ^^^ a := by rw [h, Nat.xor_self]
  exact (hx_cancel h2).symm
theorem hx_cancel' {a b c : Nat} (h : b ^^^ a = c ^^^ a) : b = c := by
  rw [Nat.xor_comm b, Nat.xor_comm c] at h
  exact hx_cancel h

theorem mul_inj {M K J a b : Nat} (hJ : K * J % M = 1) (ha : a < M) (hb : b < M) (h : a * K % M = b * K % M) : a = b := by
  have e : ∀ x, x < M → (x * K % M) * J % M = x := by
    intro x hx
    rw [Nat.mod_mul_mod, Nat.mul_assoc, Nat.mul_mod, hJ, Nat.mul_one, Nat.mod_mod, Nat.mod_eq_of_lt hx]
  rw [← e a ha, h, e b hb]
theorem xs_inj {s a b : Nat} (hs : 1 < 2 ^ s) (h : a ^^^ a / 2 ^ s = b ^^^ b / 2 ^ s) : a = b := by
  have e : (a ^^^ b) / 2 ^ s = a ^^^ b := by
    rw [Nat.xor_div_two_pow]
    have h1 : a ^^^ (a ^^^ a / 2 ^ s) = a ^^^ (b ^^^ b / 2 ^ s) := by rw [h]
    rw [← Nat.xor_assoc, Nat.xor_self, Nat.zero_xor, ← Nat.xor_assoc] at h1
    rw [h1, Nat.xor_assoc, Nat.xor_self, Nat.xor_zero]
  apply hx_zero
  rcases Nat.eq_zero_or_pos (a ^^^ b) with h0 | h0
  · exact h0
  · have := Nat.div_lt_self h0 hs
    omega

theorem hst_lt (x c : Nat) : hst x c < 18446744073709551616 := Nat.mod_lt _ (by decide)
theorem inv_byte : 1099511628211 * 14886173955864302971 % 18446744073709551616 = 1 := by decide
theorem inv_mix : 11400714819323198485 * 17428512612931826493 % 18446744073709551616 = 1 := by decide
theorem byte_inj {a b : Nat} (ha : a < 18446744073709551616) (hb : b < 18446744073709551616) (h : a * 1099511628211 % 18446744073709551616 = b * 1099511628211 % 18446744073709551616) : a = b := mul_inj inv_byte ha hb h
theorem byte_big {c : Nat} (hc : c < 256) : c < 18446744073709551616 := by omega
theorem hst_eq (x c : Nat) : hst x c = (x ^^^ c) * 1099511628211 % 18446744073709551616 := rfl
theorem hst_inj {x y c d : Nat} (hx : x < 18446744073709551616) (hy : y < 18446744073709551616) (hc : c < 256) (hd : d < 256) (h : hst x c = hst y d) : x ^^^ c = y ^^^ d := by
  rw [hst_eq, hst_eq] at h
  exact byte_inj (xlt hx (byte_big hc)) (xlt hy (byte_big hd)) h
theorem foldH_nil (x : Nat) : foldH x [] = x := by unfold foldH; rw [List.foldl_nil]
theorem foldH_cons (x : Nat) (c : UInt8) (l : List UInt8) : foldH x (c :: l) = foldH (hst x c.toNat) l := by unfold foldH; rw [List.foldl_cons]
theorem foldH_append (x : Nat) (l m : List UInt8) : foldH x (l ++ m) = foldH (foldH x l) m := by unfold foldH; rw [List.foldl_append]
theorem foldH_snoc (x : Nat) (l : List UInt8) (c : UInt8) : foldH x (l ++ [c]) = hst (foldH x l) c.toNat := by rw [foldH_append, foldH_cons, foldH_nil]
theorem foldH_lt (l : List UInt8) : ∀ {x : Nat}, x < 18446744073709551616 → foldH x l < 18446744073709551616 := by
  induction l with
  | nil => intro x h; rw [foldH_nil]; exact h
  | cons c l ih => intro x h; rw [foldH_cons]; exact ih (hst_lt x c.toNat)
theorem foldH_inj (l : List UInt8) : ∀ {x y : Nat}, x < 18446744073709551616 → y < 18446744073709551616 → foldH x l = foldH y l → x = y := by
  induction l with
  | nil => intro x y _ _ h; rw [foldH_nil, foldH_nil] at h; exact h
  | cons c l ih =>
    intro x y hx hy h
    rw [foldH_cons, foldH_cons] at h
    exact hx_cancel' (hst_inj hx hy c.toNat_lt c.toNat_lt (ih (hst_lt x c.toNat) (hst_lt y c.toNat) h))
theorem mixA_lt (x : Nat) : mixA x < 18446744073709551616 := Nat.mod_lt _ (by decide)
theorem mixH_lt (x : Nat) : mixH x < 18446744073709551616 := by
  have h := mixA_lt x
  exact xlt h (Nat.lt_of_le_of_lt (Nat.div_le_self _ _) h)
theorem mixA_inj {x y : Nat} (hx : x < 18446744073709551616) (hy : y < 18446744073709551616) (h : mixA x = mixA y) : x = y := by
  unfold mixA at h
  have h1 := mul_inj inv_mix (xlt hx (Nat.lt_of_le_of_lt (Nat.div_le_self _ _) hx)) (xlt hy (Nat.lt_of_le_of_lt (Nat.div_le_self _ _) hy)) h
  exact xs_inj (s := 32) (by decide) h1
theorem mixH_inj {x y : Nat} (hx : x < 18446744073709551616) (hy : y < 18446744073709551616) (h : mixH x = mixH y) : x = y :=
  mixA_inj hx hy (xs_inj (s := 29) (by decide) h)
theorem startH_lt : startH < 18446744073709551616 := by decide
theorem hashH_lt (seed : Nat) (l : List UInt8) : hashH seed l < 18446744073709551616 := by
  unfold hashH
  split
  · decide
  · exact mixH_lt _
theorem hashH_seed {a b : Nat} (ha : a < 18446744073709551616) (hb : b < 18446744073709551616) (a0 : a ≠ 0) (b0 : b ≠ 0) (hne : a ≠ b) (l : List UInt8) : hashH a l ≠ hashH b l := by
  intro h
  unfold hashH at h
  rw [if_neg a0, if_neg b0] at h
  have h1 := foldH_inj l (xlt startH_lt ha) (xlt startH_lt hb) (mixH_inj (foldH_lt l (xlt startH_lt ha)) (foldH_lt l (xlt startH_lt hb)) h)
  exact hne (hx_cancel h1)
theorem hashH_byte {s : Nat} (hs : s < 18446744073709551616) (s0 : s ≠ 0) (p q : List UInt8) (c d : UInt8) (hne : c ≠ d) : hashH s (p ++ c :: q) ≠ hashH s (p ++ d :: q) := by
  intro h
  unfold hashH at h
  rw [if_neg s0, if_neg s0] at h
  have hs' := xlt startH_lt hs
  have h1 := mixH_inj (foldH_lt _ hs') (foldH_lt _ hs') h
  rw [foldH_append, foldH_append, foldH_cons, foldH_cons] at h1
  have hp := foldH_lt p hs'
  generalize foldH (startH ^^^ s) p = x at *
  have h2 := foldH_inj q (hst_lt x c.toNat) (hst_lt x d.toNat) h1
  exact hne (UInt8.toNat_inj.1 (hx_cancel (hst_inj hp hp c.toNat_lt d.toNat_lt h2)))

theorem rotH_lt {h : Nat} (hh : h < 18446744073709551616) : rotH h < 18446744073709551616 := by unfold rotH; omega
theorem stepH_odd (h : Nat) : stepH h % 2 = 1 := by unfold stepH; omega
theorem stepH_lt {h : Nat} (hh : h < 18446744073709551616) : stepH h < 18446744073709551616 := by
  have := rotH_lt hh
  unfold stepH
  omega
theorem stepH_or (h : Nat) : rotH h ||| 1 = stepH h := by
  unfold stepH
  generalize rotH h = r
  have e : r ||| 1 = 2 * (r / 2) + 1 := by
    have h1 : (r ||| 1) / 2 = r / 2 := by
      have : (r ||| 1) / 2 ^ 1 = r / 2 ^ 1 ||| 1 / 2 ^ 1 := Nat.or_div_two_pow
      simpa using this
    have h2 : (r ||| 1) % 2 = 1 := by
      have : (r ||| 1) % 2 ^ 1 = r % 2 ^ 1 ||| 1 % 2 ^ 1 := Nat.or_mod_two_pow
      have h3 : r % 2 = 0 ∨ r % 2 = 1 := by omega
      rcases h3 with h3 | h3 <;> simp [h3]
    omega
  omega
theorem stepH_bit {h b : Nat} (hh : h < 18446744073709551616) (hb : b < 64) : stepH h = stepH (h ^^^ 2 ^ b) ↔ b = 17 := by
  have k1 : ∀ x, stepH x = 2 * (x / 262144 + x % 131072 * 70368744177664) + 1 := by
    intro x
    unfold stepH rotH
    omega
  have k2 : h < 18446744073709551616 → h ^^^ 2 ^ b < 18446744073709551616 := fun hh => xlt hh (Nat.pow_lt_pow_right (by decide) hb (m := b) (n := 64))
  have hh' := k2 hh
  have e1 : (h ^^^ 2 ^ b) / 262144 = h / 262144 ^^^ 2 ^ b / 262144 := Nat.xor_div_two_pow (n := 18)
  have e2 : (h ^^^ 2 ^ b) % 131072 = h % 131072 ^^^ 2 ^ b % 131072 := Nat.xor_mod_two_pow (n := 17)
  have d1 : (h ^^^ 2 ^ b) / 262144 = h / 262144 ↔ 2 ^ b / 262144 = 0 := by
    rw [e1]
    exact ⟨fun e => hx_cancel (a := h / 262144) (by rw [e, Nat.xor_zero]), fun e => by rw [e, Nat.xor_zero]⟩
  have d2 : (h ^^^ 2 ^ b) % 131072 = h % 131072 ↔ 2 ^ b % 131072 = 0 := by
    rw [e2]
    exact ⟨fun e => hx_cancel (a := h % 131072) (by rw [e, Nat.xor_zero]), fun e => by rw [e, Nat.xor_zero]⟩
  have c1 : 2 ^ b / 262144 = 0 ↔ b < 18 := by
    have : ∀ b : Fin 64, 2 ^ b.val / 262144 = 0 ↔ b.val < 18 := by decide
    exact this ⟨b, hb⟩
  have c2 : 2 ^ b % 131072 = 0 ↔ 17 ≤ b := by
    have : ∀ b : Fin 64, 2 ^ b.val % 131072 = 0 ↔ 17 ≤ b.val := by decide
    exact this ⟨b, hb⟩
  rw [k1, k1]
  rw [c1] at d1
  rw [c2] at d2
  generalize h ^^^ 2 ^ b = g at *
  constructor
  · intro e
    have a1 := d1.1 (by omega)
    have a2 := d2.1 (by omega)
    omega
  · intro e
    have a1 := d1.2 (by omega)
    have a2 := d2.2 (by omega)
    omega
end Go.Proofs.YtmbhafabphogdaaGreat

/- BlMath -/
namespace Go.Proofs.YtmbhafabphogdaaGreat
set_option linter.unusedVariables false

/-- The probe i of a hash among so many bits. -/
def prb (h : Nat) (i bits : Int) : Nat := if bits < 1 ∨ i < 0 then 0 else (h + i.toNat * stepH h) % 18446744073709551616 % bits.toNat
/-- How many probes are asked. -/
def nps (p : Int) : Nat := (min p 64).toNat
/-- The bits that a hash asks. -/
def asksL (h : Nat) (p bits : Int) : List Nat := (List.range (nps p)).map fun i => prb h (i : Nat) bits
theorem prb_lt (h : Nat) (i : Int) {bits : Int} (hb : 1 ≤ bits) : prb h i bits < bits.toNat := by
  unfold prb
  split
  · omega
  · exact Nat.mod_lt _ (by omega)
theorem prb_le (h : Nat) (i bits : Int) : (prb h i bits : Int) ≤ max bits 0 := by
  by_cases hb : 1 ≤ bits
  · have := prb_lt h i hb
    omega
  · unfold prb
    rw [if_pos (by omega)]
    omega
theorem nps_le (p : Int) : nps p ≤ 64 := by unfold nps; omega
theorem asksL_length (h : Nat) (p bits : Int) : (asksL h p bits).length = nps p := by unfold asksL; rw [List.length_map, List.length_range]
theorem asksL_mem {h k : Nat} {p bits : Int} : k ∈ asksL h p bits ↔ ∃ i : Nat, i < nps p ∧ prb h (i : Nat) bits = k := by unfold asksL; simp
theorem asksL_lt {h k : Nat} {p bits : Int} (hb : 1 ≤ bits) (hk : k ∈ asksL h p bits) : k < bits.toNat := by
  obtain ⟨i, _, rfl⟩ := asksL_mem.1 hk
  exact prb_lt h _ hb
/-- Up to the probe i. -/
def asksTo (h : Nat) (bits : Int) (i : Nat) : List Nat := (List.range i).map fun i => prb h (i : Nat) bits
theorem asksTo_succ (h : Nat) (bits : Int) (i : Nat) : asksTo h bits (i + 1) = asksTo h bits i ++ [prb h (i : Nat) bits] := by unfold asksTo; rw [List.range_succ, List.map_append]; rfl
theorem asksTo_all (h : Nat) (p bits : Int) : asksTo h bits (nps p) = asksL h p bits := rfl
theorem asksTo_zero (h : Nat) (bits : Int) : asksTo h bits 0 = [] := rfl

/-- A byte of eight bits. -/
def by8 (b0 b1 b2 b3 b4 b5 b6 b7 : Bool) : Nat := (((((((b7.toNat * 2 + b6.toNat) * 2 + b5.toNat) * 2 + b4.toNat) * 2 + b3.toNat) * 2 + b2.toNat) * 2 + b1.toNat) * 2 + b0.toNat)
theorem by8_lt (b0 b1 b2 b3 b4 b5 b6 b7 : Bool) : by8 b0 b1 b2 b3 b4 b5 b6 b7 < 256 := by
  revert b0 b1 b2 b3 b4 b5 b6 b7; decide +kernel
theorem by8_bit (b0 b1 b2 b3 b4 b5 b6 b7 : Bool) : (by8 b0 b1 b2 b3 b4 b5 b6 b7).testBit 0 = b0 ∧ (by8 b0 b1 b2 b3 b4 b5 b6 b7).testBit 1 = b1 ∧ (by8 b0 b1 b2 b3 b4 b5 b6 b7).testBit 2 = b2 ∧ (by8 b0 b1 b2 b3 b4 b5 b6 b7).testBit 3 = b3 ∧
    (by8 b0 b1 b2 b3 b4 b5 b6 b7).testBit 4 = b4 ∧ (by8 b0 b1 b2 b3 b4 b5 b6 b7).testBit 5 = b5 ∧ (by8 b0 b1 b2 b3 b4 b5 b6 b7).testBit 6 = b6 ∧ (by8 b0 b1 b2 b3 b4 b5 b6 b7).testBit 7 = b7 := by
  revert b0 b1 b2 b3 b4 b5 b6 b7; decide +kernel
/-- Bit k is set. -/
def on (D : List Nat) (k : Nat) : Bool := decide (k ∈ D)
/-- A byte's value behind j steps from the highest bit down. -/
def hbit (D : List Nat) (i : Nat) : Nat → Nat
  | 0 => 0
  | j + 1 => hbit D i j * 2 + (on D (8 * i + (7 - j))).toNat
/-- The byte i where the bits of D are set. -/
def byL (D : List Nat) (i : Nat) : Nat := hbit D i 8
theorem byL_eq (D : List Nat) (i : Nat) : byL D i = by8 (on D (8 * i + 0)) (on D (8 * i + 1)) (on D (8 * i + 2)) (on D (8 * i + 3)) (on D (8 * i + 4)) (on D (8 * i + 5)) (on D (8 * i + 6)) (on D (8 * i + 7)) := by
  simp only [byL, hbit, by8]
  simp
theorem byL_lt (D : List Nat) (i : Nat) : byL D i < 256 := by rw [byL_eq]; exact by8_lt _ _ _ _ _ _ _ _
theorem byL_bit (D : List Nat) (i k : Nat) (hk : k < 8) : (byL D i).testBit k = on D (8 * i + k) := by
  rw [byL_eq]
  obtain ⟨h0, h1, h2, h3, h4, h5, h6, h7⟩ := by8_bit (on D (8 * i + 0)) (on D (8 * i + 1)) (on D (8 * i + 2)) (on D (8 * i + 3)) (on D (8 * i + 4)) (on D (8 * i + 5)) (on D (8 * i + 6)) (on D (8 * i + 7))
  match k, hk with
  | 0, _ => exact h0
  | 1, _ => exact h1
  | 2, _ => exact h2
  | 3, _ => exact h3
  | 4, _ => exact h4
  | 5, _ => exact h5
  | 6, _ => exact h6
  | 7, _ => exact h7
theorem hbit_lt (D : List Nat) (i : Nat) : ∀ j, hbit D i j < 2 ^ j
  | 0 => by simp [hbit]
  | j + 1 => by
    have := hbit_lt D i j
    have h2 : (on D (8 * i + (7 - j))).toNat ≤ 1 := Bool.toNat_le _
    rw [hbit, Nat.pow_succ]
    omega
theorem bit_big {a k : Nat} (ha : a < 256) (hk : 8 ≤ k) : a.testBit k = false := Nat.testBit_lt_two_pow (Nat.lt_of_lt_of_le ha (show 2 ^ 8 ≤ 2 ^ k from Nat.pow_le_pow_right (by decide) hk))
theorem byte_ext {a b : Nat} (ha : a < 256) (hb : b < 256) (h : ∀ k, k < 8 → a.testBit k = b.testBit k) : a = b := by
  apply Nat.eq_of_testBit_eq
  intro k
  by_cases hk : k < 8
  · exact h k hk
  · rw [bit_big ha (by omega), bit_big hb (by omega)]
theorem pow8_lt {k : Nat} (hk : k < 8) : 2 ^ k < 256 := Nat.pow_lt_pow_right (by decide) hk (m := k) (n := 8)
theorem or_lt8 {a b : Nat} (ha : a < 256) (hb : b < 256) : a ||| b < 256 := Nat.or_lt_two_pow (n := 8) ha hb
theorem and_lt8 {a b : Nat} (ha : a < 256) : a &&& b < 256 := Nat.lt_of_le_of_lt Nat.and_le_left ha
theorem on_append (D E : List Nat) (k : Nat) : on (D ++ E) k = (on D k || on E k) := by unfold on; rw [← Bool.decide_or]; exact decide_eq_decide.2 (by simp)
theorem on_one (x k : Nat) : on [x] k = decide (k = x) := by unfold on; exact decide_eq_decide.2 (by simp)
/-- A bit more is set. -/
theorem byL_set (D : List Nat) (x : Nat) : byL (D ++ [x]) (x / 8) = byL D (x / 8) ||| 2 ^ (x % 8) := by
  have hx : x % 8 < 8 := Nat.mod_lt _ (by decide)
  refine byte_ext (byL_lt _ _) (or_lt8 (byL_lt _ _) (pow8_lt hx)) fun k hk => ?_
  rw [byL_bit _ _ _ hk, Nat.testBit_or, byL_bit _ _ _ hk, Nat.testBit_two_pow, on_append, on_one]
  congr 1
  exact decide_eq_decide.2 (by omega)
theorem byL_far (D : List Nat) (x i : Nat) (h : i ≠ x / 8) : byL (D ++ [x]) i = byL D i := by
  refine byte_ext (byL_lt _ _) (byL_lt _ _) fun k hk => ?_
  rw [byL_bit _ _ _ hk, byL_bit _ _ _ hk, on_append, on_one, decide_eq_false (by omega), Bool.or_false]
theorem byL_sub (D E : List Nat) (i : Nat) (h : ∀ k, k ∈ D → k ∈ E) : byL D i &&& byL E i = byL D i := by
  refine byte_ext (and_lt8 (byL_lt _ _)) (byL_lt _ _) fun k hk => ?_
  rw [Nat.testBit_and, byL_bit _ _ _ hk, byL_bit _ _ _ hk]
  unfold on
  by_cases hD : 8 * i + k ∈ D
  · rw [decide_eq_true hD, decide_eq_true (h _ hD)]; rfl
  · rw [decide_eq_false hD]; rfl
theorem byL_nil (i : Nat) : byL [] i = 0 := by
  refine byte_ext (byL_lt _ _) (by decide) fun k hk => ?_
  rw [byL_bit _ _ _ hk, Nat.zero_testBit]
  rfl

/-- The bytes of so many, with the bits of D. -/
def bytesL (D : List Nat) (n : Nat) : List UInt8 := (List.range n).map fun i => UInt8.ofNat (byL D i)
theorem bytesL_length (D : List Nat) (n : Nat) : (bytesL D n).length = n := by unfold bytesL; rw [List.length_map, List.length_range]
theorem bytesL_at (D : List Nat) {n i : Nat} (hi : i < n) : ((bytesL D n).getD i 0).toNat = byL D i := by
  unfold bytesL
  rw [List.getD_eq_getElem?_getD, List.getElem?_map, List.getElem?_range hi]
  have := byL_lt D i
  simp [UInt8.toNat_ofNat']
  omega
/-- Bit k of bytes. -/
def bitL (l : List UInt8) (k : Nat) : Bool := ((l.getD (k / 8) 0).toNat).testBit (k % 8)
theorem bitL_bytes (D : List Nat) {n k : Nat} (hk : k < 8 * n) : bitL (bytesL D n) k = on D k := by
  unfold bitL
  rw [bytesL_at D (by omega), byL_bit _ _ _ (Nat.mod_lt _ (by decide))]
  congr 1
  omega
/-- All bits that a hash asks are set. -/
def hasL (l : List UInt8) (p : Int) (h : Nat) : Bool := decide (l = []) || (asksL h p (8 * l.length : Nat)).all (bitL l)
theorem hasL_nil (p : Int) (h : Nat) : hasL [] p h = true := rfl
theorem hasL_pos {l : List UInt8} (hl : 0 < l.length) (p : Int) (h : Nat) : hasL l p h = (asksL h p (8 * l.length : Nat)).all (bitL l) := by
  unfold hasL
  rw [decide_eq_false (by intro e; rw [e] at hl; simp at hl), Bool.false_or]
theorem hasL_yes {l : List UInt8} (hl : 0 < l.length) {p : Int} {h : Nat} (H : ∀ k ∈ asksL h p (8 * l.length : Nat), bitL l k = true) : hasL l p h = true := by
  rw [hasL_pos hl, List.all_eq_true]
  exact H
theorem hasL_no {l : List UInt8} (hl : 0 < l.length) {p : Int} {h k : Nat} (hk : k ∈ asksL h p (8 * l.length : Nat)) (H : bitL l k = false) : hasL l p h = false := by
  rw [hasL_pos hl, List.all_eq_false]
  exact ⟨k, hk, by rw [H]; decide⟩
/-- The bits that hashes ask. -/
def setL (l : List Nat) (p bits : Int) : List Nat := l.flatMap fun h => asksL h p bits
theorem setL_nil (p bits : Int) : setL [] p bits = [] := rfl
theorem setL_snoc (l : List Nat) (h : Nat) (p bits : Int) : setL (l ++ [h]) p bits = setL l p bits ++ asksL h p bits := by unfold setL; simp
theorem setL_mem {l : List Nat} {h k : Nat} {p bits : Int} (hh : h ∈ l) (hk : k ∈ asksL h p bits) : k ∈ setL l p bits := List.mem_flatMap.2 ⟨h, hh, hk⟩
theorem setL_sub {l m : List Nat} {p bits : Int} : ∀ k, k ∈ setL l p bits → k ∈ setL (l ++ m) p bits := fun k hk => by
  obtain ⟨h, hh, hk⟩ := List.mem_flatMap.1 hk
  exact setL_mem (List.mem_append_left _ hh) hk
theorem setL_lt {l : List Nat} {k : Nat} {p bits : Int} (hb : 1 ≤ bits) (hk : k ∈ setL l p bits) : k < bits.toNat := by
  obtain ⟨h, _, hk⟩ := List.mem_flatMap.1 hk
  exact asksL_lt hb hk
/-- So many bits may be made. -/
def mkOk (bits : Int) : Bool := decide (1 ≤ bits ∧ bits ≤ 1000000 ∧ bits % 8 = 0)
/-- What is made of hashes. -/
def makeL (l : List Nat) (p bits : Int) : List UInt8 := if mkOk bits then bytesL (setL l p bits) (bits.toNat / 8) else []
theorem makeL_no {l : List Nat} {p bits : Int} (h : mkOk bits = false) : makeL l p bits = [] := by unfold makeL; rw [h]; rfl
theorem makeL_yes {l : List Nat} {p bits : Int} (h : mkOk bits = true) : makeL l p bits = bytesL (setL l p bits) (bits.toNat / 8) := by unfold makeL; rw [h]; rfl
theorem makeL_length (l : List Nat) (p bits : Int) : (makeL l p bits).length ≤ 125000 := by
  unfold makeL
  split
  · rename_i h
    unfold mkOk at h
    have := of_decide_eq_true h
    rw [bytesL_length]
    omega
  · simp

/-- A byte with a bit turned off. -/
theorem bit_shift {c k : Nat} : (c / 2 ^ k % 2 = 1) ↔ c.testBit k = true := by
  rw [Nat.testBit_eq_decide_div_mod_eq, decide_eq_true_iff]
theorem bit_and {c k : Nat} : (c &&& 2 ^ k = 0) ↔ c.testBit k = false := by
  constructor
  · intro h
    have h2 := congrArg (fun x => x.testBit k) h
    simp only [Nat.testBit_and, Nat.testBit_two_pow_self, Bool.and_true, Nat.zero_testBit] at h2
    exact h2
  · intro h
    apply Nat.eq_of_testBit_eq
    intro j
    rw [Nat.testBit_and, Nat.testBit_two_pow, Nat.zero_testBit]
    by_cases e : k = j
    · subst e
      rw [h]
      rfl
    · rw [decide_eq_false e, Bool.and_false]

/-- Of as many bits as a power of 2 the probes of a hash are each bit once. -/
theorem prb_pow (h : Nat) {e i : Nat} (he : e ≤ 64) : prb h (i : Nat) ((2 ^ e : Nat) : Int) = (h + i * stepH h) % 2 ^ e := by
  have hp : 0 < 2 ^ e := Nat.pow_pos (by decide)
  unfold prb
  rw [if_neg (by omega), Int.toNat_natCast, Int.toNat_natCast]
  exact Nat.mod_mod_of_dvd _ (Nat.pow_dvd_pow 2 he (n := 64))
theorem odd_cancel {s e d : Nat} (hs : s % 2 = 1) (h : 2 ^ e ∣ d * s) : 2 ^ e ∣ d := by
  have hc : Nat.Coprime (2 ^ e) s := by
    apply Nat.Coprime.pow_left
    rw [Nat.coprime_iff_gcd_eq_one]
    have h2 : Nat.gcd 2 s = Nat.gcd (s % 2) 2 := by rw [Nat.gcd_rec]
    rw [h2, hs]
    rfl
  exact hc.dvd_of_dvd_mul_right h
theorem prb_inj {h e i j : Nat} (he : e ≤ 64) (hi : i < 2 ^ e) (hj : j < 2 ^ e) (hij : j < i) : prb h (i : Nat) ((2 ^ e : Nat) : Int) ≠ prb h (j : Nat) ((2 ^ e : Nat) : Int) := by
  intro hE
  rw [prb_pow h he, prb_pow h he] at hE
  have hle : h + j * stepH h ≤ h + i * stepH h := Nat.add_le_add_left (Nat.mul_le_mul_right _ (by omega)) _
  have hd : 2 ^ e ∣ (h + i * stepH h) - (h + j * stepH h) := Nat.dvd_of_mod_eq_zero (Nat.sub_mod_eq_zero_of_mod_eq hE)
  have e1 : (h + i * stepH h) - (h + j * stepH h) = (i - j) * stepH h := by rw [Nat.sub_mul]; omega
  rw [e1] at hd
  have := Nat.le_of_dvd (by omega) (odd_cancel (stepH_odd h) hd)
  omega
theorem prb_round {h e : Nat} (he : e ≤ 64) : prb h ((2 ^ e : Nat) : Int) ((2 ^ e : Nat) : Int) = prb h ((0 : Nat) : Int) ((2 ^ e : Nat) : Int) := by
  rw [prb_pow h he, prb_pow h he, Nat.zero_mul, Nat.add_zero, Nat.add_mul_mod_self_left]
end Go.Proofs.YtmbhafabphogdaaGreat

/- DiskMath -/
namespace Go.Proofs.YtmbhafabphogdaaGreat

/-- A file. -/
structure FileS where
  name : ByteArray
  data : ByteArray
  synced : Nat
/-- A disk: fails: behind so many changes it fails, less one (0: it does not). -/
structure DiskS where
  cap : Nat
  l : List FileS
  count : Nat
  down : Bool
  starts : Nat
  fails : Nat
  keep : List Int

def nameB (n : ByteArray) : Bool := decide (0 < n.size) && decide (n.size ≤ 12)
/-- Where a file is; as many as there are: nowhere. -/
def findS (l : List FileS) (n : ByteArray) : Nat := l.findIdx (fun f => decide (f.name = n))
def usedS (l : List FileS) : Nat := (l.map (fun f => f.data.size)).sum
def lessB (a b : ByteArray) : Bool := Op.bytesLess a.toList b.toList
/-- How many files stand ahead of a name. -/
def aheadS (l : List FileS) (n : ByteArray) : Nat := l.findIdx (fun f => !lessB f.name n)
def layS (l : List FileS) (f : FileS) : List FileS := l.take (aheadS l f.name) ++ [f] ++ l.drop (aheadS l f.name)
def dropS (l : List FileS) (i : Nat) : List FileS := l.take i ++ l.drop (i + 1)
/-- How many bytes of a file stay. -/
def staysS (f : FileS) (k : Int) : Nat := f.synced + min k.toNat (f.data.size - f.synced)
def crashF (f : FileS) (k : Int) : FileS := ⟨f.name, f.data.extract 0 (staysS f k), staysS f k⟩
/-- The first n of them have been cut. -/
def crashK (l : List FileS) (keep : List Int) (n : Nat) : List FileS := l.mapIdx (fun i f => if i < n then crashF f (keep.getD i 0) else f)
def crashL (l : List FileS) (keep : List Int) : List FileS := l.mapIdx (fun i f => crashF f (keep.getD i 0))
def sinkS (D : DiskS) (keep : List Int) : DiskS := { D with l := crashL D.l keep, down := true, fails := 0, keep := [] }
/-- A change that would be done: is it? -/
def goesS (D : DiskS) : Bool := !decide (D.fails = 1)
def nextS (D : DiskS) : DiskS := { D with fails := D.fails - 1 }
/-- A change that would be done: done, or the disk sinks. -/
def doneS (D : DiskS) (E : DiskS) : Nat × DiskS := if goesS D then (0, { E with fails := D.fails - 1 }) else (61, sinkS D D.keep)

def crashS (D : DiskS) (keep : List Int) : Nat × DiskS := if D.down then (61, D) else (0, sinkS D keep)
def startS (D : DiskS) : Nat × DiskS := if D.down then (0, { D with down := false, starts := D.starts + 1 }) else (2, D)
def failS (D : DiskS) (n : Int) (keep : List Int) : Nat × DiskS := if D.down then (61, D) else if n < 0 then (2, D) else (0, { D with fails := min n.toNat 1099511627776 + 1, keep := keep })
def createS (D : DiskS) (n : ByteArray) : Nat × DiskS :=
  if D.down then (61, D) else if !nameB n then (2, D) else if findS D.l n < D.l.length then (62, D) else if 400 ≤ D.l.length then (60, D)
  else doneS D { D with l := layS D.l ⟨n, ByteArray.empty, 0⟩ }
def setF (l : List FileS) (i : Nat) (h : FileS → FileS) : List FileS := l.modify i h
def appE (D : DiskS) (n s : ByteArray) : DiskS := { D with l := setF D.l (findS D.l n) (fun f => { f with data := f.data ++ s }) }
def appendS (D : DiskS) (n s : ByteArray) : Nat × DiskS :=
  if D.down then (61, D) else if findS D.l n < D.l.length then (if D.cap < usedS D.l + s.size then (60, D)
    else if goesS D then (0, nextS (appE D n s)) else (61, sinkS (appE D n s) D.keep)) else (4, D)
def readS (D : DiskS) (n : ByteArray) (a k : Int) : ByteArray × Nat × DiskS :=
  if D.down then (ByteArray.empty, 61, D) else
    let E := { D with count := D.count + 1 }
    match D.l[findS D.l n]? with
    | none => (ByteArray.empty, 4, E)
    | some f => if a < 0 ∨ k < 0 ∨ (f.data.size : Int) < a ∨ (f.data.size : Int) - a < k then (ByteArray.empty, 2, E) else (f.data.extract a.toNat (a.toNat + k.toNat), 0, E)
def syncS (D : DiskS) (n : ByteArray) : Nat × DiskS :=
  if D.down then (61, D) else if findS D.l n < D.l.length then doneS D { D with l := setF D.l (findS D.l n) (fun f => { f with synced := f.data.size }) } else (4, D)
/-- A file goes by another name. -/
def renameL (l : List FileS) (i : Nat) (to : ByteArray) : List FileS :=
  match l[i]? with
  | none => l
  | some f => layS (let m := dropS l i; if findS m to < m.length then dropS m (findS m to) else m) { f with name := to }
def renameS (D : DiskS) (n to : ByteArray) : Nat × DiskS :=
  if D.down then (61, D) else if findS D.l n < D.l.length then (if !nameB to then (2, D) else doneS D { D with l := if n = to then D.l else renameL D.l (findS D.l n) to }) else (4, D)
def deleteS (D : DiskS) (n : ByteArray) : Nat × DiskS :=
  if D.down then (61, D) else if findS D.l n < D.l.length then doneS D { D with l := dropS D.l (findS D.l n) } else (4, D)
def sizeS (D : DiskS) (n : ByteArray) : Nat × Nat :=
  if D.down then (0, 61) else match D.l[findS D.l n]? with
    | none => (0, 4)
    | some f => (f.data.size, 0)
/-- Bytes with others laid over them from a place on, k of these at most. -/
def overK (d s : ByteArray) (a k : Nat) : List UInt8 := d.data.toList.mapIdx (fun j c => if a ≤ j ∧ j < a + min k s.size then s.data.toList.getD (j - a) 0 else c)
def overS (d s : ByteArray) (a : Nat) : ByteArray := ⟨(overK d s a s.size).toArray⟩
def spoilS (D : DiskS) (n : ByteArray) (a : Int) (s : ByteArray) : Nat × DiskS :=
  if findS D.l n < D.l.length then (if a < 0 then (2, D) else (0, { D with l := setF D.l (findS D.l n) (fun f => { f with data := overS f.data s a.toNat }) })) else (4, D)
def cutS (D : DiskS) (n : ByteArray) (k : Int) : Nat × DiskS :=
  if findS D.l n < D.l.length then (if k < 0 then (2, D) else (0, { D with l := setF D.l (findS D.l n) (fun f => ⟨f.name, f.data.extract 0 (min k.toNat f.data.size), min f.synced (min k.toNat f.data.size)⟩) })) else (4, D)

/-- What a disk is like, always. -/
structure WfD (D : DiskS) : Prop where
  cap : D.cap ≤ 1048576
  used : usedS D.l ≤ D.cap
  many : D.l.length ≤ 400
  names : ∀ f ∈ D.l, 0 < f.name.size ∧ f.name.size ≤ 12
  synced : ∀ f ∈ D.l, f.synced ≤ f.data.size
  fails : D.fails ≤ 1099511627777
  order : D.l.Pairwise (fun f g => lessB f.name g.name = true)
end Go.Proofs.YtmbhafabphogdaaGreat
