/- sums.Seal: a text with its sum behind it (Open apart). -/
import Derived.Test.YtcfidpjhemjbjaaSumsInto
import Derived.Test.YtcfidpjhemjbjaaNumsPut
import Derived.Deep.RegionHeld3
import Derived.Lib.IndexBytes
namespace Go.Proofs.Ytcfidpjhemjbjaa
open Go.RowKit
set_option linter.unusedVariables false

theorem and_split (i a b c d : Nat) (hb : b < 2 ^ i) (hd : d < 2 ^ i) : (2 ^ i * a + b) &&& (2 ^ i * c + d) = 2 ^ i * (a &&& c) + (b &&& d) := by
  apply Nat.eq_of_testBit_eq
  intro j
  rw [Nat.testBit_and, Nat.testBit_two_pow_mul_add a hb, Nat.testBit_two_pow_mul_add c hd, Nat.testBit_two_pow_mul_add (a &&& c) (Nat.and_lt_two_pow b hd)]
  split <;> rw [Nat.testBit_and]
theorem or_split (i a b c d : Nat) (hb : b < 2 ^ i) (hd : d < 2 ^ i) : (2 ^ i * a + b) ||| (2 ^ i * c + d) = 2 ^ i * (a ||| c) + (b ||| d) := by
  apply Nat.eq_of_testBit_eq
  intro j
  rw [Nat.testBit_or, Nat.testBit_two_pow_mul_add a hb, Nat.testBit_two_pow_mul_add c hd, Nat.testBit_two_pow_mul_add (a ||| c) (Nat.or_lt_two_pow hb hd)]
  split <;> rw [Nat.testBit_or]
theorem mask_ff (x : Nat) : x &&& 16711935 = 65536 * (x / 65536 % 256) + x % 256 := by
  have h := and_split 16 (x / 65536) (x % 65536) 255 255 (Nat.mod_lt _ (by decide)) (by decide)
  have e1 : (2 : Nat) ^ 16 * (x / 65536) + x % 65536 = x := by omega
  have e2 : (2 : Nat) ^ 16 * 255 + 255 = 16711935 := by decide
  rw [e1, e2, nat_mask8, nat_mask8] at h
  rw [h]
  omega
theorem or_pair (a b : Nat) (hb : b < 256) : b ||| (256 * a) = 256 * a + b := by
  rw [Nat.or_comm]
  exact nat_join 8 (256 * a) b (by omega) (by omega)

/-- A number of four bytes, turned about. -/
def revN (n : Nat) : Nat := 16777216 * (n % 256) + 65536 * (n / 256 % 256) + 256 * (n / 65536 % 256) + n / 16777216 % 256
theorem revN_lt (n : Nat) : revN n < 4294967296 := by unfold revN; omega
theorem be_rev (n : Nat) (hn : n < 4294967296) : be 4 (revN n) = (be 4 n).reverse := by
  have e : un (be 4 n).reverse = revN n := by
    have p1 : (256 : Nat) ^ 1 = 256 := by decide
    have p2 : (256 : Nat) ^ 2 = 65536 := by decide
    have p3 : (256 : Nat) ^ 3 = 16777216 := by decide
    simp only [p1, p2, p3, Nat.pow_zero, Nat.div_one, be, List.reverse_cons, List.reverse_nil, List.nil_append, List.cons_append, un, List.foldl_cons, List.foldl_nil, UInt8.toNat_ofNat']
    unfold revN
    omega
  have h := be_un (be 4 n).reverse
  rw [List.length_reverse, be_length, e] at h
  exact h

theorem rev_one (n : Nat) (hn : n < 4294967296) : bits .or .u32 (bits .and .u32 ((n : Int) / 256) 16711935) (bits .and .u32 (n : Int) 16711935 * 256 % 4294967296) =
    ((16777216 * (n / 65536 % 256) + 65536 * (n / 16777216 % 256) + 256 * (n % 256) + n / 256 % 256 : Nat) : Int) := by
  have h0 : (n : Int) / 256 = ((n / 256 : Nat) : Int) := by omega
  have h1 : bits .and .u32 ((n / 256 : Nat) : Int) 16711935 = ((n / 256 &&& 16711935 : Nat) : Int) := u32_and_nat _ _ (by omega) (by decide)
  have h2 : bits .and .u32 (n : Int) 16711935 = ((n &&& 16711935 : Nat) : Int) := u32_and_nat _ _ hn (by decide)
  rw [h0, h1, h2, mask_ff, mask_ff]
  have e3 : n / 256 / 65536 % 256 = n / 16777216 % 256 := by omega
  have e4 : n % 256 < 256 := Nat.mod_lt _ (by decide)
  have e5 : n / 256 % 256 < 256 := Nat.mod_lt _ (by decide)
  have e6 : n / 65536 % 256 < 256 := Nat.mod_lt _ (by decide)
  have e7 : n / 16777216 % 256 < 256 := Nat.mod_lt _ (by decide)
  rw [e3]
  generalize n % 256 = a at *
  generalize n / 256 % 256 = b at *
  generalize n / 65536 % 256 = c at *
  generalize n / 16777216 % 256 = d at *
  have h3 : ((65536 * c + a : Nat) : Int) * 256 % 4294967296 = ((65536 * (256 * c) + 256 * a : Nat) : Int) := by omega
  rw [h3]
  have h4 := u32_or_nat (65536 * d + b) (65536 * (256 * c) + 256 * a) (by omega) (by omega)
  rw [h4]
  have h5 := or_split 16 d b (256 * c) (256 * a) (by omega) (by omega)
  rw [or_pair c d (by omega), or_pair a b (by omega)] at h5
  have e8 : (2 : Nat) ^ 16 = 65536 := by decide
  rw [e8] at h5
  rw [h5]
  omega
theorem rev_two (m : Nat) (hm : m < 4294967296) : bits .or .u32 ((m : Int) / 65536) ((m : Int) * 65536 % 4294967296) = ((m % 65536 * 65536 + m / 65536 : Nat) : Int) := by
  have h0 : (m : Int) / 65536 = ((m / 65536 : Nat) : Int) := by omega
  have h1 : (m : Int) * 65536 % 4294967296 = ((m % 65536 * 65536 : Nat) : Int) := by omega
  rw [h0, h1, u32_or_nat _ _ (by omega) (by omega), Nat.or_comm]
  rw [nat_join 16 _ _ (by omega) (by omega)]

set_option maxHeartbeats 400000 in
theorem rev_any (n : Nat) (w : World) (hn : n < 4294967296) :
    Calls Try.prog 45 #[.int .u32 (n : Nat)] w fun e w' => e = .returned (.int .u32 (revN n : Nat)) ∧ w = w' := by
  have h1 := Lib.hid (rev_one n hn)
  go_enter Try.func45, Try.ntmps45
  go_wp2
  go_ret
  refine ⟨ret_int ?_, rfl⟩
  rw [h1.out, rev_two _ (by omega)]
  unfold revN
  omega

theorem put_four (n : Nat) (w : World) (hn : n < 4294967296) :
    Calls Try.prog 18 #[.int .u64 (revN n : Nat), .int .i64 4] w fun e w' => e = .returned (.string (bs (be 4 n).reverse)) ∧ Below w.heap.size w w' := by
  rw [← be_rev n hn]
  exact put_some (revN n) 4 w (by omega) (by omega) (by have := revN_lt n; omega)

set_option maxHeartbeats 400000 in
theorem tail_any (s : ByteArray) (w : World) (hs : s.size ≤ maxLen) :
    Calls Try.prog 36 #[.string s] w fun e w' => e = .returned (.string (bs (tailS s.data.toList))) ∧ Below w.heap.size w w' := by
  have h1 := Lib.hid (fun w => sum_any s w hs)
  have hl := sumS_lt s.data.toList
  unfold tailS
  generalize sumS s.data.toList = n at *
  have h2 := Lib.hid (fun w => rev_any n w hl)
  have h3 := Lib.hid (fun w => put_four n w hl)
  have hr := revN_lt n
  generalize revN n = m at *
  generalize bs (be 4 n).reverse = t at *
  unfold maxLen at hs
  go_enter Try.func36, Try.ntmps36
  go_wp2_with fail
  refine (h1.out _).mono ?_
  rintro e w' ⟨rfl, rfl⟩
  go_wp2_with fail
  refine (h2.out _).mono ?_
  rintro e w' ⟨rfl, rfl⟩
  go_wp2_with fail
  refine (h3.out _).mono ?_
  rintro e w' ⟨rfl, hb⟩
  go_wp2
  go_ret
  exact ⟨rfl, hb⟩

/-- A text, sealed (P2.2). -/
def sealS (s : ByteArray) : ByteArray := s ++ bs (tailS s.data.toList)

theorem add_four (s : ByteArray) (h : s.size + 4 ≤ maxLen) (l : List UInt8) (hl : l.length = 4) (w : World) : (Op.stringOp .add s (bs l)).run Try.prog w = .ok (.string (s ++ bs l)) w :=
  run_string_add_sum (P := Try.prog) (w := w) s (bs l) (by rw [bs_size, hl]; exact h)

set_option maxHeartbeats 400000 in
theorem seal_any (s : ByteArray) (w : World) (hs : s.size + 4 ≤ maxLen) :
    Calls Try.prog 21 #[.string s] w fun e w' => e = .returned (.string (sealS s)) ∧ Below w.heap.size w w' := by
  have h1 := Lib.hid (fun w => tail_any s w (by omega))
  have ha := add_four s hs _ (tailS_length s.data.toList)
  unfold sealS
  generalize tailS s.data.toList = t at *
  unfold maxLen at hs
  go_enter Try.func21, Try.ntmps21
  go_wp2_with fail
  refine (h1.out _).mono ?_
  rintro e w' ⟨rfl, hb⟩
  go_wp2
  go_ret
  exact ⟨rfl, hb⟩
end Go.Proofs.Ytcfidpjhemjbjaa
