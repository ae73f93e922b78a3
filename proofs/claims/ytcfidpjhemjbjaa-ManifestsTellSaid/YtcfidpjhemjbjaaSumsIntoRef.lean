/- A byte goes into a state, and the sums of texts: the document's own functions. -/
import Derived.Test.YtcfidpjhemjbjaaSumsInto
namespace Go.Proofs.Ytcfidpjhemjbjaa
open Go.RowKit
set_option linter.unusedVariables false

/-- The document's state, when k of the byte's bits went in. -/
def refS (x c k : Nat) : Nat := stk k (x ^^^ c % 2 ^ k)
theorem refS_zero (x c : Nat) : refS x c 0 = x := by simp [refS, stk, Nat.mod_one]
theorem refS_all (x c : Nat) (hc : c < 256) : refS x c 8 = intoS x c := by
  unfold refS intoS
  rw [show c % 2 ^ 8 = c from Nat.mod_eq_of_lt hc]
theorem refS_lt (x c k : Nat) (hx : x < 4294967296) (hc : c < 256) : refS x c k < 4294967296 := by
  have h1 := Nat.mod_le c (2 ^ k)
  exact stk_lt k (xor_lt hx (by omega))
theorem mod_step (c k : Nat) : c % 2 ^ (k + 1) = c % 2 ^ k ^^^ 2 ^ k * (c / 2 ^ k % 2) := by
  have hl : c % 2 ^ k < 2 ^ k := Nat.mod_lt _ (Nat.two_pow_pos k)
  apply Nat.eq_of_testBit_eq
  intro i
  have h0 := Nat.testBit_two_pow_mul_add (c / 2 ^ k % 2) (b := 0) (i := k) (Nat.two_pow_pos k) i
  rw [Nat.add_zero] at h0
  rw [Nat.testBit_xor, h0, Nat.testBit_mod_two_pow, Nat.testBit_mod_two_pow, Nat.zero_testBit]
  by_cases h1 : i < k
  · simp [h1, show i < k + 1 by omega]
  · by_cases h2 : i = k
    · subst h2
      have h3 : (c / 2 ^ i % 2).testBit 0 = c.testBit i := by
        rw [Nat.testBit_zero, Nat.testBit_eq_decide_div_mod_eq]
        simp
      simp [h3]
    · have h3 : i - k ≠ 0 := by omega
      have h4 : (c / 2 ^ k % 2).testBit (i - k) = false := by
        apply Nat.testBit_lt_two_pow
        have h5 : 2 ^ 1 ≤ 2 ^ (i - k) := Nat.pow_le_pow_right (by decide) (by omega)
        have h6 : c / 2 ^ k % 2 < 2 := Nat.mod_lt _ (by decide)
        omega
      simp [h1, h4, show ¬ i < k + 1 by omega]
theorem stp_bit (y b : Nat) (hb : b < 2) : stp (y ^^^ b) = y / 2 ^^^ ((y + b) % 2 * 3988292384) := by
  unfold stp
  have h1 : (y ^^^ b) / 2 = y / 2 ^^^ b / 2 := Nat.xor_div_two
  have h2 : (y ^^^ b) % 2 = y % 2 ^^^ b % 2 := Nat.xor_mod_two_pow (n := 1)
  have h3 : b / 2 = 0 := by omega
  rw [h3, Nat.xor_zero] at h1
  rw [h1, h2]
  congr 2
  have e1 : (y + b) % 2 = (y % 2 + b) % 2 := by omega
  have e2 : b % 2 = b := by omega
  rw [e1, e2]
  have h4 : y % 2 < 2 := Nat.mod_lt _ (by decide)
  generalize y % 2 = r at *
  match r, b, h4, hb with
  | 0, 0, _, _ => rfl
  | 0, 1, _, _ => rfl
  | 1, 0, _, _ => rfl
  | 1, 1, _, _ => rfl
theorem refS_step (x c k : Nat) : refS x c (k + 1) = refS x c k / 2 ^^^ ((refS x c k + c / 2 ^ k) % 2 * 3988292384) := by
  have h : (refS x c k + c / 2 ^ k) % 2 = (refS x c k + c / 2 ^ k % 2) % 2 := by omega
  rw [h, ← stp_bit _ _ (Nat.mod_lt _ (by decide))]
  unfold refS
  rw [stk_one, mod_step, ← Nat.xor_assoc, stk_xor k, stk_shift]
theorem refS_one {x c k : Nat} (hx : refS x c k < 4294967296) (h : (((refS x c k : Nat) : Int) + (c : Int) / 2 ^ k) % 2 = 1) : bits .xor .u32 (((refS x c k : Nat) : Int) / 2) 3988292384 = ((refS x c (k + 1) : Nat) : Int) := by
  have e : (c : Int) / 2 ^ k = ((c / 2 ^ k : Nat) : Int) := by rw [Int.natCast_ediv, Int.natCast_pow]; rfl
  rw [e] at h
  rw [refS_step]
  generalize refS x c k = y at *
  generalize c / 2 ^ k = z at *
  have h1 : (y + z) % 2 = 1 := by omega
  have h3 : (y : Int) / 2 = ((y / 2 : Nat) : Int) := by omega
  rw [h1, Nat.one_mul, h3]
  exact u32_xor_nat _ _ (by omega) (by decide)
theorem refS_nought {x c k : Nat} (h : ¬ (((refS x c k : Nat) : Int) + (c : Int) / 2 ^ k) % 2 = 1) : ((refS x c k : Nat) : Int) / 2 = ((refS x c (k + 1) : Nat) : Int) := by
  have e : (c : Int) / 2 ^ k = ((c / 2 ^ k : Nat) : Int) := by rw [Int.natCast_ediv, Int.natCast_pow]; rfl
  rw [e] at h
  rw [refS_step]
  generalize refS x c k = y at *
  generalize c / 2 ^ k = z at *
  have h1 : (y + z) % 2 = 0 := by omega
  rw [h1, Nat.zero_mul, Nat.xor_zero]
  omega

set_option maxHeartbeats 400000 in
theorem into_ref (x c : Nat) (w : World) (hx : x < 4294967296) (hc : c < 256) :
    Calls Try.prog 53 #[.int .u32 (x : Nat), .int .u8 (c : Nat)] w fun e w' => e = .returned (.int .u32 (intoS x c : Nat)) ∧ w = w' := by
  go_enter Try.func53, Try.ntmps53
  go_wp2
  go_loop [0, 5] (fun a i => ∃ k : Nat, k ≤ 8 ∧ i = .int .i64 k ∧ a = .int .u32 (refS x c k : Nat)) (fun _ i => 8 - (intOf i).toNat)
  case atStart => exact ⟨0, by omega, rfl, by rw [refS_zero]⟩
  case round =>
    obtain ⟨k, hk, rfl, rfl⟩ := hrel
    by_cases hlt : k < 8
    · have hy := refS_lt x c k hx hc
      have h1 := Lib.hid (refS_one hy)
      have h2 := Lib.hid (refS_nought (x := x) (c := c) (k := k))
      generalize refS x c k = y at *
      go_wp2
      · go_round
        case rel => exact ⟨k + 1, by omega, by go_num, val_u32 (h1.out (beq_iff_eq.1 (by assumption)))⟩
        case measure => simp [intOf]; omega
      · go_round
        case rel => exact ⟨k + 1, by omega, by go_num, val_u32 (h2.out (beq_eq_false_iff_ne.1 (by assumption)))⟩
        case measure => simp [intOf]; omega
    · obtain rfl : k = 8 := by omega
      have h := Lib.hid (refS_all x c hc)
      go_wp2
      go_ret
      exact ⟨ret_u32 (by rw [h.out]), rfl⟩

set_option maxHeartbeats 400000 in
theorem more_ref (x : Nat) (s : ByteArray) (w : World) (hx : x < 4294967296) (hs : s.size ≤ maxLen) :
    Calls Try.prog 47 #[.int .u32 (x : Nat), .string s] w fun e w' => e = .returned (.int .u32 (moreS x s.data.toList : Nat)) ∧ w = w' := by
  unfold maxLen at hs
  go_enter Try.func47, Try.ntmps47
  go_wp2
  go_loop [5, 6] (fun a i => ∃ k : Nat, k ≤ s.size ∧ i = .int .i64 k ∧ a = .int .u32 (foldS (4294967295 - x) (s.data.toList.take k) : Nat)) (fun _ i => s.size - (intOf i).toNat)
  case atStart => exact ⟨0, by omega, rfl, val_u32 (by rw [List.take_zero, foldS_nil]; omega)⟩
  case round =>
    obtain ⟨k, hk, rfl, rfl⟩ := hrel
    have hy : foldS (4294967295 - x) (s.data.toList.take k) < 4294967296 := foldS_lt _ (by omega)
    by_cases hlt : k < s.size
    · have h1 := Lib.hid (take_snoc s k hlt)
      have h2 := Lib.hid (foldS_snoc (4294967295 - x) (s.data.toList.take k) s[k])
      have hc := (s[k]).toNat_lt
      generalize foldS (4294967295 - x) (s.data.toList.take k) = y at *
      go_wp2_with fail
      refine (into_ref y _ _ hy hc).mono ?_
      rintro e w' ⟨rfl, rfl⟩
      go_wp2
      go_round
      case rel => exact ⟨k + 1, by omega, by go_num, val_u32 (by rw [h1.out, h2.out])⟩
      case measure => simp [intOf]; omega
    · obtain rfl : k = s.size := by omega
      have h1 : List.take s.size s.data.toList = s.data.toList := List.take_of_length_le (by simp)
      have hm : moreS x s.data.toList = 4294967295 - foldS (4294967295 - x) s.data.toList := rfl
      rw [h1] at hy ⊢
      clear h1
      generalize foldS (4294967295 - x) s.data.toList = y at *
      have Hm := Lib.hid hm
      clear hm
      go_wp2
      go_ret
      exact ⟨ret_u32 (by rw [Hm.out]; omega), rfl⟩

theorem sum_ref (s : ByteArray) (w : World) (hs : s.size ≤ maxLen) :
    Calls Try.prog 37 #[.string s] w fun e w' => e = .returned (.int .u32 (sumS s.data.toList : Nat)) ∧ w = w' := by
  have h := Lib.hid (fun w => more_ref 0 s w (by decide) hs)
  unfold maxLen at hs
  go_enter Try.func37, Try.ntmps37
  go_wp2_with fail
  refine (h.out _).mono ?_
  rintro e w' ⟨rfl, rfl⟩
  go_wp2
  go_ret
  exact ⟨rfl, rfl⟩
end Go.Proofs.Ytcfidpjhemjbjaa
