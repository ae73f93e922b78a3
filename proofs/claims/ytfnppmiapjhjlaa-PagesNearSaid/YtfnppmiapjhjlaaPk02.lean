/- SumsInto, NumsPut, SealOne, OpenOne, Bytes -/
import Derived.Test.YtfnppmiapjhjlaaPk01
import Derived.Deep.RegionHeld3
import Derived.Lib.IndexBytes
/- SumsInto -/
namespace Go.Proofs.Ytfnppmiapjhjlaa
open Go.RowKit
set_option linter.unusedVariables false

theorem val_u32 {a b : Int} (h : a = b) : Value.int .u32 a = .int .u32 b := by rw [h]
theorem ret_u32 {a b : Int} (h : a = b) : Ending.returned (.int .u32 a) = .returned (.int .u32 b) := by rw [h]

theorem stp_walk (y : Nat) (hy : y < 4294967296) : bits .xor .u32 ((y : Int) / 2) (bits .and .u32 (y : Int) 1 * 3988292384 % 4294967296) = ((stp y : Nat) : Int) := by
  have h1 : bits .and .u32 (y : Int) 1 = ((y % 2 : Nat) : Int) := by
    have h := u32_and_nat y 1 hy (by decide)
    rw [nat_mask1] at h
    exact h
  have h2 : ((y % 2 : Nat) : Int) * 3988292384 % 4294967296 = ((y % 2 * 3988292384 : Nat) : Int) := by omega
  have h3 : (y : Int) / 2 = ((y / 2 : Nat) : Int) := by omega
  rw [h1, h2, h3]
  exact u32_xor_nat _ _ (by omega) (by omega)

set_option maxHeartbeats 400000 in
theorem into_any (x c : Nat) (w : World) (hx : x < 4294967296) (hc : c < 256) :
    Calls Try.prog 63 #[.int .u32 (x : Nat), .int .u8 (c : Nat)] w fun e w' => e = .returned (.int .u32 (intoS x c : Nat)) ∧ w = w' := by
  go_enter Try.func63, Try.ntmps63
  go_wp2
  go_loop [0, 9] (fun a i => ∃ k : Nat, k ≤ 8 ∧ i = .int .i64 k ∧ a = .int .u32 (stk k (x ^^^ c) : Nat)) (fun _ i => 8 - (intOf i).toNat)
  case atStart => exact ⟨0, by omega, rfl, val_u32 (u32_xor_nat x c hx (by omega))⟩
  case round =>
    obtain ⟨k, hk, rfl, rfl⟩ := hrel
    by_cases hlt : k < 8
    · have hy : stk k (x ^^^ c) < 4294967296 := stk_lt k (xor_lt hx (by omega))
      have hs := Lib.hid (stk_one k (x ^^^ c))
      generalize stk k (x ^^^ c) = y at *
      go_wp2
      go_round
      case rel => exact ⟨k + 1, by omega, by go_num, val_u32 (by rw [hs.out]; exact stp_walk y hy)⟩
      case measure => simp [intOf]; omega
    · obtain rfl : k = 8 := by omega
      go_wp2
      go_ret
      exact ⟨rfl, rfl⟩

theorem compl (x : Nat) (hx : x < 4294967296) : bits .xor .u32 IntKind.u32.max (x : Int) = ((4294967295 - x : Nat) : Int) := by
  have e : IntKind.u32.max = ((4294967295 : Nat) : Int) := by decide
  rw [e, all_xor hx]
  exact u32_xor_nat _ _ (by decide) hx

set_option maxHeartbeats 400000 in
theorem more_any (x : Nat) (s : ByteArray) (w : World) (hx : x < 4294967296) (hs : s.size ≤ maxLen) :
    Calls Try.prog 57 #[.int .u32 (x : Nat), .string s] w fun e w' => e = .returned (.int .u32 (moreS x s.data.toList : Nat)) ∧ w = w' := by
  unfold maxLen at hs
  go_enter Try.func57, Try.ntmps57
  go_wp2
  go_loop [5, 11] (fun a i => ∃ k : Nat, k ≤ s.size ∧ i = .int .i64 k ∧ a = .int .u32 (foldS (4294967295 - x) (s.data.toList.take k) : Nat)) (fun _ i => s.size - (intOf i).toNat)
  case atStart =>
    exact ⟨0, by omega, rfl, val_u32 (by rw [List.take_zero, foldS_nil]; exact compl x hx)⟩
  case round =>
    obtain ⟨k, hk, rfl, rfl⟩ := hrel
    have hy : foldS (4294967295 - x) (s.data.toList.take k) < 4294967296 := foldS_lt _ (by omega)
    by_cases hlt : k < s.size
    · have h1 := Lib.hid (take_snoc s k hlt)
      have h2 := Lib.hid (foldS_snoc (4294967295 - x) (s.data.toList.take k) s[k])
      have hc := (s[k]).toNat_lt
      generalize foldS (4294967295 - x) (s.data.toList.take k) = y at *
      go_wp2_with fail
      refine (into_any y _ _ hy hc).mono ?_
      rintro e w' ⟨rfl, rfl⟩
      go_wp2
      go_round
      case rel => exact ⟨k + 1, by omega, by go_num, val_u32 (by rw [h1.out, h2.out])⟩
      case measure => simp [intOf]; omega
    · obtain rfl : k = s.size := by omega
      have h1 : List.take s.size s.data.toList = s.data.toList := List.take_of_length_le (by simp)
      have hm : moreS x s.data.toList = 4294967295 - foldS (4294967295 - x) s.data.toList := rfl
      rw [h1] at hy ⊢
      clear h1
      generalize foldS (4294967295 - x) s.data.toList = y at *
      have Hm := Lib.hid hm
      clear hm
      go_wp2
      go_ret
      exact ⟨ret_u32 (by rw [Hm.out]; exact compl y hy), rfl⟩

theorem sum_any (s : ByteArray) (w : World) (hs : s.size ≤ maxLen) :
    Calls Try.prog 49 #[.string s] w fun e w' => e = .returned (.int .u32 (sumS s.data.toList : Nat)) ∧ w = w' := by
  have h := Lib.hid (fun w => more_any 0 s w (by decide) hs)
  unfold maxLen at hs
  go_enter Try.func49, Try.ntmps49
  go_wp2_with fail
  refine (h.out _).mono ?_
  rintro e w' ⟨rfl, rfl⟩
  go_wp2
  go_ret
  exact ⟨rfl, rfl⟩
end Go.Proofs.Ytfnppmiapjhjlaa

/- NumsPut -/
namespace Go.Proofs.Ytfnppmiapjhjlaa
open Go.RowKit
set_option linter.unusedVariables false

theorem be_at : ∀ (k n j : Nat) (h : j < (be k n).length), (be k n)[j] = UInt8.ofNat (n / 256 ^ (k - 1 - j))
  | 0, n, j, h => by simp [be] at h
  | k + 1, n, 0, h => by simp [be]
  | k + 1, n, j + 1, h => by
    have hj : j < (be k n).length := by simpa [be] using h
    have e : k + 1 - 1 - (j + 1) = k - 1 - j := by omega
    simp only [be, List.getElem_cons_succ, be_at k n j hj, e]

/-- What stands at place j of N, when k of n's bytes are laid from the end on. -/
def laidAt (n N k j : Nat) : Value := .int .u8 (if j + k < N then 0 else ((n / 256 ^ (N - 1 - j) % 256 : Nat) : Int))

theorem laid_step (n N k j : Nat) (hk : k < N) : (if j = N - 1 - k then Value.int .u8 ((n / 256 ^ k % 256 : Nat) : Int) else laidAt n N k j) = laidAt n N (k + 1) j := by
  unfold laidAt
  by_cases h : j = N - 1 - k
  · have e : N - 1 - j = k := by omega
    rw [if_pos h, if_neg (by omega), e]
  · rw [if_neg h]
    by_cases h2 : j + k < N
    · rw [if_pos h2, if_pos (by omega)]
    · rw [if_neg h2, if_neg (by omega)]

theorem laid_full (n N j : Nat) (h : j < (be N n).length) : laidAt n N N j = .int .u8 ((be N n)[j].toNat : Int) := by
  unfold laidAt
  rw [if_neg (by omega), be_at, UInt8.toNat_ofNat']

theorem byte_val (n k : Nat) : (n : Int) / 2 ^ (8 * k) % 256 = ((n / 256 ^ k % 256 : Nat) : Int) := by
  have e : (2 : Nat) ^ (8 * k) = 256 ^ k := by rw [Nat.pow_mul]
  rw [← e, Int.natCast_emod, Int.natCast_ediv, Int.natCast_pow]; rfl

theorem put_none (n : Nat) (size : Int) (w : World) (h : size < 1 ∨ 8 < size) :
    Calls Try.prog 40 #[.int .u64 (n : Nat), .int .i64 size] w fun e w' => e = .returned (.string ByteArray.empty) ∧ w = w' := by
  rcases h with h | h
  all_goals
    go_enter Try.func40, Try.ntmps40
    go_wp2
    go_ret
    exact ⟨rfl, rfl⟩

set_option maxHeartbeats 400000 in
theorem put_some (n N : Nat) (w : World) (h1 : 1 ≤ N) (h8 : N ≤ 8) (hn : n < 18446744073709551616) :
    Calls Try.prog 40 #[.int .u64 (n : Nat), .int .i64 (N : Nat)] w fun e w' => e = .returned (.string (bs (be N n))) ∧ Below w.heap.size w w' := by
  have hmk := run_make_row' (P := Try.prog) 36 5 (.int .u8 0) 1 Try.underlying36 (by kernel_rfl) rfl .i64 .i64 N (by omega) (by omega)
  go_enter Try.func40, Try.ntmps40
  go_wp2
  go_loopw [16] (fun i wr => ∃ k : Nat, k ≤ N ∧ i = .int .i64 k ∧ wr.rowIs w.heap.size 5 N (laidAt n N k) ∧ Below w.heap.size w wr) (fun i _ => N - (intOf i).toNat)
  case atStart => exact ⟨0, Nat.zero_le _, rfl, (World.rowIs_made _ _ _ _).congr (fun j hj => by unfold laidAt; rw [if_pos (by omega)]), (Below.refl _ _).alloc (Nat.le_refl _) _⟩
  case round =>
    obtain ⟨k, hk, rfl, hrow, hbel⟩ := hrel
    by_cases hlt : k < N
    · have hcell := hrow.cell (i := N - 1 - k) (by omega)
      have hfz := hrow.frozen (N - 1 - k)
      go_wp2
      go_roundw
      case rel =>
        rw [byte_val n k]
        exact ⟨k + 1, by omega, by go_num, (hrow.set _ _).congr (fun j _ => laid_step n N k j hlt), hbel.setCell (Nat.le_refl _) _⟩
      case measure => simp [intOf]; omega
    · obtain rfl : k = N := by omega
      have hcv : (convert 36 9 (.slice (some ⟨w.heap.size, 0, none⟩) k k)).run Try.prog wr = .ok (.string (bs (be k n))) wr := by
        have h := run_convert_bytes_back (P := Try.prog) wr 36 9 5 ⟨w.heap.size, 0, none⟩ k (be k n) Try.underlying36 Try.underlying5 Try.underlying9
          (fun j hj => by
            have e : (⟨w.heap.size, 0, none⟩ : Addr).add j = ⟨w.heap.size, j, none⟩ := by simp [Addr.add]; omega
            rw [e, hrow.cell (by rw [be_length] at hj; exact hj), laid_full n k j hj])
        rw [be_length] at h
        exact h
      go_wp2
      go_ret
      exact ⟨rfl, hbel⟩

theorem put_any (n : Nat) (size : Int) (w : World) (hn : n < 18446744073709551616) :
    Calls Try.prog 40 #[.int .u64 (n : Nat), .int .i64 size] w fun e w' => e = .returned (.string (putS n size)) ∧ Below w.heap.size w w' := by
  unfold putS
  by_cases h : 1 ≤ size ∧ size ≤ 8
  · rw [if_pos h]
    obtain ⟨N, rfl⟩ : ∃ N : Nat, size = N := ⟨size.toNat, by omega⟩
    exact put_some n N w (by omega) (by omega) hn
  · rw [if_neg h]
    exact (put_none n size w (by omega)).mono fun e w' ⟨he, hw⟩ => ⟨he, hw ▸ Below.refl _ _⟩
end Go.Proofs.Ytfnppmiapjhjlaa

/- SealOne -/
namespace Go.Proofs.Ytfnppmiapjhjlaa
open Go.RowKit
set_option linter.unusedVariables false

theorem and_split (i a b c d : Nat) (hb : b < 2 ^ i) (hd : d < 2 ^ i) : (2 ^ i * a + b) &&& (2 ^ i * c + d) = 2 ^ i * (a &&& c) + (b &&& d) := by
  apply Nat.eq_of_testBit_eq
  intro j
  rw [Nat.testBit_and, Nat.testBit_two_pow_mul_add a hb, Nat.testBit_two_pow_mul_add c hd, Nat.testBit_two_pow_mul_add (a &&& c) (Nat.and_lt_two_pow b hd)]
  split <;> rw [Nat.testBit_and]
theorem or_split (i a b c d : Nat) (hb : b < 2 ^ i) (hd : d < 2 ^ i) : (2 ^ i * a + b) ||| (2 ^ i * c + d) = 2 ^ i * (a ||| c) + (b ||| d) := by
  apply Nat.eq_of_testBit_eq
  intro j
  rw [Nat.testBit_or, Nat.testBit_two_pow_mul_add a hb, Nat.testBit_two_pow_mul_add c hd, Nat.testBit_two_pow_mul_add (a ||| c) (Nat.or_lt_two_pow hb hd)]
  split <;> rw [Nat.testBit_or]
theorem mask_ff (x : Nat) : x &&& 16711935 = 65536 * (x / 65536 % 256) + x % 256 := by
  have h := and_split 16 (x / 65536) (x % 65536) 255 255 (Nat.mod_lt _ (by decide)) (by decide)
  have e1 : (2 : Nat) ^ 16 * (x / 65536) + x % 65536 = x := by omega
  have e2 : (2 : Nat) ^ 16 * 255 + 255 = 16711935 := by decide
  rw [e1, e2, nat_mask8, nat_mask8] at h
  rw [h]
  omega
theorem or_pair (a b : Nat) (hb : b < 256) : b ||| (256 * a) = 256 * a + b := by
  rw [Nat.or_comm]
  exact nat_join 8 (256 * a) b (by omega) (by omega)

/-- A number of four bytes, turned about. -/
def revN (n : Nat) : Nat := 16777216 * (n % 256) + 65536 * (n / 256 % 256) + 256 * (n / 65536 % 256) + n / 16777216 % 256
theorem revN_lt (n : Nat) : revN n < 4294967296 := by unfold revN; omega
theorem be_rev (n : Nat) (hn : n < 4294967296) : be 4 (revN n) = (be 4 n).reverse := by
  have e : un (be 4 n).reverse = revN n := by
    have p1 : (256 : Nat) ^ 1 = 256 := by decide
    have p2 : (256 : Nat) ^ 2 = 65536 := by decide
    have p3 : (256 : Nat) ^ 3 = 16777216 := by decide
    simp only [p1, p2, p3, Nat.pow_zero, Nat.div_one, be, List.reverse_cons, List.reverse_nil, List.nil_append, List.cons_append, un, List.foldl_cons, List.foldl_nil, UInt8.toNat_ofNat']
    unfold revN
    omega
  have h := be_un (be 4 n).reverse
  rw [List.length_reverse, be_length, e] at h
  exact h

theorem rev_one (n : Nat) (hn : n < 4294967296) : bits .or .u32 (bits .and .u32 ((n : Int) / 256) 16711935) (bits .and .u32 (n : Int) 16711935 * 256 % 4294967296) =
    ((16777216 * (n / 65536 % 256) + 65536 * (n / 16777216 % 256) + 256 * (n % 256) + n / 256 % 256 : Nat) : Int) := by
  have h0 : (n : Int) / 256 = ((n / 256 : Nat) : Int) := by omega
  have h1 : bits .and .u32 ((n / 256 : Nat) : Int) 16711935 = ((n / 256 &&& 16711935 : Nat) : Int) := u32_and_nat _ _ (by omega) (by decide)
  have h2 : bits .and .u32 (n : Int) 16711935 = ((n &&& 16711935 : Nat) : Int) := u32_and_nat _ _ hn (by decide)
  rw [h0, h1, h2, mask_ff, mask_ff]
  have e3 : n / 256 / 65536 % 256 = n / 16777216 % 256 := by omega
  have e4 : n % 256 < 256 := Nat.mod_lt _ (by decide)
  have e5 : n / 256 % 256 < 256 := Nat.mod_lt _ (by decide)
  have e6 : n / 65536 % 256 < 256 := Nat.mod_lt _ (by decide)
  have e7 : n / 16777216 % 256 < 256 := Nat.mod_lt _ (by decide)
  rw [e3]
  generalize n % 256 = a at *
  generalize n / 256 % 256 = b at *
  generalize n / 65536 % 256 = c at *
  generalize n / 16777216 % 256 = d at *
  have h3 : ((65536 * c + a : Nat) : Int) * 256 % 4294967296 = ((65536 * (256 * c) + 256 * a : Nat) : Int) := by omega
  rw [h3]
  have h4 := u32_or_nat (65536 * d + b) (65536 * (256 * c) + 256 * a) (by omega) (by omega)
  rw [h4]
  have h5 := or_split 16 d b (256 * c) (256 * a) (by omega) (by omega)
  rw [or_pair c d (by omega), or_pair a b (by omega)] at h5
  have e8 : (2 : Nat) ^ 16 = 65536 := by decide
  rw [e8] at h5
  rw [h5]
  omega
theorem rev_two (m : Nat) (hm : m < 4294967296) : bits .or .u32 ((m : Int) / 65536) ((m : Int) * 65536 % 4294967296) = ((m % 65536 * 65536 + m / 65536 : Nat) : Int) := by
  have h0 : (m : Int) / 65536 = ((m / 65536 : Nat) : Int) := by omega
  have h1 : (m : Int) * 65536 % 4294967296 = ((m % 65536 * 65536 : Nat) : Int) := by omega
  rw [h0, h1, u32_or_nat _ _ (by omega) (by omega), Nat.or_comm]
  rw [nat_join 16 _ _ (by omega) (by omega)]

set_option maxHeartbeats 400000 in
theorem rev_any (n : Nat) (w : World) (hn : n < 4294967296) :
    Calls Try.prog 48 #[.int .u32 (n : Nat)] w fun e w' => e = .returned (.int .u32 (revN n : Nat)) ∧ w = w' := by
  have h1 := Lib.hid (rev_one n hn)
  go_enter Try.func48, Try.ntmps48
  go_wp2
  go_ret
  refine ⟨ret_int ?_, rfl⟩
  rw [h1.out, rev_two _ (by omega)]
  unfold revN
  omega

theorem put_four (n : Nat) (w : World) (hn : n < 4294967296) :
    Calls Try.prog 40 #[.int .u64 (revN n : Nat), .int .i64 4] w fun e w' => e = .returned (.string (bs (be 4 n).reverse)) ∧ Below w.heap.size w w' := by
  rw [← be_rev n hn]
  exact put_some (revN n) 4 w (by omega) (by omega) (by have := revN_lt n; omega)

set_option maxHeartbeats 400000 in
theorem tail_any (s : ByteArray) (w : World) (hs : s.size ≤ maxLen) :
    Calls Try.prog 38 #[.string s] w fun e w' => e = .returned (.string (bs (tailS s.data.toList))) ∧ Below w.heap.size w w' := by
  have h1 := Lib.hid (fun w => sum_any s w hs)
  have hl := sumS_lt s.data.toList
  unfold tailS
  generalize sumS s.data.toList = n at *
  have h2 := Lib.hid (fun w => rev_any n w hl)
  have h3 := Lib.hid (fun w => put_four n w hl)
  have hr := revN_lt n
  generalize revN n = m at *
  generalize bs (be 4 n).reverse = t at *
  unfold maxLen at hs
  go_enter Try.func38, Try.ntmps38
  go_wp2_with fail
  refine (h1.out _).mono ?_
  rintro e w' ⟨rfl, rfl⟩
  go_wp2_with fail
  refine (h2.out _).mono ?_
  rintro e w' ⟨rfl, rfl⟩
  go_wp2_with fail
  refine (h3.out _).mono ?_
  rintro e w' ⟨rfl, hb⟩
  go_wp2
  go_ret
  exact ⟨rfl, hb⟩

/-- A text, sealed (P2.2). -/
def sealS (s : ByteArray) : ByteArray := s ++ bs (tailS s.data.toList)

theorem add_four (s : ByteArray) (h : s.size + 4 ≤ maxLen) (l : List UInt8) (hl : l.length = 4) (w : World) : (Op.stringOp .add s (bs l)).run Try.prog w = .ok (.string (s ++ bs l)) w :=
  run_string_add_sum (P := Try.prog) (w := w) s (bs l) (by rw [bs_size, hl]; exact h)

set_option maxHeartbeats 400000 in
theorem seal_any (s : ByteArray) (w : World) (hs : s.size + 4 ≤ maxLen) :
    Calls Try.prog 24 #[.string s] w fun e w' => e = .returned (.string (sealS s)) ∧ Below w.heap.size w w' := by
  have h1 := Lib.hid (fun w => tail_any s w (by omega))
  have ha := add_four s hs _ (tailS_length s.data.toList)
  unfold sealS
  generalize tailS s.data.toList = t at *
  unfold maxLen at hs
  go_enter Try.func24, Try.ntmps24
  go_wp2_with fail
  refine (h1.out _).mono ?_
  rintro e w' ⟨rfl, hb⟩
  go_wp2
  go_ret
  exact ⟨rfl, hb⟩
end Go.Proofs.Ytfnppmiapjhjlaa

/- OpenOne -/
namespace Go.Proofs.Ytfnppmiapjhjlaa
open Go.RowKit
set_option linter.unusedVariables false

/-- Is a text sealed (P2.2)? -/
def opOk (s : ByteArray) : Bool := decide (4 ≤ s.size ∧ s.extract (s.size - 4) s.size = bs (tailS (s.extract 0 (s.size - 4)).data.toList))
/-- The text that is sealed (P2.2). -/
def opA (s : ByteArray) : ByteArray := if opOk s = true then s.extract 0 (s.size - 4) else ByteArray.empty

theorem list_eq {a b : ByteArray} (h : a = b) : (a.toList == b.toList) = true := by rw [h, beq_iff_eq]
theorem list_ne {a b : ByteArray} (h : ¬ a = b) : (a.toList == b.toList) = false := by
  rw [beq_eq_false_iff_ne]
  intro x
  rw [Lib.toList_data, Lib.toList_data] at x
  exact h (ByteArray.ext (Array.toList_inj.1 x))

set_option maxHeartbeats 400000 in
theorem open_at (s : ByteArray) (w : World) (hs : s.size ≤ maxLen) (h4 : 4 ≤ s.size) (T : ByteArray)
    (ht : ∀ W, Below w.heap.size w W → Calls Try.prog 38 #[.string (s.extract 0 (s.size - 4))] W fun e w' => e = .returned (.string T) ∧ Below w.heap.size w w') :
    Calls Try.prog 19 #[.string s] w fun e w' => e = .returned (.tuple #[.string (if s.extract (s.size - 4) s.size = T then s.extract 0 (s.size - 4) else ByteArray.empty), .bool (decide (s.extract (s.size - 4) s.size = T))]) ∧ Below w.heap.size w w' := by
  have Ht := Lib.hid ht
  clear ht
  unfold maxLen at hs
  have d1 : decide ((s.size : Int) - 4 < 0) = false := by simp; omega
  have x1 : (0 : Int) ≤ (s.size : Int) - 4 := by omega
  have x4 : (4 : Int) ≤ (s.size : Int) := by omega
  have x2 : (s.size : Int) - 4 ≤ s.size := by omega
  have x3 : ((s.size : Int) - 4).toNat = s.size - 4 := by omega
  by_cases hT : s.extract (s.size - 4) s.size = T
  · have he := list_eq hT.symm
    rw [if_pos hT, decide_eq_true hT]
    have HT := Lib.hid hT
    clear hT
    go_enter Try.func19, Try.ntmps19
    go_wp2_with fail
    go_region_held3 (fun w' => Below w.heap.size w w') (first | assumption | exact (Below.refl _ _).drew) ((go_at_call 38; refine (Ht.out _ (by assumption)).mono ?_; rintro e w' ⟨rfl, hb⟩))
    go_wp2
    go_ret2
    exact ⟨rfl, ‹Below _ _ _›⟩
  · have he := list_ne (fun h : T = s.extract (s.size - 4) s.size => hT h.symm)
    rw [if_neg hT, decide_eq_false hT]
    have HT := Lib.hid hT
    clear hT
    go_enter Try.func19, Try.ntmps19
    go_wp2_with fail
    go_region_held3 (fun w' => Below w.heap.size w w') (first | assumption | exact (Below.refl _ _).drew) ((go_at_call 38; refine (Ht.out _ (by assumption)).mono ?_; rintro e w' ⟨rfl, hb⟩))
    go_wp2
    go_ret2
    exact ⟨rfl, ‹Below _ _ _›⟩

theorem open_any (s : ByteArray) (w : World) (hs : s.size ≤ maxLen) :
    Calls Try.prog 19 #[.string s] w fun e w' => e = .returned (.tuple #[.string (opA s), .bool (opOk s)]) ∧ Below w.heap.size w w' := by
  by_cases h4 : 4 ≤ s.size
  · have h := open_at s w hs h4 (bs (tailS (s.extract 0 (s.size - 4)).data.toList)) (fun W hW => (tail_any _ W (by unfold maxLen at *; rw [ByteArray.size_extract]; omega)).mono fun e w' ⟨he, hb⟩ => ⟨he, hW.trans (hb.mono hW.size)⟩)
    have e1 : opOk s = decide (s.extract (s.size - 4) s.size = bs (tailS (s.extract 0 (s.size - 4)).data.toList)) := by simp [opOk, h4]
    have e2 : opA s = if s.extract (s.size - 4) s.size = bs (tailS (s.extract 0 (s.size - 4)).data.toList) then s.extract 0 (s.size - 4) else ByteArray.empty := by
      unfold opA
      rw [e1]
      simp
    rw [e1, e2]
    exact h
  · have e1 : opOk s = false := by simp [opOk, h4]
    have e2 : opA s = ByteArray.empty := by simp [opA, e1]
    rw [e1, e2]
    clear e1 e2
    unfold maxLen at hs
    have d1 : decide ((s.size : Int) - 4 < 0) = true := by simp; omega
    go_enter Try.func19, Try.ntmps19
    go_wp2_with fail
    go_quiet (fail)
    go_wp2
    go_ret2
    exact ⟨rfl, below_drewN (Below.refl _ _) _⟩
end Go.Proofs.Ytfnppmiapjhjlaa

/- Bytes -/
namespace Go.Proofs.Ytfnppmiapjhjlaa
open Go.RowKit
set_option linter.unusedVariables false

/-- The first n cells of block b are known, and none of them is marked. -/
def RowB (w : World) (b : Nat) (n : Nat) (f : Nat → Value) : Prop :=
  ∃ (c : Array Value) (t : TypeId) (fr : Nat × Nat), w.heap[b]? = some (.cells c t fr) ∧ n ≤ c.size ∧ (fr = (0, 0) ∨ n ≤ fr.1) ∧ ∀ i, i < n → c[i]? = some (f i)
namespace RowB
variable {w : World} {b n : Nat} {f g : Nat → Value}
theorem cell (h : RowB w b n f) {i : Nat} (hi : i < n) : w.cell? ⟨b, i, none⟩ = some (f i) := by
  obtain ⟨c, t, fr, hb, _, _, hc⟩ := h
  simp [World.cell?, hb, hc i hi]
theorem frozen (h : RowB w b n f) {i : Nat} (hi : i < n) : w.frozen? ⟨b, i, none⟩ = false := by
  obtain ⟨c, t, ⟨lo, hi'⟩, hb, _, hf, _⟩ := h
  rcases hf with hf | hf
  · cases hf
    simp [World.frozen?, hb]
  · have hf' : n ≤ lo := hf
    simp [World.frozen?, hb]
    omega
theorem lt (h : RowB w b n f) : b < w.heap.size := by
  obtain ⟨c, t, fr, hb, _⟩ := h
  obtain ⟨hlt, _⟩ := Array.getElem?_eq_some_iff.1 hb
  exact hlt
theorem congr (h : RowB w b n f) (e : ∀ i, i < n → f i = g i) : RowB w b n g := by
  obtain ⟨c, t, fr, hb, hn, hf, hc⟩ := h
  exact ⟨c, t, fr, hb, hn, hf, fun i hi => by rw [hc i hi, e i hi]⟩
theorem of_block {w' : World} (h : RowB w b n f) (e : w'.heap[b]? = w.heap[b]?) : RowB w' b n f := by
  obtain ⟨c, t, fr, hb, hn, hf, hc⟩ := h
  exact ⟨c, t, fr, e.trans hb, hn, hf, hc⟩
theorem below {w' : World} (h : RowB w b n f) (hb : Below w.heap.size w w') : RowB w' b n f := h.of_block (hb.block _ h.lt)
theorem drew (h : RowB w b n f) : RowB w.drew b n f := h
theorem set (h : RowB w b n f) (i : Nat) (v : Value) : RowB (w.setCell ⟨b, i, none⟩ v) b n (fun j => if j = i then v else f j) := by
  obtain ⟨c, t, fr, hb, hn, hf, hc⟩ := h
  refine ⟨c.setIfInBounds i v, t, fr, ?_, by simpa using hn, hf, fun j hj => ?_⟩
  · simp [World.setCell, Array.getElem?_modify, hb]
  · rw [Array.getElem?_setIfInBounds]
    by_cases e : j = i
    · subst e
      simp [show j < c.size by omega]
    · rw [if_neg (fun h => e h.symm)]
      show c[j]? = some (if j = i then v else f j)
      rw [if_neg e]
      exact hc j hj
end RowB

/-- Cell j of a list of bytes. -/
def u8At (l : List UInt8) (j : Nat) : Value := .int .u8 ((l.getD j 0).toNat : Int)

/-- The world behind '[]byte(s)'. -/
def bytesIn (e : TypeId) (w : World) (s : ByteArray) : World :=
  w.drew.alloc (.cells (bytesRow s (grownCap w s.size 0 e)) e ((bytesRow s (grownCap w s.size 0 e)).size, (bytesRow s (grownCap w s.size 0 e)).size + 1))
theorem bytesIn_below (e : TypeId) {w0 w : World} (s : ByteArray) (h : Below w0.heap.size w0 w) : Below w0.heap.size w0 (bytesIn e w s) := h.drew.alloc h.size _
theorem bytesIn_row (e : TypeId) (w : World) (s : ByteArray) : RowB (bytesIn e w s) w.heap.size s.size (u8At s.data.toList) := by
  have hs : s.size ≤ (bytesRow s (grownCap w s.size 0 e)).size := by
    unfold bytesRow
    rw [Array.size_append, Array.size_map]
    have : s.data.size = s.size := rfl
    omega
  refine ⟨bytesRow s (grownCap w s.size 0 e), e, ((bytesRow s (grownCap w s.size 0 e)).size, (bytesRow s (grownCap w s.size 0 e)).size + 1), ?_, hs, Or.inr hs, fun i hi => ?_⟩
  · show (w.heap.push _)[w.heap.size]? = _
    simp
  have hi' : i < s.data.size := hi
  unfold bytesRow u8At
  rw [Array.getElem?_append_left (by simpa using hi'), Array.getElem?_map, Array.getElem?_eq_getElem hi', List.getD_eq_getElem?_getD, Array.getElem?_toList, Array.getElem?_eq_getElem hi']
  rfl
theorem conv_in (w : World) (s : ByteArray) : (convert 9 36 (.string s)).run Try.prog w = .ok (.slice (some ⟨w.heap.size, 0, none⟩) s.size (grownCap w s.size 0 5)) (bytesIn 5 w s) :=
  run_bytes_of_string (P := Try.prog) w 9 36 5 s Try.underlying9 Try.underlying36 Try.underlying5
/-- 'string(b)' of a row that is known. -/
theorem conv_out {w : World} {b n : Nat} {l : List UInt8} (h : RowB w b n (u8At l)) (hl : l.length = n) (cap : Nat) : (convert 36 9 (.slice (some ⟨b, 0, none⟩) n cap)).run Try.prog w = .ok (.string ⟨l.toArray⟩) w := by
  have h := run_convert_bytes_back (P := Try.prog) w 36 9 5 ⟨b, 0, none⟩ cap l Try.underlying36 Try.underlying5 Try.underlying9
    (fun j hj => by
      have e : (⟨b, 0, none⟩ : Addr).add j = ⟨b, j, none⟩ := by simp [Addr.add]; omega
      rw [e, h.cell (by omega)]
      unfold u8At
      rw [List.getD_eq_getElem?_getD, List.getElem?_eq_getElem hj]
      rfl)
  rw [hl] at h
  exact h
end Go.Proofs.Ytfnppmiapjhjlaa
