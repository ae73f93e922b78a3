/- SumsInto, NumsPut, SealOne, RecMath, SumsIntoRef -/
import Derived.Test.YtedbgimmbapfaaaGreatPk01
import Derived.Deep.RegionHeld3
import Derived.Lib.IndexBytes
/- SumsInto -/
namespace Go.Proofs.YtedbgimmbapfaaaGreat
open Go.RowKit
set_option linter.unusedVariables false

theorem val_u32 {a b : Int} (h : a = b) : Value.int .u32 a = .int .u32 b := by rw [h]
theorem ret_u32 {a b : Int} (h : a = b) : Ending.returned (.int .u32 a) = .returned (.int .u32 b) := by rw [h]

theorem stp_walk (y : Nat) (hy : y < 4294967296) : bits .xor .u32 ((y : Int) / 2) (bits .and .u32 (y : Int) 1 * 3988292384 % 4294967296) = ((stp y : Nat) : Int) := by
  have h1 : bits .and .u32 (y : Int) 1 = ((y % 2 : Nat) : Int) := by
    have h := u32_and_nat y 1 hy (by decide)
    rw [nat_mask1] at h
    exact h
  have h2 : ((y % 2 : Nat) : Int) * 3988292384 % 4294967296 = ((y % 2 * 3988292384 : Nat) : Int) := by omega
  have h3 : (y : Int) / 2 = ((y / 2 : Nat) : Int) := by omega
  rw [h1, h2, h3]
  exact u32_xor_nat _ _ (by omega) (by omega)

set_option maxHeartbeats 400000 in
theorem into_any (x c : Nat) (w : World) (hx : x < 4294967296) (hc : c < 256) :
    Calls Tryz.prog 93 #[.int .u32 (x : Nat), .int .u8 (c : Nat)] w fun e w' => e = .returned (.int .u32 (intoS x c : Nat)) ∧ w = w' := by
  go_enter Tryz.func93, Tryz.ntmps93
  go_wp2
  go_loop [0, 9] (fun a i => ∃ k : Nat, k ≤ 8 ∧ i = .int .i64 k ∧ a = .int .u32 (stk k (x ^^^ c) : Nat)) (fun _ i => 8 - (intOf i).toNat)
  case atStart => exact ⟨0, by omega, rfl, val_u32 (u32_xor_nat x c hx (by omega))⟩
  case round =>
    obtain ⟨k, hk, rfl, rfl⟩ := hrel
    by_cases hlt : k < 8
    · have hy : stk k (x ^^^ c) < 4294967296 := stk_lt k (xor_lt hx (by omega))
      have hs := Lib.hid (stk_one k (x ^^^ c))
      generalize stk k (x ^^^ c) = y at *
      go_wp2
      go_round
      case rel => exact ⟨k + 1, by omega, by go_num, val_u32 (by rw [hs.out]; exact stp_walk y hy)⟩
      case measure => simp [intOf]; omega
    · obtain rfl : k = 8 := by omega
      go_wp2
      go_ret
      exact ⟨rfl, rfl⟩

theorem compl (x : Nat) (hx : x < 4294967296) : bits .xor .u32 IntKind.u32.max (x : Int) = ((4294967295 - x : Nat) : Int) := by
  have e : IntKind.u32.max = ((4294967295 : Nat) : Int) := by decide
  rw [e, all_xor hx]
  exact u32_xor_nat _ _ (by decide) hx

set_option maxHeartbeats 400000 in
theorem more_any (x : Nat) (s : ByteArray) (w : World) (hx : x < 4294967296) (hs : s.size ≤ maxLen) :
    Calls Tryz.prog 89 #[.int .u32 (x : Nat), .string s] w fun e w' => e = .returned (.int .u32 (moreS x s.data.toList : Nat)) ∧ w = w' := by
  unfold maxLen at hs
  go_enter Tryz.func89, Tryz.ntmps89
  go_wp2
  go_loop [5, 11] (fun a i => ∃ k : Nat, k ≤ s.size ∧ i = .int .i64 k ∧ a = .int .u32 (foldS (4294967295 - x) (s.data.toList.take k) : Nat)) (fun _ i => s.size - (intOf i).toNat)
  case atStart =>
    exact ⟨0, by omega, rfl, val_u32 (by rw [List.take_zero, foldS_nil]; exact compl x hx)⟩
  case round =>
    obtain ⟨k, hk, rfl, rfl⟩ := hrel
    have hy : foldS (4294967295 - x) (s.data.toList.take k) < 4294967296 := foldS_lt _ (by omega)
    by_cases hlt : k < s.size
    · have h1 := Lib.hid (take_snoc s k hlt)
      have h2 := Lib.hid (foldS_snoc (4294967295 - x) (s.data.toList.take k) s[k])
      have hc := (s[k]).toNat_lt
      generalize foldS (4294967295 - x) (s.data.toList.take k) = y at *
      go_wp2_with fail
      refine (into_any y _ _ hy hc).mono ?_
      rintro e w' ⟨rfl, rfl⟩
      go_wp2
      go_round
      case rel => exact ⟨k + 1, by omega, by go_num, val_u32 (by rw [h1.out, h2.out])⟩
      case measure => simp [intOf]; omega
    · obtain rfl : k = s.size := by omega
      have h1 : List.take s.size s.data.toList = s.data.toList := List.take_of_length_le (by simp)
      have hm : moreS x s.data.toList = 4294967295 - foldS (4294967295 - x) s.data.toList := rfl
      rw [h1] at hy ⊢
      clear h1
      generalize foldS (4294967295 - x) s.data.toList = y at *
      have Hm := Lib.hid hm
      clear hm
      go_wp2
      go_ret
      exact ⟨ret_u32 (by rw [Hm.out]; exact compl y hy), rfl⟩

theorem sum_any (s : ByteArray) (w : World) (hs : s.size ≤ maxLen) :
    Calls Tryz.prog 79 #[.string s] w fun e w' => e = .returned (.int .u32 (sumS s.data.toList : Nat)) ∧ w = w' := by
  have h := Lib.hid (fun w => more_any 0 s w (by decide) hs)
  unfold maxLen at hs
  go_enter Tryz.func79, Tryz.ntmps79
  go_wp2_with fail
  refine (h.out _).mono ?_
  rintro e w' ⟨rfl, rfl⟩
  go_wp2
  go_ret
  exact ⟨rfl, rfl⟩
end Go.Proofs.YtedbgimmbapfaaaGreat

/- NumsPut -/
namespace Go.Proofs.YtedbgimmbapfaaaGreat
open Go.RowKit
set_option linter.unusedVariables false

theorem be_at : ∀ (k n j : Nat) (h : j < (be k n).length), (be k n)[j] = UInt8.ofNat (n / 256 ^ (k - 1 - j))
  | 0, n, j, h => by simp [be] at h
  | k + 1, n, 0, h => by simp [be]
  | k + 1, n, j + 1, h => by
    have hj : j < (be k n).length := by simpa [be] using h
    have e : k + 1 - 1 - (j + 1) = k - 1 - j := by omega
    simp only [be, List.getElem_cons_succ, be_at k n j hj, e]

/-- What stands at place j of N, when k of n's bytes are laid from the end on. -/
def laidAt (n N k j : Nat) : Value := .int .u8 (if j + k < N then 0 else ((n / 256 ^ (N - 1 - j) % 256 : Nat) : Int))

theorem laid_step (n N k j : Nat) (hk : k < N) : (if j = N - 1 - k then Value.int .u8 ((n / 256 ^ k % 256 : Nat) : Int) else laidAt n N k j) = laidAt n N (k + 1) j := by
  unfold laidAt
  by_cases h : j = N - 1 - k
  · have e : N - 1 - j = k := by omega
    rw [if_pos h, if_neg (by omega), e]
  · rw [if_neg h]
    by_cases h2 : j + k < N
    · rw [if_pos h2, if_pos (by omega)]
    · rw [if_neg h2, if_neg (by omega)]

theorem laid_full (n N j : Nat) (h : j < (be N n).length) : laidAt n N N j = .int .u8 ((be N n)[j].toNat : Int) := by
  unfold laidAt
  rw [if_neg (by omega), be_at, UInt8.toNat_ofNat']

theorem byte_val (n k : Nat) : (n : Int) / 2 ^ (8 * k) % 256 = ((n / 256 ^ k % 256 : Nat) : Int) := by
  have e : (2 : Nat) ^ (8 * k) = 256 ^ k := by rw [Nat.pow_mul]
  rw [← e, Int.natCast_emod, Int.natCast_ediv, Int.natCast_pow]; rfl

theorem put_none (n : Nat) (size : Int) (w : World) (h : size < 1 ∨ 8 < size) :
    Calls Tryz.prog 44 #[.int .u64 (n : Nat), .int .i64 size] w fun e w' => e = .returned (.string ByteArray.empty) ∧ w = w' := by
  rcases h with h | h
  all_goals
    go_enter Tryz.func44, Tryz.ntmps44
    go_wp2
    go_ret
    exact ⟨rfl, rfl⟩

set_option maxHeartbeats 400000 in
theorem put_some (n N : Nat) (w : World) (h1 : 1 ≤ N) (h8 : N ≤ 8) (hn : n < 18446744073709551616) :
    Calls Tryz.prog 44 #[.int .u64 (n : Nat), .int .i64 (N : Nat)] w fun e w' => e = .returned (.string (bs (be N n))) ∧ Below w.heap.size w w' := by
  have hmk := run_make_row' (P := Tryz.prog) 54 5 (.int .u8 0) 1 Tryz.underlying54 (by kernel_rfl) rfl .i64 .i64 N (by omega) (by omega)
  go_enter Tryz.func44, Tryz.ntmps44
  go_wp2
  go_loopw [16] (fun i wr => ∃ k : Nat, k ≤ N ∧ i = .int .i64 k ∧ wr.rowIs w.heap.size 5 N (laidAt n N k) ∧ Below w.heap.size w wr) (fun i _ => N - (intOf i).toNat)
  case atStart => exact ⟨0, Nat.zero_le _, rfl, (World.rowIs_made _ _ _ _).congr (fun j hj => by unfold laidAt; rw [if_pos (by omega)]), (Below.refl _ _).alloc (Nat.le_refl _) _⟩
  case round =>
    obtain ⟨k, hk, rfl, hrow, hbel⟩ := hrel
    by_cases hlt : k < N
    · have hcell := hrow.cell (i := N - 1 - k) (by omega)
      have hfz := hrow.frozen (N - 1 - k)
      go_wp2
      go_roundw
      case rel =>
        rw [byte_val n k]
        exact ⟨k + 1, by omega, by go_num, (hrow.set _ _).congr (fun j _ => laid_step n N k j hlt), hbel.setCell (Nat.le_refl _) _⟩
      case measure => simp [intOf]; omega
    · obtain rfl : k = N := by omega
      have hcv : (convert 54 9 (.slice (some ⟨w.heap.size, 0, none⟩) k k)).run Tryz.prog wr = .ok (.string (bs (be k n))) wr := by
        have h := run_convert_bytes_back (P := Tryz.prog) wr 54 9 5 ⟨w.heap.size, 0, none⟩ k (be k n) Tryz.underlying54 Tryz.underlying5 Tryz.underlying9
          (fun j hj => by
            have e : (⟨w.heap.size, 0, none⟩ : Addr).add j = ⟨w.heap.size, j, none⟩ := by simp [Addr.add]; omega
            rw [e, hrow.cell (by rw [be_length] at hj; exact hj), laid_full n k j hj])
        rw [be_length] at h
        exact h
      go_wp2
      go_ret
      exact ⟨rfl, hbel⟩

theorem put_any (n : Nat) (size : Int) (w : World) (hn : n < 18446744073709551616) :
    Calls Tryz.prog 44 #[.int .u64 (n : Nat), .int .i64 size] w fun e w' => e = .returned (.string (putS n size)) ∧ Below w.heap.size w w' := by
  unfold putS
  by_cases h : 1 ≤ size ∧ size ≤ 8
  · rw [if_pos h]
    obtain ⟨N, rfl⟩ : ∃ N : Nat, size = N := ⟨size.toNat, by omega⟩
    exact put_some n N w (by omega) (by omega) hn
  · rw [if_neg h]
    exact (put_none n size w (by omega)).mono fun e w' ⟨he, hw⟩ => ⟨he, hw ▸ Below.refl _ _⟩
end Go.Proofs.YtedbgimmbapfaaaGreat

/- SealOne -/
namespace Go.Proofs.YtedbgimmbapfaaaGreat
open Go.RowKit
set_option linter.unusedVariables false

theorem and_split (i a b c d : Nat) (hb : b < 2 ^ i) (hd : d < 2 ^ i) : (2 ^ i * a + b) &&& (2 ^ i * c + d) = 2 ^ i * (a &&& c) + (b &&& d) := by
  apply Nat.eq_of_testBit_eq
  intro j
  rw [Nat.testBit_and, Nat.testBit_two_pow_mul_add a hb, Nat.testBit_two_pow_mul_add c hd, Nat.testBit_two_pow_mul_add (a &&& c) (Nat.and_lt_two_pow b hd)]
  split <;> rw [Nat.testBit_and]
theorem or_split (i a b c d : Nat) (hb : b < 2 ^ i) (hd : d < 2 ^ i) : (2 ^ i * a + b) ||| (2 ^ i * c + d) = 2 ^ i * (a ||| c) + (b ||| d) := by
  apply Nat.eq_of_testBit_eq
  intro j
  rw [Nat.testBit_or, Nat.testBit_two_pow_mul_add a hb, Nat.testBit_two_pow_mul_add c hd, Nat.testBit_two_pow_mul_add (a ||| c) (Nat.or_lt_two_pow hb hd)]
  split <;> rw [Nat.testBit_or]
theorem mask_ff (x : Nat) : x &&& 16711935 = 65536 * (x / 65536 % 256) + x % 256 := by
  have h := and_split 16 (x / 65536) (x % 65536) 255 255 (Nat.mod_lt _ (by decide)) (by decide)
  have e1 : (2 : Nat) ^ 16 * (x / 65536) + x % 65536 = x := by omega
  have e2 : (2 : Nat) ^ 16 * 255 + 255 = 16711935 := by decide
  rw [e1, e2, nat_mask8, nat_mask8] at h
  rw [h]
  omega
theorem or_pair (a b : Nat) (hb : b < 256) : b ||| (256 * a) = 256 * a + b := by
  rw [Nat.or_comm]
  exact nat_join 8 (256 * a) b (by omega) (by omega)

/-- A number of four bytes, turned about. -/
def revN (n : Nat) : Nat := 16777216 * (n % 256) + 65536 * (n / 256 % 256) + 256 * (n / 65536 % 256) + n / 16777216 % 256
theorem revN_lt (n : Nat) : revN n < 4294967296 := by unfold revN; omega
theorem be_rev (n : Nat) (hn : n < 4294967296) : be 4 (revN n) = (be 4 n).reverse := by
  have e : un (be 4 n).reverse = revN n := by
    have p1 : (256 : Nat) ^ 1 = 256 := by decide
    have p2 : (256 : Nat) ^ 2 = 65536 := by decide
    have p3 : (256 : Nat) ^ 3 = 16777216 := by decide
    simp only [p1, p2, p3, Nat.pow_zero, Nat.div_one, be, List.reverse_cons, List.reverse_nil, List.nil_append, List.cons_append, un, List.foldl_cons, List.foldl_nil, UInt8.toNat_ofNat']
    unfold revN
    omega
  have h := be_un (be 4 n).reverse
  rw [List.length_reverse, be_length, e] at h
  exact h

theorem rev_one (n : Nat) (hn : n < 4294967296) : bits .or .u32 (bits .and .u32 ((n : Int) / 256) 16711935) (bits .and .u32 (n : Int) 16711935 * 256 % 4294967296) =
    ((16777216 * (n / 65536 % 256) + 65536 * (n / 16777216 % 256) + 256 * (n % 256) + n / 256 % 256 : Nat) : Int) := by
  have h0 : (n : Int) / 256 = ((n / 256 : Nat) : Int) := by omega
  have h1 : bits .and .u32 ((n / 256 : Nat) : Int) 16711935 = ((n / 256 &&& 16711935 : Nat) : Int) := u32_and_nat _ _ (by omega) (by decide)
  have h2 : bits .and .u32 (n : Int) 16711935 = ((n &&& 16711935 : Nat) : Int) := u32_and_nat _ _ hn (by decide)
  rw [h0, h1, h2, mask_ff, mask_ff]
  have e3 : n / 256 / 65536 % 256 = n / 16777216 % 256 := by omega
  have e4 : n % 256 < 256 := Nat.mod_lt _ (by decide)
  have e5 : n / 256 % 256 < 256 := Nat.mod_lt _ (by decide)
  have e6 : n / 65536 % 256 < 256 := Nat.mod_lt _ (by decide)
  have e7 : n / 16777216 % 256 < 256 := Nat.mod_lt _ (by decide)
  rw [e3]
  generalize n % 256 = a at *
  generalize n / 256 % 256 = b at *
  generalize n / 65536 % 256 = c at *
  generalize n / 16777216 % 256 = d at *
  have h3 : ((65536 * c + a : Nat) : Int) * 256 % 4294967296 = ((65536 * (256 * c) + 256 * a : Nat) : Int) := by omega
  rw [h3]
  have h4 := u32_or_nat (65536 * d + b) (65536 * (256 * c) + 256 * a) (by omega) (by omega)
  rw [h4]
  have h5 := or_split 16 d b (256 * c) (256 * a) (by omega) (by omega)
  rw [or_pair c d (by omega), or_pair a b (by omega)] at h5
  have e8 : (2 : Nat) ^ 16 = 65536 := by decide
  rw [e8] at h5
  rw [h5]
  omega
theorem rev_two (m : Nat) (hm : m < 4294967296) : bits .or .u32 ((m : Int) / 65536) ((m : Int) * 65536 % 4294967296) = ((m % 65536 * 65536 + m / 65536 : Nat) : Int) := by
  have h0 : (m : Int) / 65536 = ((m / 65536 : Nat) : Int) := by omega
  have h1 : (m : Int) * 65536 % 4294967296 = ((m % 65536 * 65536 : Nat) : Int) := by omega
  rw [h0, h1, u32_or_nat _ _ (by omega) (by omega), Nat.or_comm]
  rw [nat_join 16 _ _ (by omega) (by omega)]

set_option maxHeartbeats 400000 in
theorem rev_any (n : Nat) (w : World) (hn : n < 4294967296) :
    Calls Tryz.prog 78 #[.int .u32 (n : Nat)] w fun e w' => e = .returned (.int .u32 (revN n : Nat)) ∧ w = w' := by
  have h1 := Lib.hid (rev_one n hn)
  go_enter Tryz.func78, Tryz.ntmps78
  go_wp2
  go_ret
  refine ⟨ret_int ?_, rfl⟩
  rw [h1.out, rev_two _ (by omega)]
  unfold revN
  omega

theorem put_four (n : Nat) (w : World) (hn : n < 4294967296) :
    Calls Tryz.prog 44 #[.int .u64 (revN n : Nat), .int .i64 4] w fun e w' => e = .returned (.string (bs (be 4 n).reverse)) ∧ Below w.heap.size w w' := by
  rw [← be_rev n hn]
  exact put_some (revN n) 4 w (by omega) (by omega) (by have := revN_lt n; omega)

set_option maxHeartbeats 400000 in
theorem tail_any (s : ByteArray) (w : World) (hs : s.size ≤ maxLen) :
    Calls Tryz.prog 66 #[.string s] w fun e w' => e = .returned (.string (bs (tailS s.data.toList))) ∧ Below w.heap.size w w' := by
  have h1 := Lib.hid (fun w => sum_any s w hs)
  have hl := sumS_lt s.data.toList
  unfold tailS
  generalize sumS s.data.toList = n at *
  have h2 := Lib.hid (fun w => rev_any n w hl)
  have h3 := Lib.hid (fun w => put_four n w hl)
  have hr := revN_lt n
  generalize revN n = m at *
  generalize bs (be 4 n).reverse = t at *
  unfold maxLen at hs
  go_enter Tryz.func66, Tryz.ntmps66
  go_wp2_with fail
  refine (h1.out _).mono ?_
  rintro e w' ⟨rfl, rfl⟩
  go_wp2_with fail
  refine (h2.out _).mono ?_
  rintro e w' ⟨rfl, rfl⟩
  go_wp2_with fail
  refine (h3.out _).mono ?_
  rintro e w' ⟨rfl, hb⟩
  go_wp2
  go_ret
  exact ⟨rfl, hb⟩

/-- A text, sealed (P2.2). -/
def sealS (s : ByteArray) : ByteArray := s ++ bs (tailS s.data.toList)

theorem add_four (s : ByteArray) (h : s.size + 4 ≤ maxLen) (l : List UInt8) (hl : l.length = 4) (w : World) : (Op.stringOp .add s (bs l)).run Tryz.prog w = .ok (.string (s ++ bs l)) w :=
  run_string_add_sum (P := Tryz.prog) (w := w) s (bs l) (by rw [bs_size, hl]; exact h)

set_option maxHeartbeats 400000 in
theorem seal_any (s : ByteArray) (w : World) (hs : s.size + 4 ≤ maxLen) :
    Calls Tryz.prog 45 #[.string s] w fun e w' => e = .returned (.string (sealS s)) ∧ Below w.heap.size w w' := by
  have h1 := Lib.hid (fun w => tail_any s w (by omega))
  have ha := add_four s hs _ (tailS_length s.data.toList)
  unfold sealS
  generalize tailS s.data.toList = t at *
  unfold maxLen at hs
  go_enter Tryz.func45, Tryz.ntmps45
  go_wp2_with fail
  refine (h1.out _).mono ?_
  rintro e w' ⟨rfl, hb⟩
  go_wp2
  go_ret
  exact ⟨rfl, hb⟩
end Go.Proofs.YtedbgimmbapfaaaGreat

/- RecMath -/
namespace Go.Proofs.YtedbgimmbapfaaaGreat
open Go.RowKit
set_option linter.unusedVariables false

/-- A payload's record. -/
def recS (p : ByteArray) : ByteArray := sealS (bs (be 4 p.size) ++ p) ++ bs (be 4 p.size)
theorem sealS_size (s : ByteArray) : (sealS s).size = s.size + 4 := by unfold sealS; rw [ByteArray.size_append, bs_size, tailS_length]
theorem recS_size (p : ByteArray) : (recS p).size = p.size + 12 := by
  unfold recS
  rw [ByteArray.size_append, sealS_size, ByteArray.size_append, bs_size, be_length]
  omega
/-- What Put tells (P8.1). -/
def prS (p : ByteArray) : ByteArray := if 2000 < p.size then ByteArray.empty else recS p
def prE (p : ByteArray) : Int := if 2000 < p.size then 3 else 0

/-- How long the payload at a place says it is. -/
def gtLen (s : ByteArray) (k : Nat) : Nat := getS (s.extract k (k + 4))
/-- Whether a record stands at a place (P8.2). -/
def gtOk (s : ByteArray) (k : Nat) : Bool := decide (k + 12 ≤ s.size ∧ gtLen s k ≤ 2000 ∧ k + gtLen s k + 12 ≤ s.size ∧ s.extract k (k + gtLen s k + 12) = recS (s.extract (k + 4) (k + 4 + gtLen s k)))
def getOk (s : ByteArray) (a : Int) : Bool := decide (0 ≤ a) && gtOk s a.toNat
def getP (s : ByteArray) (a : Int) : ByteArray := if getOk s a = true then s.extract (a.toNat + 4) (a.toNat + 4 + gtLen s a.toNat) else ByteArray.empty
def getN (s : ByteArray) (a : Int) : Nat := if getOk s a = true then a.toNat + gtLen s a.toNat + 12 else 0
theorem getOk_nat (s : ByteArray) (k : Nat) : getOk s (k : Nat) = gtOk s k := by simp [getOk]
theorem gt_no {s : ByteArray} {a : Int} (h : getOk s a = false) : getP s a = ByteArray.empty ∧ getN s a = 0 := by simp [getP, getN, h]
theorem gt_yes {s : ByteArray} {k : Nat} (h : gtOk s k = true) : getOk s (k : Nat) = true ∧ getP s (k : Nat) = s.extract (k + 4) (k + 4 + gtLen s k) ∧ getN s (k : Nat) = k + gtLen s k + 12 := by
  have e : getOk s (k : Nat) = true := by rw [getOk_nat]; exact h
  simp [getP, getN, e]
theorem gtOk_iff {s : ByteArray} {k : Nat} : gtOk s k = true ↔ (k + 12 ≤ s.size ∧ gtLen s k ≤ 2000 ∧ k + gtLen s k + 12 ≤ s.size ∧ s.extract k (k + gtLen s k + 12) = recS (s.extract (k + 4) (k + 4 + gtLen s k))) := by simp [gtOk]
theorem gtOk_false {s : ByteArray} {k : Nat} (h : ¬ (k + 12 ≤ s.size ∧ gtLen s k ≤ 2000 ∧ k + gtLen s k + 12 ≤ s.size ∧ s.extract k (k + gtLen s k + 12) = recS (s.extract (k + 4) (k + 4 + gtLen s k)))) : gtOk s k = false := by
  cases e : gtOk s k with
  | false => rfl
  | true => exact absurd (gtOk_iff.1 e) h
theorem getN_le (s : ByteArray) (a : Int) : getN s a ≤ s.size := by
  unfold getN
  by_cases h : getOk s a = true
  · rw [if_pos h]
    have h2 : gtOk s a.toNat = true := by simp [getOk] at h; exact h.2
    have := gtOk_iff.1 h2
    omega
  · rw [if_neg h]; exact Nat.zero_le _
theorem getN_lt {s : ByteArray} {k : Nat} (h : gtOk s k = true) : k + 12 ≤ getN s (k : Nat) ∧ getN s (k : Nat) ≤ s.size := by
  obtain ⟨_, _, e⟩ := gt_yes h
  have := gtOk_iff.1 h
  rw [e]
  omega

/-- What ends at a place (P8.2). -/
def bkLen (s : ByteArray) (e : Nat) : Nat := getS (s.extract (e - 4) e)
def bkOk (s : ByteArray) (a : Int) : Bool := decide (12 ≤ a ∧ a ≤ s.size ∧ bkLen s a.toNat ≤ 2000 ∧ bkLen s a.toNat + 12 ≤ a.toNat) && gtOk s (a.toNat - 12 - bkLen s a.toNat) && decide (getN s ((a.toNat - 12 - bkLen s a.toNat : Nat) : Int) = a.toNat)
def bkA (s : ByteArray) (a : Int) : Nat := if bkOk s a = true then a.toNat - 12 - bkLen s a.toNat else 0
def bkP (s : ByteArray) (a : Int) : ByteArray := if bkOk s a = true then getP s ((a.toNat - 12 - bkLen s a.toNat : Nat) : Int) else ByteArray.empty
theorem bk_no {s : ByteArray} {a : Int} (h : bkOk s a = false) : bkP s a = ByteArray.empty ∧ bkA s a = 0 := by simp [bkP, bkA, h]

/-- What stands from a place on (P8.3): so many rounds. -/
def whL (s : ByteArray) : Nat → Nat → List Int
  | 0, _ => []
  | n + 1, k => if gtOk s k = true then (k : Int) :: whL s n (getN s (k : Nat)) else []
def whE (s : ByteArray) : Nat → Nat → Nat
  | 0, k => k
  | n + 1, k => if gtOk s k = true then whE s n (getN s (k : Nat)) else k
def wlL (s : ByteArray) (a : Int) : List Int := if 0 ≤ a ∧ a ≤ s.size then whL s (s.size + 1) a.toNat else []
def wlE (s : ByteArray) (a : Int) : Nat := if 0 ≤ a ∧ a ≤ s.size then whE s (s.size + 1) a.toNat else 0
/-- More rounds than there are bytes left make no difference. -/
theorem wh_more (s : ByteArray) : ∀ (n m k : Nat), s.size < k + n → s.size < k + m → k ≤ s.size → whL s n k = whL s m k ∧ whE s n k = whE s m k
  | 0, m, k, h1, h2, hk => by omega
  | n + 1, 0, k, h1, h2, hk => by omega
  | n + 1, m + 1, k, h1, h2, hk => by
    unfold whL whE
    by_cases h : gtOk s k = true
    · have hl := getN_lt h
      obtain ⟨e1, e2⟩ := wh_more s n m (getN s (k : Nat)) (by omega) (by omega) (by omega)
      rw [if_pos h, if_pos h, if_pos h, if_pos h, e1, e2]
      exact ⟨rfl, rfl⟩
    · rw [if_neg h, if_neg h, if_neg h, if_neg h]
      exact ⟨rfl, rfl⟩
theorem wh_step {s : ByteArray} {k : Nat} (hk : k ≤ s.size) (h : gtOk s k = true) :
    whL s (s.size + 1) k = (k : Int) :: whL s (s.size + 1) (getN s (k : Nat)) ∧ whE s (s.size + 1) k = whE s (s.size + 1) (getN s (k : Nat)) := by
  have hl := getN_lt h
  obtain ⟨e1, e2⟩ := wh_more s s.size (s.size + 1) (getN s (k : Nat)) (by omega) (by omega) (by omega)
  constructor
  · rw [whL, if_pos h, e1]
  · rw [whE, if_pos h, e2]
theorem wh_stop {s : ByteArray} {k : Nat} (h : gtOk s k = false) : whL s (s.size + 1) k = [] ∧ whE s (s.size + 1) k = k := by
  constructor
  · rw [whL, if_neg (by rw [h]; decide)]
  · rw [whE, if_neg (by rw [h]; decide)]
end Go.Proofs.YtedbgimmbapfaaaGreat

/- SumsIntoRef -/
namespace Go.Proofs.YtedbgimmbapfaaaGreat
open Go.RowKit
set_option linter.unusedVariables false

/-- The document's state, when k of the byte's bits went in. -/
def refS (x c k : Nat) : Nat := stk k (x ^^^ c % 2 ^ k)
theorem refS_zero (x c : Nat) : refS x c 0 = x := by simp [refS, stk, Nat.mod_one]
theorem refS_all (x c : Nat) (hc : c < 256) : refS x c 8 = intoS x c := by
  unfold refS intoS
  rw [show c % 2 ^ 8 = c from Nat.mod_eq_of_lt hc]
theorem refS_lt (x c k : Nat) (hx : x < 4294967296) (hc : c < 256) : refS x c k < 4294967296 := by
  have h1 := Nat.mod_le c (2 ^ k)
  exact stk_lt k (xor_lt hx (by omega))
theorem mod_step (c k : Nat) : c % 2 ^ (k + 1) = c % 2 ^ k ^^^ 2 ^ k * (c / 2 ^ k % 2) := by
  have hl : c % 2 ^ k < 2 ^ k := Nat.mod_lt _ (Nat.two_pow_pos k)
  apply Nat.eq_of_testBit_eq
  intro i
  have h0 := Nat.testBit_two_pow_mul_add (c / 2 ^ k % 2) (b := 0) (i := k) (Nat.two_pow_pos k) i
  rw [Nat.add_zero] at h0
  rw [Nat.testBit_xor, h0, Nat.testBit_mod_two_pow, Nat.testBit_mod_two_pow, Nat.zero_testBit]
  by_cases h1 : i < k
  · simp [h1, show i < k + 1 by omega]
  · by_cases h2 : i = k
    · subst h2
      have h3 : (c / 2 ^ i % 2).testBit 0 = c.testBit i := by
        rw [Nat.testBit_zero, Nat.testBit_eq_decide_div_mod_eq]
        simp
      simp [h3]
    · have h3 : i - k ≠ 0 := by omega
      have h4 : (c / 2 ^ k % 2).testBit (i - k) = false := by
        apply Nat.testBit_lt_two_pow
        have h5 : 2 ^ 1 ≤ 2 ^ (i - k) := Nat.pow_le_pow_right (by decide) (by omega)
        have h6 : c / 2 ^ k % 2 < 2 := Nat.mod_lt _ (by decide)
        omega
      simp [h1, h4, show ¬ i < k + 1 by omega]
theorem stp_bit (y b : Nat) (hb : b < 2) : stp (y ^^^ b) = y / 2 ^^^ ((y + b) % 2 * 3988292384) := by
  unfold stp
  have h1 : (y ^^^ b) / 2 = y / 2 ^^^ b / 2 := Nat.xor_div_two
  have h2 : (y ^^^ b) % 2 = y % 2 ^^^ b % 2 := Nat.xor_mod_two_pow (n := 1)
  have h3 : b / 2 = 0 := by omega
  rw [h3, Nat.xor_zero] at h1
  rw [h1, h2]
  congr 2
  have e1 : (y + b) % 2 = (y % 2 + b) % 2 := by omega
  have e2 : b % 2 = b := by omega
  rw [e1, e2]
  have h4 : y % 2 < 2 := Nat.mod_lt _ (by decide)
  generalize y % 2 = r at *
  match r, b, h4, hb with
  | 0, 0, _, _ => rfl
  | 0, 1, _, _ => rfl
  | 1, 0, _, _ => rfl
  | 1, 1, _, _ => rfl
theorem refS_step (x c k : Nat) : refS x c (k + 1) = refS x c k / 2 ^^^ ((refS x c k + c / 2 ^ k) % 2 * 3988292384) := by
  have h : (refS x c k + c / 2 ^ k) % 2 = (refS x c k + c / 2 ^ k % 2) % 2 := by omega
  rw [h, ← stp_bit _ _ (Nat.mod_lt _ (by decide))]
  unfold refS
  rw [stk_one, mod_step, ← Nat.xor_assoc, stk_xor k, stk_shift]
theorem refS_one {x c k : Nat} (hx : refS x c k < 4294967296) (h : (((refS x c k : Nat) : Int) + (c : Int) / 2 ^ k) % 2 = 1) : bits .xor .u32 (((refS x c k : Nat) : Int) / 2) 3988292384 = ((refS x c (k + 1) : Nat) : Int) := by
  have e : (c : Int) / 2 ^ k = ((c / 2 ^ k : Nat) : Int) := by rw [Int.natCast_ediv, Int.natCast_pow]; rfl
  rw [e] at h
  rw [refS_step]
  generalize refS x c k = y at *
  generalize c / 2 ^ k = z at *
  have h1 : (y + z) % 2 = 1 := by omega
  have h3 : (y : Int) / 2 = ((y / 2 : Nat) : Int) := by omega
  rw [h1, Nat.one_mul, h3]
  exact u32_xor_nat _ _ (by omega) (by decide)
theorem refS_nought {x c k : Nat} (h : ¬ (((refS x c k : Nat) : Int) + (c : Int) / 2 ^ k) % 2 = 1) : ((refS x c k : Nat) : Int) / 2 = ((refS x c (k + 1) : Nat) : Int) := by
  have e : (c : Int) / 2 ^ k = ((c / 2 ^ k : Nat) : Int) := by rw [Int.natCast_ediv, Int.natCast_pow]; rfl
  rw [e] at h
  rw [refS_step]
  generalize refS x c k = y at *
  generalize c / 2 ^ k = z at *
  have h1 : (y + z) % 2 = 0 := by omega
  rw [h1, Nat.zero_mul, Nat.xor_zero]
  omega

end Go.Proofs.YtedbgimmbapfaaaGreat
